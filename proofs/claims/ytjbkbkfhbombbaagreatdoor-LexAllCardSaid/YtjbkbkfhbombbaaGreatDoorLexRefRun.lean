/-
  What the document's Behind and word come to.
-/
import Derived.Test.YtjbkbkfhbombbaaGreatDoorLexMath
namespace Go.Proofs.YtjbkbkfhbombbaaGreatDoor
open Go.RowKit

set_option maxHeartbeats 1000000 in
set_option maxRecDepth 3000 in
theorem behind_any (l : List UInt8) (p : Nat) (w : World) (hp : p ≤ l.length) (hl : l.length ≤ 100000000) {E : Nat} (hE : p + Lm.run Lm.ws l p = E) :
    Calls Tryz.prog 12 #[.string (S l), .int .i64 (p : Int)] w fun e w' => e = .returned (.int .i64 (E : Int)) ∧ w = w' := by
  have z1 := S_size l
  have HE : Hid (E = p + Lm.run Lm.ws l p) := hE.symm
  clear hE
  have hat := Tx_at l
  go_enter Tryz.func12, Tryz.ntmps12
  go_wp2_with fail
  go_loopw [1] (fun iv wr => ∃ q : Nat, iv = .int .i64 (q : Int) ∧ q ≤ l.length ∧ Hid (E = q + Lm.run Lm.ws l q) ∧ w = wr) (fun iv _ => l.length - (intOf iv).toNat)
  case atStart => exact ⟨p, rfl, hp, HE, rfl⟩
  case round =>
    obtain ⟨q, rfl, hq, HX, rfl⟩ := hrel
    by_cases hlt : (q : Int) < (l.length : Int)
    · obtain ⟨d, hd, hdr⟩ := Tx.drop_cons (show q < l.length by omega)
      have hql : q < l.length := by omega
      obtain ⟨x, hx⟩ : ∃ x : Int, x = (d.toNat : Int) := ⟨_, rfl⟩
      have hbx : (Tx.bt l q : Int) = x := by rw [hx, hd]
      have hx0 : 0 ≤ x ∧ x ≤ 255 := by have := d.toNat_lt; omega
      have HW : Hid (Lm.ws d = Lm.wsN x) := Lm.ws_is hx
      have HD := Lib.hid hdr
      clear hx hd hdr
      go_wp2_with fail
      all_goals first
        | (go_roundw
           · have hm : Lm.ws d = true := by
               rw [HW.out]
               unfold Lm.wsN
               simp only [Bool.or_eq_true, decide_eq_true_eq]
               try simp only [beq_iff_eq] at *
               omega
             refine ⟨q + 1, rfl, by omega, ?_, by first | trivial | rfl⟩
             rw [Hid, HX.out, Lm.run_cons HD.out hm]
             omega
           · simp [intOf]; omega)
        | (go_ret
           have hm : Lm.ws d = false := by
             rw [HW.out, Bool.eq_false_iff]
             unfold Lm.wsN
             intro hh
             simp only [Bool.or_eq_true, decide_eq_true_eq] at hh
             try simp only [beq_eq_false_iff_ne, ne_eq] at *
             omega
           exact ⟨ret_int (by rw [HX.out, Lm.run_stop HD.out hm]; rfl), rfl⟩)
    · go_wp2_with fail
      go_ret
      exact ⟨ret_int (by rw [HX.out, Lm.run_end (by omega)]; rfl), rfl⟩
set_option maxHeartbeats 1000000 in
set_option maxRecDepth 3000 in
theorem word_any (l : List UInt8) (p : Nat) (w : World) (hp : p ≤ l.length) (hl : l.length ≤ 100000000) {E : Nat} (hE : p + Lm.run Lm.az l p = E) :
    Calls Tryz.prog 15 #[.string (S l), .int .i64 (p : Int)] w fun e w' => e = .returned (.int .i64 (E : Int)) ∧ w = w' := by
  have z1 := S_size l
  have HE : Hid (E = p + Lm.run Lm.az l p) := hE.symm
  clear hE
  have hat := Tx_at l
  go_enter Tryz.func15, Tryz.ntmps15
  go_wp2_with fail
  go_loopw [1] (fun iv wr => ∃ q : Nat, iv = .int .i64 (q : Int) ∧ q ≤ l.length ∧ Hid (E = q + Lm.run Lm.az l q) ∧ w = wr) (fun iv _ => l.length - (intOf iv).toNat)
  case atStart => exact ⟨p, rfl, hp, HE, rfl⟩
  case round =>
    obtain ⟨q, rfl, hq, HX, rfl⟩ := hrel
    by_cases hlt : (q : Int) < (l.length : Int)
    · obtain ⟨d, hd, hdr⟩ := Tx.drop_cons (show q < l.length by omega)
      have hql : q < l.length := by omega
      obtain ⟨x, hx⟩ : ∃ x : Int, x = (d.toNat : Int) := ⟨_, rfl⟩
      have hbx : (Tx.bt l q : Int) = x := by rw [hx, hd]
      have hx0 : 0 ≤ x ∧ x ≤ 255 := by have := d.toNat_lt; omega
      have HW : Hid (Lm.az d = Lm.azN x) := Lm.az_is hx
      have HD := Lib.hid hdr
      clear hx hd hdr
      go_wp2_with fail
      all_goals first
        | (go_roundw
           · have hm : Lm.az d = true := by
               rw [HW.out]
               unfold Lm.azN
               simp only [Bool.and_eq_true, decide_eq_true_eq]
               try simp only [beq_iff_eq] at *
               omega
             refine ⟨q + 1, rfl, by omega, ?_, by first | trivial | rfl⟩
             rw [Hid, HX.out, Lm.run_cons HD.out hm]
             omega
           · simp [intOf]; omega)
        | (go_ret
           have hm : Lm.az d = false := by
             rw [HW.out, Bool.eq_false_iff]
             unfold Lm.azN
             intro hh
             simp only [Bool.and_eq_true, decide_eq_true_eq] at hh
             try simp only [beq_eq_false_iff_ne, ne_eq] at *
             omega
           exact ⟨ret_int (by rw [HX.out, Lm.run_stop HD.out hm]; rfl), rfl⟩)
    · go_wp2_with fail
      go_ret
      exact ⟨ret_int (by rw [HX.out, Lm.run_end (by omega)]; rfl), rfl⟩
end Go.Proofs.YtjbkbkfhbombbaaGreatDoor
