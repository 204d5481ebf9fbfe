/-
  What the program's word comes to.
-/
import Derived.Test.YtpifbmcgadjhbaaGreatDoorLexFns
namespace Go.Proofs.YtpifbmcgadjhbaaGreatDoor
open Go.RowKit

set_option maxHeartbeats 2000000 in
set_option maxRecDepth 3000 in
theorem lexWord_any (l : List UInt8) (p : Nat) (w : World) (hp : p ≤ l.length) (hl : l.length ≤ 50000000) {x : Lm.Mark × Nat}
    (hx : x = if Lm.word l p = Lm.TRUE then (⟨7, p, p + 4, 0, []⟩, 0) else if Lm.word l p = Lm.FALSE then (⟨8, p, p + 5, 0, []⟩, 0) else (Lm.zero, 3)) :
    Calls Tryz.prog 108 #[.string (S l), .int .i64 (p : Int)] w fun e w' => e = Lm.MR x ∧ Below w.heap.size w w' := by
  have z1 := S_size l
  have hat := Tx_at l
  have HX := Lib.hid hx
  clear hx
  obtain ⟨E, hE⟩ : ∃ E, p + Lm.run Lm.az l p = E := ⟨_, rfl⟩
  have hEl : E ≤ l.length := by rw [← hE]; exact Lm.run_le _ _ _ hp
  have HE : Hid (E = p + Lm.run Lm.az l p) := hE.symm
  have hsl : (S l).extract p E = S (Lm.word l p) := by rw [← hE, Tx_mid, Lm.word_take]
  clear hE
  obtain ⟨W1, hW1⟩ : ∃ W1, W1 = w.alloc (.cells #[.int .u8 0, .int .i64 0, .int .i64 0, .int .i64 0, .string ⟨#[]⟩] 85) := ⟨_, rfl⟩
  have HB1 : Hid (Below w.heap.size w W1) := by rw [hW1]; exact (Below.refl _ _).alloc (Nat.le_refl _) _
  have HH1 : NAt w.heap.size W1 := by rw [hW1]; exact MkAt.new ..
  go_enter Tryz.func108, Tryz.ntmps108
  go_wp2_with fail
  rw [← hW1]
  clear hW1
  go_loopw [6] (fun iv wr => ∃ q : Nat, iv = .int .i64 (q : Int) ∧ p ≤ q ∧ q ≤ l.length ∧ Hid (E = q + Lm.run Lm.az l q) ∧ W1 = wr) (fun iv _ => l.length - (intOf iv).toNat)
  case atStart => exact ⟨p, rfl, Nat.le_refl _, hp, HE, rfl⟩
  case round =>
    obtain ⟨q, rfl, hpq, hq, HQ, rfl⟩ := hrel
    by_cases hr : q < l.length ∧ 97 ≤ (Tx.bt l q : Int) ∧ (Tx.bt l q : Int) ≤ 122
    · obtain ⟨hlt, m1, m2⟩ := hr
      obtain ⟨d, hd, hdr⟩ := Tx.drop_cons hlt
      obtain ⟨y, hy⟩ : ∃ y : Int, y = (d.toNat : Int) := ⟨_, rfl⟩
      have hby : (Tx.bt l q : Int) = y := by rw [hy, hd]
      have HW : Hid (Lm.az d = Lm.azN y) := Lm.az_is hy
      have HD := Lib.hid hdr
      rw [hby] at m1 m2
      clear hy hd hdr hsl
      go_wp2_with fail
      go_roundw
      · have hm : Lm.az d = true := by
          rw [HW.out]
          unfold Lm.azN
          simp only [Bool.and_eq_true, decide_eq_true_eq]
          omega
        refine ⟨q + 1, rfl, by omega, by omega, ?_, by first | trivial | rfl⟩
        rw [Hid, HQ.out, Lm.run_cons HD.out hm]
        omega
      · simp [intOf]; omega
    · have hz : Lm.run Lm.az l q = 0 := by
        by_cases hlt : q < l.length
        · obtain ⟨d, hd, hdr⟩ := Tx.drop_cons hlt
          refine Lm.run_stop hdr ?_
          rw [Lm.az_is (rfl : (d.toNat : Int) = (d.toNat : Int)), Bool.eq_false_iff]
          unfold Lm.azN
          intro hh
          simp only [Bool.and_eq_true, decide_eq_true_eq] at hh
          exact hr ⟨hlt, by rw [← hd]; exact hh.1, by rw [← hd]; exact hh.2⟩
        · exact Lm.run_end (by omega)
      obtain rfl : q = E := by have := HQ.out; omega
      have hc : ¬ (q : Int) < (l.length : Int) ∨ ((q : Int) < (l.length : Int) ∧ ¬ 97 ≤ (Tx.bt l q : Int)) ∨ ((q : Int) < (l.length : Int) ∧ 97 ≤ (Tx.bt l q : Int) ∧ ¬ (Tx.bt l q : Int) ≤ 122) := by omega
      obtain ⟨y, hby⟩ : ∃ y : Int, (Tx.bt l q : Int) = y := ⟨_, rfl⟩
      rw [hby] at hc
      have hEl' : (q : Int) ≤ (l.length : Int) := by omega
      have hEp' : (p : Int) ≤ (q : Int) := by omega
      have eT : (⟨#[116, 114, 117, 101]⟩ : ByteArray).toList = Lm.TRUE := S_toList Lm.TRUE
      have eF : (⟨#[102, 97, 108, 115, 101]⟩ : ByteArray).toList = Lm.FALSE := S_toList Lm.FALSE
      have eS := S_toList (Lm.word l p)
      have hwl : q = p + (Lm.word l p).length := HE.out
      clear hr hz HQ
      rcases Classical.em (Lm.word l p = Lm.TRUE) with hw | hw
      · have hb1 : ((S (Lm.word l p)).toList == Lm.TRUE) = true := by rw [eS, hw]; rfl
        have hb1' : ((S (Lm.word l p)).toList == [116, 114, 117, 101]) = true := hb1
        have HM : Hid (x = (⟨7, p, q, 0, []⟩, 0)) := by
          rw [Hid, HX.out, if_pos hw, hwl, hw]
          rfl
        clear hwl hw HX HE
        generalize Lm.word l p = W at *
        clear eS
        rcases hc with h | ⟨h, h2⟩ | ⟨h, h2, h3⟩
        all_goals
          obtain ⟨⟨q0, q1, q2, q3, q4⟩, qf⟩ := HH1.cells
          go_wp2_with fail
          refine bodyPost_ret (results_lex (fn := Tryz.f108) (t := 4) (u := 5) rfl _ _ rfl (NAt.set5 HH1 _ _ _ _ _) rfl) rfl ?_
          exact ⟨Lm.ret_mr HM.out rfl rfl rfl rfl rfl, below_set5 HB1.out (Nat.le_refl _) _ _ _ _ _⟩
      rcases Classical.em (Lm.word l p = Lm.FALSE) with hw2 | hw2
      · have hb1 : ((S (Lm.word l p)).toList == Lm.TRUE) = false := by rw [eS, hw2]; rfl
        have hb1' : ((S (Lm.word l p)).toList == [116, 114, 117, 101]) = false := hb1
        have hb2 : ((S (Lm.word l p)).toList == Lm.FALSE) = true := by rw [eS, hw2]; rfl
        have hb2' : ((S (Lm.word l p)).toList == [102, 97, 108, 115, 101]) = true := hb2
        have HM : Hid (x = (⟨8, p, q, 0, []⟩, 0)) := by
          rw [Hid, HX.out, if_neg hw, if_pos hw2, hwl, hw2]
          rfl
        clear hwl hw hw2 HX HE
        generalize Lm.word l p = W at *
        clear eS
        rcases hc with h | ⟨h, h2⟩ | ⟨h, h2, h3⟩
        all_goals
          obtain ⟨⟨q0, q1, q2, q3, q4⟩, qf⟩ := HH1.cells
          go_wp2_with fail
          refine bodyPost_ret (results_lex (fn := Tryz.f108) (t := 4) (u := 5) rfl _ _ rfl (NAt.set5 HH1 _ _ _ _ _) rfl) rfl ?_
          exact ⟨Lm.ret_mr HM.out rfl rfl rfl rfl rfl, below_set5 HB1.out (Nat.le_refl _) _ _ _ _ _⟩
      · have hb1 : ((S (Lm.word l p)).toList == Lm.TRUE) = false := by rw [eS]; exact beq_eq_false_iff_ne.2 hw
        have hb1' : ((S (Lm.word l p)).toList == [116, 114, 117, 101]) = false := hb1
        have hb2 : ((S (Lm.word l p)).toList == Lm.FALSE) = false := by rw [eS]; exact beq_eq_false_iff_ne.2 hw2
        have hb2' : ((S (Lm.word l p)).toList == [102, 97, 108, 115, 101]) = false := hb2
        have HM : Hid (x = (⟨0, 0, 0, 0, []⟩, 3)) := by
          rw [Hid, HX.out, if_neg hw, if_neg hw2]
          rfl
        clear hwl hw hw2 HX HE
        generalize Lm.word l p = W at *
        clear eS
        rcases hc with h | ⟨h, h2⟩ | ⟨h, h2, h3⟩
        all_goals
          obtain ⟨⟨q0, q1, q2, q3, q4⟩, qf⟩ := HH1.cells
          go_wp2_with fail
          refine bodyPost_ret (results_lex (fn := Tryz.f108) (t := 4) (u := 5) rfl _ _ rfl (NAt.set5 HH1 _ _ _ _ _) rfl) rfl ?_
          exact ⟨Lm.ret_mr HM.out rfl rfl rfl rfl rfl, below_set5 HB1.out (Nat.le_refl _) _ _ _ _ _⟩
end Go.Proofs.YtpifbmcgadjhbaaGreatDoor
