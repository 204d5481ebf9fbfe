/-
  What num.textAt and the document's of come to.
-/
import Derived.Test.YtpifbmcgadjhbaaGreatDoorNumMath
import Derived.Test.YtpifbmcgadjhbaaGreatDoorText
import Derived.RegionTactic
import Derived.WalkMore
import Derived.Deep.LoopGhost
namespace Go.Proofs.YtpifbmcgadjhbaaGreatDoor
open Go.RowKit

/-- more, of a byte's number -/
def Nm.mr (x : Int) : Bool := decide (48 ≤ x ∧ x ≤ 57) || decide (x = 45) || decide (x = 43) || decide (x = 46) || decide (x = 101) || decide (x = 69)
theorem Nm.mr_is (b : UInt8) : Nm.mr (b.toNat : Int) = Nm.more b := by
  have key : ∀ k : UInt8, (decide ((b.toNat : Int) = (k.toNat : Int))) = (b == k) := fun k => by
    rw [Bool.eq_iff_iff, decide_eq_true_eq, beq_iff_eq]
    exact ⟨fun h => UInt8.toNat.inj (by omega), fun h => by rw [h]⟩
  unfold Nm.mr Nm.more Nm.dig
  rw [← key 45, ← key 43, ← key 46, ← key 101, ← key 69]
  congr 5
  rw [Bool.eq_iff_iff]
  simp
  omega
set_option maxHeartbeats 1000000 in
theorem numOf_any (b : UInt8) (w : World) :
    Calls Tryz.prog 90 #[.int .u8 (b.toNat : Int)] w fun e w' => e = .returned (.bool (Nm.more b)) ∧ w = w' := by
  rw [← Nm.mr_is]
  have hb := b.toNat_lt
  obtain ⟨x, hx⟩ : ∃ x : Int, x = (b.toNat : Int) := ⟨_, rfl⟩
  rw [← hx]
  have hx0 : 0 ≤ x ∧ x ≤ 255 := by omega
  clear hx hb
  go_enter Tryz.func90, Tryz.ntmps90
  go_wp2_with fail
  all_goals
    go_ret
    refine ⟨ret_bool ?_, rfl⟩
    rw [Bool.eq_iff_iff]
    unfold Nm.mr
    simp
    try omega
theorem Nm.mr_bt {l : List UInt8} {p : Nat} {d : UInt8} (hd : d.toNat = Tx.bt l p) : Nm.mr (Tx.bt l p : Int) = Nm.more d := by rw [← hd, Nm.mr_is]
set_option maxHeartbeats 2000000 in
set_option maxRecDepth 100000 in
theorem textAt_any (l : List UInt8) (k : Nat) (w : World) (hk : k ≤ l.length) (hl : l.length ≤ 100000000) :
    Calls Tryz.prog 141 #[.string (S l), .int .i64 (k : Int)] w fun e w' => e = .returned (.string (S (Nm.txt l k))) ∧ Below w.heap.size w w' := by
  have z1 := S_size l
  have hat := Tx_at l
  go_enter Tryz.func141, Tryz.ntmps141
  go_wp2_with fail
  go_step3
  go_wp2_with fail
  go_step3
  go_wp2_with fail
  go_loopw [5] (fun i wr => ∃ j : Nat, i = .int .i64 ((k + j : Nat) : Int) ∧ k + j ≤ l.length ∧ (Nm.txt l k).length = j + (Nm.txt l (k + j)).length ∧ Below w.heap.size w wr) (fun i _ => l.length - (intOf i).toNat)
  case atStart => exact ⟨0, rfl, hk, by simp, Below.refl _ _⟩
  case round =>
    obtain ⟨j, rfl, hj, hlen, hbel⟩ := hrel
    obtain ⟨p, hp⟩ : ∃ p, p = k + j := ⟨_, rfl⟩
    rw [← hp] at hj hlen
    have HLEN := Lib.hid hlen
    have HP := Lib.hid hp
    rw [← hp]
    have hkp : k ≤ p := by omega
    clear hlen hp
    by_cases hlt : (p : Int) < (l.length : Int)
    · obtain ⟨d, hd, hdr⟩ := Tx.drop_cons (show p < l.length by omega)
      have HM := Lib.hid (Nm.mr_bt hd)
      have HDR := Lib.hid hdr
      have hby := Tx.bt_lt l p
      clear hd hdr
      have hsl : (S l).extract k p = S ((l.drop k).take j) := by rw [HP.out, Tx_mid]
      go_wp2_with fail
      all_goals first
        | (go_roundw
           · have hm : Nm.more d = true := by
               rw [← HM.out]
               unfold Nm.mr
               simp_all
             have h2 := Nm.txt_cons HDR.out hm
             have e : k + (j + 1) = p + 1 := by have := HP.out; omega
             refine ⟨j + 1, by rw [HP.out]; congr 1, by omega, ?_, hbel⟩
             rw [e, HLEN.out, h2, List.length_cons]
             omega
           · simp [intOf]; omega)
        | (rw [Exit.noGoto_ret]
           go_ret
           have hm : Nm.more d = false := by
             rw [← HM.out]
             unfold Nm.mr
             simp_all
             omega
           have h2 := Nm.txt_stop HDR.out hm
           have h3 := HLEN.out
           rw [h2, List.length_nil, Nat.add_zero] at h3
           exact ⟨ret_str (by rw [← h3, Nm.txt_take]), hbel⟩)
    · have hsl : (S l).extract k p = S ((l.drop k).take j) := by rw [HP.out, Tx_mid]
      go_wp2_with fail
      go_ret
      have h2 := Nm.txt_end (l := l) (p := p) (by omega)
      have h3 := HLEN.out
      rw [h2, List.length_nil, Nat.add_zero] at h3
      exact ⟨ret_str (by rw [← h3, Nm.txt_take]), hbel⟩
end Go.Proofs.YtpifbmcgadjhbaaGreatDoor
