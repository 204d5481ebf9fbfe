/-
  NumOther.
-/
import Derived.Test.YtkbgbhmlpdbgcaaDoorNumAwake
namespace Go.Proofs.YtkbgbhmlpdbgcaaDoor
open Go.RowKit
open Go.Lib (itoa)

set_option maxHeartbeats 1000000 in
theorem more_any (b : UInt8) (w : World) :
    Calls Tryd.prog 17 #[.int .u8 (b.toNat : Int)] w fun e w' => e = .returned (.bool (Nm.more b)) ∧ w = w' := by
  rw [← Nm.mr_is]
  have hb := b.toNat_lt
  obtain ⟨x, hx⟩ : ∃ x : Int, x = (b.toNat : Int) := ⟨_, rfl⟩
  rw [← hx]
  have hx0 : 0 ≤ x ∧ x ≤ 255 := by omega
  clear hx hb
  go_enter Tryd.func17, Tryd.ntmps17
  go_wp2_with fail
  all_goals
    go_ret
    refine ⟨ret_bool ?_, rfl⟩
    rw [Bool.eq_iff_iff]
    unfold Nm.mr
    simp
    try omega
theorem Nm.txt_self {l : List UInt8} (h : l.all Nm.more = true) : Nm.txt l 0 = l := by
  show (l.drop 0).takeWhile Nm.more = l
  rw [List.drop_zero]
  induction l with
  | nil => rfl
  | cons a r ih =>
    simp only [List.all_cons, Bool.and_eq_true] at h
    rw [List.takeWhile_cons, if_pos h.1, ih h.2]
theorem Nm.READ0 {l : List UInt8} (h : l.all Nm.more = true) :
    Nm.READ l 0 = if Nm.form l then (if Nm.inR (Nm.val l) then (Nm.val l, (l.length : Int), 0) else (0, 0, 9)) else (0, 0, 3) := by
  unfold Nm.READ
  rw [if_pos (by omega), show (0 : Int).toNat = 0 from rfl, Nm.txt_self h, Int.zero_add]
theorem Nm.inR_iff {z : Int} : Nm.inR z = true ↔ -9223372036854775808 ≤ z ∧ z ≤ 9223372036854775807 := by unfold Nm.inR; simp
theorem Nm.more_step {l : List UInt8} {i : Nat} {d : UInt8} (hi : i < l.length) (hd : d.toNat = Tx.bt l i) (hm : Nm.more d = true) (h : (l.take i).all Nm.more = true) : (l.take (i + 1)).all Nm.more = true := by
  have : l[i] = d := UInt8.toNat.inj (by rw [hd, Tx.bt_get hi])
  rw [List.take_add_one, List.getElem?_eq_getElem hi, List.all_append, h, this]
  simp [hm]
set_option maxHeartbeats 2000000 in
set_option maxRecDepth 3000 in
theorem law_NumOther (t : ByteArray) (w : World) (_ : t.size ≤ maxLen) (hT : TabN w) :
    Calls Tryd.prog 9 #[.string t] w fun e w' => e = .returned (.bool true) ∧ Below w.heap.size w w' := by
  obtain ⟨l, rfl⟩ := as_S t
  have z := S_size l
  by_cases hl : (3000 : Int) < (l.length : Int)
  · go_enter Tryd.func9, Tryd.ntmps9
    go_wp2_with fail
    refine (awake_any w hT).mono ?_; rintro e w1 ⟨rfl, hb⟩
    go_wp2_with fail
    go_ret
    exact ⟨rfl, hb⟩
  have hat := Tx_at l
  go_enter Tryd.func9, Tryd.ntmps9
  go_wp2_with fail
  refine (awake_any w hT).mono ?_; rintro e w1 ⟨rfl, hb1⟩
  go_wp2_with fail
  go_loopw [3] (fun iv wr => ∃ i : Nat, iv = .int .i64 (i : Int) ∧ i ≤ l.length ∧ Hid ((l.take i).all Nm.more = true) ∧ Below w.heap.size w wr) (fun iv _ => l.length - (intOf iv).toNat)
  case atStart => exact ⟨0, rfl, Nat.zero_le _, rfl, hb1⟩
  case round =>
    obtain ⟨i, rfl, hi, HA, hbel⟩ := hrel
    by_cases hlt : (i : Int) < (l.length : Int)
    · obtain ⟨d, hd, hdr⟩ := Tx.drop_cons (show i < l.length by omega)
      have hM := fun w => more_any d w
      rw [hd] at hM
      have hby := Tx.bt_lt l i
      cases hm : Nm.more d with
      | true =>
        have HS := Lib.hid (Nm.more_step (show i < l.length by omega) hd hm HA.out)
        have HM := Lib.hid hm
        clear hm hd hdr
        go_wp2_with fail
        refine (hM _).mono ?_; rintro e w2 ⟨rfl, rfl⟩
        rw [HM.out]
        go_wp2_with fail
        go_roundw
        case rel => exact ⟨i + 1, rfl, by omega, HS, hbel⟩
        case measure => simp [intOf]; omega
      | false =>
        have HM := Lib.hid hm
        clear hm hd hdr
        go_wp2_with fail
        refine (hM _).mono ?_; rintro e w2 ⟨rfl, rfl⟩
        rw [HM.out]
        go_wp2_with fail
        go_ret
        exact ⟨rfl, hbel⟩
    · have hall : l.all Nm.more = true := by
        have := HA.out
        rw [List.take_of_length_le (by omega)] at this
        exact this
      have c := Read_any l 0 wr (hT.below hbel) (by omega)
      rw [Nm.READ0 hall] at c
      have f := fun w => refForm_any l w (by omega)
      clear hall HA
      cases hf : Nm.form l with
      | false =>
        rw [hf] at c f
        simp only [Bool.false_eq_true, ↓reduceIte] at c
        clear hf
        go_wp2_with fail
        refine c.mono ?_; rintro e w2 ⟨rfl, b2⟩
        have c2 := hbel.trans (b2.mono hbel.size)
        clear b2
        go_wp2_with fail
        refine (f _).mono ?_; rintro e w3 ⟨rfl, b3⟩
        go_wp2_with fail
        go_ret
        exact ⟨ret_bool (by simp), c2.trans (b3.mono c2.size)⟩
      | true =>
        rw [hf] at c f
        cases hr : Nm.inR (Nm.val l) with
        | true =>
          rw [hr] at c
          simp only [↓reduceIte] at c
          have hv := Nm.inR_iff.1 hr
          have d := fun w hT => Show_any (Nm.val l) w hT hv.1 hv.2
          rw [Nm.itoa_val hf] at d
          clear hf hr
          generalize Nm.val l = v at *
          go_wp2_with fail
          refine c.mono ?_; rintro e w2 ⟨rfl, b2⟩
          have c2 := hbel.trans (b2.mono hbel.size)
          clear b2
          go_wp2_with fail
          refine (f _).mono ?_; rintro e w3 ⟨rfl, b3⟩
          have c3 := c2.trans (b3.mono c2.size)
          clear b3 c2
          go_wp2_with fail
          refine (d _ (hT.below c3)).mono ?_; rintro e w4 ⟨rfl, b4⟩
          go_wp2_with fail
          go_ret
          exact ⟨ret_bool (by simp), c3.trans (b4.mono c3.size)⟩
        | false =>
          rw [hr] at c
          simp only [Bool.false_eq_true, ↓reduceIte] at c
          have h19 := Nm.out_long hf hr
          clear hf hr
          go_wp2_with fail
          refine c.mono ?_; rintro e w2 ⟨rfl, b2⟩
          have c2 := hbel.trans (b2.mono hbel.size)
          clear b2
          go_wp2_with fail
          refine (f _).mono ?_; rintro e w3 ⟨rfl, b3⟩
          have c3 := c2.trans (b3.mono c2.size)
          clear b3 c2
          go_wp2_with fail
          go_ret
          exact ⟨ret_bool (by simp), c3⟩
end Go.Proofs.YtkbgbhmlpdbgcaaDoor
