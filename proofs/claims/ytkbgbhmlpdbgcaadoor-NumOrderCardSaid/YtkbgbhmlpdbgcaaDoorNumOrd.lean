/-
  Of two numbers the greater text.
-/
import Derived.Test.YtkbgbhmlpdbgcaaDoorNumLawB
namespace Go.Proofs.YtkbgbhmlpdbgcaaDoor
open Go.RowKit
open Go.Lib (itoa decDigits)

theorem Nm.less_nat : ∀ (x y : List UInt8) (acc : Nat), x.length = y.length → x.all Nm.dig = true → y.all Nm.dig = true → (Op.bytesLess x y = true ↔ Nm.nat acc x < Nm.nat acc y)
  | [], [], acc, _, _, _ => by
    show (false = true) ↔ acc < acc
    simp
  | [], _ :: _, _, h, _, _ => by simp at h
  | _ :: _, [], _, h, _, _ => by simp at h
  | c :: x, d :: y, acc, h, hx, hy => by
    simp only [List.length_cons, Nat.add_right_cancel_iff] at h
    simp only [List.all_cons, Bool.and_eq_true] at hx hy
    have hc := Nm.dig_iff.1 hx.1
    have hd := Nm.dig_iff.1 hy.1
    show (Op.bytesLess (c :: x) (d :: y) = true) ↔ Nm.nat (acc * 10 + (c.toNat - 48)) x < Nm.nat (acc * 10 + (d.toNat - 48)) y
    have h1 := Nm.nat_lt (acc * 10 + (c.toNat - 48)) x hx.2
    have h2 := Nm.nat_acc (acc * 10 + (d.toNat - 48)) y
    have h3 := Nm.nat_lt (acc * 10 + (d.toNat - 48)) y hy.2
    have h4 := Nm.nat_acc (acc * 10 + (c.toNat - 48)) x
    rw [h] at h1 h4
    have hp := Nat.pow_pos (n := y.length) (show 0 < 10 by omega)
    rcases Nat.lt_trichotomy c.toNat d.toNat with hlt | heq | hgt
    · have hb : Op.bytesLess (c :: x) (d :: y) = true := by
        show (decide (c < d) || (c == d && Op.bytesLess x y)) = true
        rw [decide_eq_true (UInt8.lt_iff_toNat_lt.2 hlt)]
        rfl
      refine ⟨fun _ => ?_, fun _ => hb⟩
      have : (acc * 10 + (c.toNat - 48) + 1) * 10 ^ y.length ≤ (acc * 10 + (d.toNat - 48)) * 10 ^ y.length := Nat.mul_le_mul_right _ (by omega)
      omega
    · have hcd : c = d := UInt8.toNat.inj heq
      subst hcd
      have hb : Op.bytesLess (c :: x) (c :: y) = Op.bytesLess x y := by rw [Op.bytesLess]; simp
      rw [hb]
      exact Nm.less_nat x y _ h hx.2 hy.2
    · have hb : Op.bytesLess (c :: x) (d :: y) = false := by
        show (decide (c < d) || (c == d && Op.bytesLess x y)) = false
        rw [decide_eq_false (fun h' => by have := UInt8.lt_iff_toNat_lt.1 h'; omega), beq_eq_false_iff_ne.2 (fun h' => by rw [h'] at hgt; omega)]
        rfl
      refine ⟨fun h' => absurd (hb.symm.trans h') Bool.false_ne_true, fun h' => ?_⟩
      exfalso
      have : (acc * 10 + (d.toNat - 48) + 1) * 10 ^ y.length ≤ (acc * 10 + (c.toNat - 48)) * 10 ^ y.length := Nat.mul_le_mul_right _ (by omega)
      omega
theorem Nm.len_lt {u v : Nat} (h : (decDigits u).length < (decDigits v).length) : u < v := by
  have h1 : u < 10 ^ (decDigits u).length := by
    have := Nm.nat_lt 0 (decDigits u) (Nm.dec_dig u)
    rw [Nm.nat_dec] at this
    omega
  have hu := Nm.dec_ne u
  have hv : 1 ≤ v := by
    refine Nat.pos_of_ne_zero fun h0 => ?_
    rw [h0, Nm.dec_zero] at h
    cases hd : decDigits u with
    | nil => exact hu hd
    | cons _ _ => rw [hd] at h; simp at h
  cases hd : decDigits v with
  | nil => exact absurd hd (Nm.dec_ne v)
  | cons c r =>
    have hp := Nm.pos_dec hv
    rw [hd] at hp h
    have h2 := Nm.pos_ge hp
    rw [← hd, Nm.nat_dec] at h2
    have h3 : 10 ^ (decDigits u).length ≤ 10 ^ r.length := Nat.pow_le_pow_right (by omega) (by simp at h; omega)
    omega
theorem Nm.less_dec (u v : Nat) : (decide ((decDigits u).length < (decDigits v).length) || (decide ((decDigits u).length = (decDigits v).length) && Op.bytesLess (decDigits u) (decDigits v))) = decide (u < v) := by
  rcases Nat.lt_trichotomy (decDigits u).length (decDigits v).length with h | h | h
  · rw [decide_eq_true h, decide_eq_true (Nm.len_lt h)]
    rfl
  · have := Nm.less_nat (decDigits u) (decDigits v) 0 h (Nm.dec_dig u) (Nm.dec_dig v)
    rw [Nm.nat_dec, Nm.nat_dec] at this
    rw [decide_eq_false (show ¬ (decDigits u).length < (decDigits v).length by omega), decide_eq_true h, Bool.false_or, Bool.true_and, Bool.eq_iff_iff, this, decide_eq_true_eq]
  · have := Nm.len_lt h
    rw [decide_eq_false (show ¬ (decDigits u).length < (decDigits v).length by omega), decide_eq_false (show ¬ (decDigits u).length = (decDigits v).length by omega), decide_eq_false (show ¬ u < v by omega)]
    rfl
/-- of two numbers of one sign -/
theorem Nm.less_itoa {a b : Int} (hs : a < 0 ↔ b < 0) :
    (decide ((itoa a).length < (itoa b).length) || (decide ((itoa a).length = (itoa b).length) && Op.bytesLess (itoa a) (itoa b))) = if a < 0 then decide (b < a) else decide (a < b) := by
  by_cases ha : a < 0
  · have hb := hs.1 ha
    rw [Nm.itoa_neg ha, Nm.itoa_neg hb, if_pos ha]
    have h := Nm.less_dec a.natAbs b.natAbs
    have hbb : Op.bytesLess (45 :: decDigits a.natAbs) (45 :: decDigits b.natAbs) = Op.bytesLess (decDigits a.natAbs) (decDigits b.natAbs) := by rw [Op.bytesLess]; simp
    rw [hbb, List.length_cons, List.length_cons]
    simp only [Nat.add_lt_add_iff_right, Nat.add_right_cancel_iff]
    rw [h, Bool.eq_iff_iff, decide_eq_true_eq, decide_eq_true_eq]
    omega
  · have hb : ¬ b < 0 := fun h => ha (hs.2 h)
    rw [Nm.itoa_nn ha, Nm.itoa_nn hb, if_neg ha, Nm.less_dec, Bool.eq_iff_iff, decide_eq_true_eq, decide_eq_true_eq]
    omega
theorem Nm.first_itoa (a : Int) : 0 < (itoa a).length ∧ (a < 0 → Tx.bt (itoa a) 0 = 45) ∧ (¬ a < 0 → Tx.bt (itoa a) 0 ≠ 45) := by
  have h0 : 0 < (itoa a).length := by
    have := Nm.form_ne (Nm.form_itoa a)
    cases h : itoa a with
    | nil => exact absurd h this
    | cons _ _ => simp
  refine ⟨h0, fun h => by rw [Nm.itoa_neg h]; rfl, fun h => ?_⟩
  rw [Nm.itoa_nn h] at h0 ⊢
  have hd := Nm.dig_iff.1 (List.all_eq_true.1 (Nm.dec_dig a.toNat) _ (List.getElem_mem h0))
  rw [Tx.bt_get h0]
  omega
end Go.Proofs.YtkbgbhmlpdbgcaaDoor
