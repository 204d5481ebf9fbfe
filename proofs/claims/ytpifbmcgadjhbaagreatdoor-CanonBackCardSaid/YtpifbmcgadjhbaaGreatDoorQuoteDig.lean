/-
  What the digits of a number come to: quote.digit, join, four; expect, isFirst, isSecond.
-/
import Derived.Test.YtpifbmcgadjhbaaGreatDoorQuoteRead
import Derived.Test.YtpifbmcgadjhbaaGreatDoorUtfRefNext
import Derived.Test.YtpifbmcgadjhbaaGreatDoorHexVal
namespace Go.Proofs.YtpifbmcgadjhbaaGreatDoor
open Go.RowKit

theorem bt_nil (l : List UInt8) (p : Nat) (h : l.length ≤ p) : l.drop p = [] := List.drop_of_length_le h
theorem at_drop {l : List UInt8} {p : Nat} {d : UInt8} {t : List UInt8} (h : l.drop p = d :: t) : p < l.length ∧ Um.bt l p = d.toNat ∧ l.drop (p + 1) = t := by
  have h1 : p < l.length := by
    apply Nat.lt_of_not_le
    intro h'
    rw [List.drop_of_length_le h'] at h
    simp at h
  rw [List.drop_eq_getElem_cons h1] at h
  simp only [List.cons.injEq] at h
  refine ⟨h1, ?_, h.2⟩
  unfold Um.bt
  rw [List.getD_eq_getElem?_getD, List.getElem?_eq_getElem h1, Option.getD_some, h.1]
theorem drop_at {l : List UInt8} {p : Nat} (h : p < l.length) : ∃ d t, l.drop p = d :: t := ⟨_, _, List.drop_eq_getElem_cons h⟩

set_option maxHeartbeats 400000 in
theorem hexDigit_c (b : UInt8) (w : World) (hT : Tab w) :
    Calls Tryz.prog 208 #[.string (S [b]), .int .i64 0] w fun e w' => e = .returned (.tuple #[.int .i64 (Hm.hv (b.toNat : Int)), .bool (Hm.isD (b.toNat : Int))]) ∧ w = w' := by
  have z1 := S_size [b]
  have hat := S_at [b]
  have hb : Um.bt [b] 0 = b.toNat := rfl
  go_enter Tryz.func208, Tryz.ntmps208
  go_wp2_with (go_at_call 209; refine (value_any _ _ hT).mono ?_; rintro e w' ⟨rfl, rfl⟩)
  go_ret2
  exact ⟨rfl, rfl⟩
theorem ret_dig {c : UInt8} {a : Int} {b : Bool} (h1 : Hm.hv (Qm.lw (c.toNat : Int)) = a) (h2 : Hm.isD (Qm.lw (c.toNat : Int)) = b) :
    Ending.returned (.tuple #[.int .i64 a, .bool b]) = .returned (.tuple #[.int .i64 (Qm.dV c : Int), .bool (Qm.dB c)]) := by
  unfold Qm.dV Qm.dB
  rw [Int.toNat_of_nonneg (Hm.hv_bd _).1, h1, h2]
set_option maxHeartbeats 400000 in
theorem qdigit_any (c : UInt8) (w : World) (hT : Tab w) :
    Calls Tryz.prog 203 #[.int .u8 (c.toNat : Int)] w fun e w' => e = .returned (.tuple #[.int .i64 (Qm.dV c : Int), .bool (Qm.dB c)]) ∧ Below w.heap.size w w' := by
  have hc := c.toNat_lt
  obtain ⟨x, hx⟩ : ∃ x : Int, x = (c.toNat : Int) := ⟨_, rfl⟩
  have hx0 : 0 ≤ x ∧ x ≤ 255 := by omega
  have HX := Lib.hid hx
  rw [← hx]
  clear hx
  by_cases h1 : 65 ≤ x ∧ x ≤ 70
  · have hl : Hid (Qm.lw x = x + 32) := by unfold Hid Qm.lw; rw [if_pos h1]
    obtain ⟨h1, h2⟩ := h1
    have hcv := conv1 w (x + 32) (by omega) (by omega)
    have hb : ((UInt8.ofNat (x + 32).toNat).toNat : Int) = x + 32 := by rw [Um.ofNat_toNat' _ (by omega)]; omega
    generalize UInt8.ofNat (x + 32).toNat = b at *
    have HB := Lib.hid hb
    clear hb
    have hT' : Tab (w.alloc (.cells #[.int .u8 (x + 32)] 5)) := hT.below ((Below.refl w.heap.size w).alloc (Nat.le_refl _) _) hT.lt
    go_enter Tryz.func203, Tryz.ntmps203
    go_wp2_with (go_at_call 208; refine (hexDigit_c b _ hT').mono ?_; rintro e w' ⟨rfl, rfl⟩)
    go_ret2
    refine ⟨ret_dig ?_ ?_, (Below.refl _ _).alloc (Nat.le_refl _) _⟩
    · rw [← HX.out, hl.out, HB.out]
    · rw [← HX.out, hl.out, HB.out]
  · have hl : Hid (Qm.lw x = x) := by unfold Hid Qm.lw; rw [if_neg h1]
    have hcv := conv1 w x (by omega) (by omega)
    have hb : ((UInt8.ofNat x.toNat).toNat : Int) = x := by rw [Um.ofNat_toNat' _ (by omega)]; omega
    generalize UInt8.ofNat x.toNat = b at *
    have HB := Lib.hid hb
    clear hb
    have hT' : Tab (w.alloc (.cells #[.int .u8 x] 5)) := hT.below ((Below.refl w.heap.size w).alloc (Nat.le_refl _) _) hT.lt
    by_cases h2 : 65 ≤ x
    · have h3 : ¬ x ≤ 70 := by omega
      clear h1
      go_enter Tryz.func203, Tryz.ntmps203
      go_wp2_with (go_at_call 208; refine (hexDigit_c b _ hT').mono ?_; rintro e w' ⟨rfl, rfl⟩)
      go_ret2
      refine ⟨ret_dig ?_ ?_, (Below.refl _ _).alloc (Nat.le_refl _) _⟩
      · rw [← HX.out, hl.out, HB.out]
      · rw [← HX.out, hl.out, HB.out]
    · clear h1
      go_enter Tryz.func203, Tryz.ntmps203
      go_wp2_with (go_at_call 208; refine (hexDigit_c b _ hT').mono ?_; rintro e w' ⟨rfl, rfl⟩)
      go_ret2
      refine ⟨ret_dig ?_ ?_, (Below.refl _ _).alloc (Nat.le_refl _) _⟩
      · rw [← HX.out, hl.out, HB.out]
      · rw [← HX.out, hl.out, HB.out]

theorem isS_at (n : Nat) (w : World) {b : Bool} (hb : Qm.isS n = b) :
    Calls Tryz.prog 197 #[.int .i64 (n : Int)] w fun e w' => e = .returned (.bool b) ∧ w = w' := by
  subst hb
  by_cases h1 : (56320 : Int) ≤ (n : Int)
  · by_cases h2 : (n : Int) < 57344
    · rw [show Qm.isS n = true by rw [Qm.isS_iff]; omega]
      go_enter Tryz.func197, Tryz.ntmps197
      go_wp2_with fail
      go_ret
      exact ⟨rfl, rfl⟩
    · rw [show Qm.isS n = false by rw [Bool.eq_false_iff]; intro h; rw [Qm.isS_iff] at h; omega]
      go_enter Tryz.func197, Tryz.ntmps197
      go_wp2_with fail
      go_ret
      exact ⟨rfl, rfl⟩
  · rw [show Qm.isS n = false by rw [Bool.eq_false_iff]; intro h; rw [Qm.isS_iff] at h; omega]
    go_enter Tryz.func197, Tryz.ntmps197
    go_wp2_with fail
    go_ret
    exact ⟨rfl, rfl⟩
theorem isF_at (n : Nat) (w : World) {b : Bool} (hb : Qm.isF n = b) :
    Calls Tryz.prog 198 #[.int .i64 (n : Int)] w fun e w' => e = .returned (.bool b) ∧ w = w' := by
  subst hb
  by_cases h1 : (55296 : Int) ≤ (n : Int)
  · by_cases h2 : (n : Int) < 56320
    · rw [show Qm.isF n = true by rw [Qm.isF_iff]; omega]
      go_enter Tryz.func198, Tryz.ntmps198
      go_wp2_with fail
      go_ret
      exact ⟨rfl, rfl⟩
    · rw [show Qm.isF n = false by rw [Bool.eq_false_iff]; intro h; rw [Qm.isF_iff] at h; omega]
      go_enter Tryz.func198, Tryz.ntmps198
      go_wp2_with fail
      go_ret
      exact ⟨rfl, rfl⟩
  · rw [show Qm.isF n = false by rw [Bool.eq_false_iff]; intro h; rw [Qm.isF_iff] at h; omega]
    go_enter Tryz.func198, Tryz.ntmps198
    go_wp2_with fail
    go_ret
    exact ⟨rfl, rfl⟩
/-- what expect tells of the byte at a place -/
def EXP (R : List UInt8) (c o : Nat) : Nat := match R with
  | [] => 4
  | d :: _ => if d.toNat = c then 0 else o
theorem expect_any (l : List UInt8) (p c o : Nat) (w : World) (hp : p ≤ l.length) :
    Calls Tryz.prog 138 #[.string (S l), .int .i64 (p : Int), .int .u8 (c : Int), .int .i64 (o : Int)] w fun e w' => e = .returned (.int .i64 (EXP (l.drop p) c o : Int)) ∧ w = w' := by
  have z1 := S_size l
  have hat := S_at l
  by_cases hlt : p < l.length
  · obtain ⟨d, t, hd⟩ := drop_at hlt
    have hb := (at_drop hd).2.1
    by_cases hc : d.toNat = c
    · have hE : Hid (EXP (l.drop p) c o = 0) := by unfold Hid; rw [hd, EXP, if_pos hc]
      rw [← hb] at hc
      subst hc
      clear hd hb
      go_enter Tryz.func138, Tryz.ntmps138
      go_wp2_with fail
      go_ret
      exact ⟨by rw [hE.out]; rfl, rfl⟩
    · have hE : Hid (EXP (l.drop p) c o = o) := by unfold Hid; rw [hd, EXP, if_neg hc]
      rw [← hb] at hc
      have hne : ((Um.bt l p : Int) != (c : Int)) = true := by rw [bne_iff_ne]; omega
      clear hd hb hc
      go_enter Tryz.func138, Tryz.ntmps138
      go_wp2_with fail
      go_ret
      exact ⟨by rw [hE.out]; rfl, rfl⟩
  · have hE : Hid (EXP (l.drop p) c o = 4) := by unfold Hid; rw [bt_nil l p (by omega), EXP]
    obtain rfl : p = l.length := by omega
    go_enter Tryz.func138, Tryz.ntmps138
    go_wp2_with fail
    go_ret
    exact ⟨by rw [hE.out]; rfl, rfl⟩
theorem expect_at (l : List UInt8) (p c o : Nat) (w : World) (hp : p ≤ l.length) {n : Nat} (hn : EXP (l.drop p) c o = n) {p' c' o' : Int} (h1 : p' = (p : Int)) (h2 : c' = (c : Int)) (h3 : o' = (o : Int)) :
    Calls Tryz.prog 138 #[.string (S l), .int .i64 p', .int .u8 c', .int .i64 o'] w fun e w' => e = .returned (.int .i64 (n : Int)) ∧ w = w' := by
  subst hn h1 h2 h3
  exact expect_any l p c o w hp
end Go.Proofs.YtpifbmcgadjhbaaGreatDoor
