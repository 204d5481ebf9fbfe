/-
  NumNames.
-/
import Derived.Test.YtkbgbhmlpdbgcaaDoorNumAwake
namespace Go.Proofs.YtkbgbhmlpdbgcaaDoor
open Go.RowKit

def Nm.L1 : List (List UInt8) := [[45, 57, 50, 50, 51, 51, 55, 50, 48, 51, 54, 56, 53, 52, 55, 55, 53, 56, 48, 57], [49, 48, 48, 48, 48, 48, 48, 48, 48, 48, 48, 48, 48, 48, 48, 48, 48, 48, 48, 48], [49, 56, 52, 52, 54, 55, 52, 52, 48, 55, 51, 55, 48, 57, 53, 53, 49, 54, 49, 54], [49, 56, 52, 52, 54, 55, 52, 52, 48, 55, 51, 55, 48, 57, 53, 53, 49, 54, 50, 48], [45, 49, 56, 52, 52, 54, 55, 52, 52, 48, 55, 51, 55, 48, 57, 53, 53, 49, 54, 49, 55], [57, 57, 57, 57, 57, 57, 57, 57, 57, 57, 57, 57, 57, 57, 57, 57, 57, 57, 57, 57], [49, 50, 51, 52, 53, 54, 55, 56, 57, 48, 49, 50, 51, 52, 53, 54, 55, 56, 57, 48, 49, 50, 51, 52, 53, 54, 55, 56, 57, 48]]
def Nm.L2 : List (List UInt8) := [[], [45, 45, 49], [49, 45], [49, 43, 49], [45, 48, 49], [48, 49], [49, 46], [46, 53], [49, 69], [101], [45, 97], [48, 120, 49], [48, 46, 48], [49, 50, 51, 52, 53, 54, 55, 56, 57, 48, 49, 50, 51, 52, 53, 54, 55, 56, 57, 48, 49, 50, 51, 52, 53, 54, 55, 56, 57, 48, 46, 53]]
theorem Nm.L1_all : ∀ l ∈ Nm.L1, Nm.READ l 0 = (0, 0, 9) ∧ l.length ≤ 1000 := by decide +kernel
theorem Nm.L2_all : ∀ l ∈ Nm.L2, (l = [48, 120, 49] ∨ Nm.READ l 0 = (0, 0, 3)) ∧ l.length ≤ 1000 := by decide +kernel
theorem Read_at (l : List UInt8) (a n p x : Int) (w : World) (hT : TabN w) (hl : decide (l.length ≤ 1000) = true) (hR : (Nm.READ l a == (n, p, x)) = true) :
    Calls Tryd.prog 11 #[.string (S l), .int .i64 a] w fun e w' => e = .returned (.tuple #[.int .i64 n, .int .i64 p, .int .i64 x]) ∧ Below w.heap.size w w' := by
  have c := Read_any l a w hT (by have := of_decide_eq_true hl; omega)
  rw [show Nm.READ l a = (n, p, x) by simpa using hR] at c
  exact c
set_option maxRecDepth 100000 in
set_option maxHeartbeats 4000000 in
theorem law_NumNames (w : World) (hT : TabN w) :
    Calls Tryd.prog 5 #[] w fun e w' => e = .returned (.bool true) ∧ Below w.heap.size w w' := by
  go_enter Tryd.func5, Tryd.ntmps5
  go_wp2_with fail
  refine (awake_any w hT).mono ?_; rintro e w1 ⟨rfl, b1⟩
  have T1 := hT.below b1
  have c1 := b1
  clear b1
  go_wp2_with fail
  refine (is_at [48] 0 _ T1 (by decide) (by decide +kernel)).mono ?_; rintro e w2 ⟨rfl, b2⟩
  have T2 := T1.below b2
  have c2 := c1.trans (b2.mono c1.size)
  clear b2 c1 T1
  go_wp2_with fail
  refine (is_at [57, 50, 50, 51, 51, 55, 50, 48, 51, 54, 56, 53, 52, 55, 55, 53, 56, 48, 55] 9223372036854775807 _ T2 (by decide) (by decide +kernel)).mono ?_; rintro e w3 ⟨rfl, b3⟩
  have T3 := T2.below b3
  have c3 := c2.trans (b3.mono c2.size)
  clear b3 c2 T2
  go_wp2_with fail
  refine (is_at [45, 49] (-1) _ T3 (by decide) (by decide +kernel)).mono ?_; rintro e w4 ⟨rfl, b4⟩
  have T4 := T3.below b4
  have c4 := c3.trans (b4.mono c3.size)
  clear b4 c3 T3
  go_wp2_with fail
  refine (is_at [49, 48, 48, 48, 48, 48, 48, 48, 48, 48, 48, 48, 48, 48, 48, 48, 48, 48, 48] 1000000000000000000 _ T4 (by decide) (by decide +kernel)).mono ?_; rintro e w5 ⟨rfl, b5⟩
  have T5 := T4.below b5
  have c5 := c4.trans (b5.mono c4.size)
  clear b5 c4 T4
  have HS := Lib.hid c5.size
  obtain ⟨W1, hW1⟩ : ∃ W1, W1 = w5.alloc (.cells (RowT Nm.L1) 9) := ⟨_, rfl⟩
  go_wp2_with fail
  rw [show w5.alloc (.cells #[.string ⟨#[45, 57, 50, 50, 51, 51, 55, 50, 48, 51, 54, 56, 53, 52, 55, 55, 53, 56, 48, 57]⟩, .string ⟨#[49, 48, 48, 48, 48, 48, 48, 48, 48, 48, 48, 48, 48, 48, 48, 48, 48, 48, 48, 48]⟩, .string ⟨#[49, 56, 52, 52, 54, 55, 52, 52, 48, 55, 51, 55, 48, 57, 53, 53, 49, 54, 49, 54]⟩, .string ⟨#[49, 56, 52, 52, 54, 55, 52, 52, 48, 55, 51, 55, 48, 57, 53, 53, 49, 54, 50, 48]⟩, .string ⟨#[45, 49, 56, 52, 52, 54, 55, 52, 52, 48, 55, 51, 55, 48, 57, 53, 53, 49, 54, 49, 55]⟩, .string ⟨#[57, 57, 57, 57, 57, 57, 57, 57, 57, 57, 57, 57, 57, 57, 57, 57, 57, 57, 57, 57]⟩, .string ⟨#[49, 50, 51, 52, 53, 54, 55, 56, 57, 48, 49, 50, 51, 52, 53, 54, 55, 56, 57, 48, 49, 50, 51, 52, 53, 54, 55, 56, 57, 48]⟩] 9) = W1 from hW1.symm]
  have HW1 := Lib.hid hW1
  have HB1 : Hid (Below w.heap.size w W1) := by rw [hW1]; exact c5.alloc HS.out _
  have HT1 : Hid (TabN W1) := hT.below HB1.out
  clear hW1 T5
  go_loopw [2, 46] (fun _ i wr2 => ∃ j : Nat, j ≤ 7 ∧ i = .int .i64 (j : Int) ∧ Below W1.heap.size W1 wr2) (fun _ i _ => 7 - (intOf i).toNat)
  case atStart => exact ⟨0, by decide, rfl, Below.refl _ _⟩
  case round =>
    obtain ⟨j, hj, rfl, hbel⟩ := hrel
    by_cases hlt : (j : Int) < 7
    · obtain ⟨l, hl, hcell⟩ := rowT_at (L := Nm.L1) (by rw [← HW1.out]; exact hbel) j (by have : Nm.L1.length = 7 := rfl; omega)
      have G := Lib.hid (Nm.L1_all l hl)
      clear hl
      go_wp2_with fail
      refine (no_true l 9 _ (HT1.out.below hbel) G.out.2 G.out.1).mono ?_; rintro e w6 ⟨rfl, b6⟩
      go_wp2_with fail
      go_roundw
      case rel => exact ⟨j + 1, by omega, rfl, hbel.trans (b6.mono hbel.size)⟩
      case measure => simp [intOf]; omega
    · have HB2 : Hid (Below w.heap.size w wr) := HB1.out.trans (hbel.mono HB1.out.size)
      have HS2 := Lib.hid HB2.out.size
      obtain ⟨W2, hW2⟩ : ∃ W2, W2 = wr.alloc (.cells (RowT Nm.L2) 9) := ⟨_, rfl⟩
      go_wp2_with fail
      rw [show wr.alloc (.cells #[.string ⟨#[]⟩, .string ⟨#[45, 45, 49]⟩, .string ⟨#[49, 45]⟩, .string ⟨#[49, 43, 49]⟩, .string ⟨#[45, 48, 49]⟩, .string ⟨#[48, 49]⟩, .string ⟨#[49, 46]⟩, .string ⟨#[46, 53]⟩, .string ⟨#[49, 69]⟩, .string ⟨#[101]⟩, .string ⟨#[45, 97]⟩, .string ⟨#[48, 120, 49]⟩, .string ⟨#[48, 46, 48]⟩, .string ⟨#[49, 50, 51, 52, 53, 54, 55, 56, 57, 48, 49, 50, 51, 52, 53, 54, 55, 56, 57, 48, 49, 50, 51, 52, 53, 54, 55, 56, 57, 48, 46, 53]⟩] 9) = W2 from hW2.symm]
      have HW2 := Lib.hid hW2
      have HB3 : Hid (Below w.heap.size w W2) := by rw [hW2]; exact HB2.out.alloc HS2.out _
      have HT3 : Hid (TabN W2) := hT.below HB3.out
      clear hW2 hbel
      go_loopw [4, 56] (fun _ i wr2 => ∃ j : Nat, j ≤ 14 ∧ i = .int .i64 (j : Int) ∧ Below W2.heap.size W2 wr2) (fun _ i _ => 14 - (intOf i).toNat)
      case atStart => exact ⟨0, by decide, rfl, Below.refl _ _⟩
      case round =>
        obtain ⟨j, hj, rfl, hbel⟩ := hrel
        by_cases hlt : (j : Int) < 14
        · obtain ⟨l, hl, hcell⟩ := rowT_at (L := Nm.L2) (by rw [← HW2.out]; exact hbel) j (by have : Nm.L2.length = 14 := rfl; omega)
          have g := Nm.L2_all l hl
          clear hl
          by_cases hx : l = [48, 120, 49]
          · have e1 : ((S l).toList != (⟨#[48, 120, 49]⟩ : ByteArray).toList) = false := by rw [hx]; exact bne_self_eq_false _
            have e2 : ((S l).toList == [48, 120, 49]) = true := by rw [S_toList, hx]; rfl
            have e3 : (⟨#[48, 120, 49]⟩ : ByteArray).toList = [48, 120, 49] := S_toList [48, 120, 49]
            clear g hx
            go_wp2_with fail
            go_roundw
            case rel => exact ⟨j + 1, by omega, rfl, hbel⟩
            case measure => simp [intOf]; omega
          · have G : Hid (Nm.READ l 0 = (0, 0, 3) ∧ l.length ≤ 1000) := ⟨g.1.resolve_left hx, g.2⟩
            have e2 : ((S l).toList == [48, 120, 49]) = false := by rw [S_toList]; exact beq_eq_false_iff_ne.2 hx
            have e3 : (⟨#[48, 120, 49]⟩ : ByteArray).toList = [48, 120, 49] := S_toList [48, 120, 49]
            clear g hx
            go_wp2_with fail
            refine (no_true l 3 _ (HT3.out.below hbel) G.out.2 G.out.1).mono ?_; rintro e w6 ⟨rfl, b6⟩
            go_wp2_with fail
            go_roundw
            case rel => exact ⟨j + 1, by omega, rfl, hbel.trans (b6.mono hbel.size)⟩
            case measure => simp [intOf]; omega
        · have c0 := HB3.out.trans (hbel.mono HB3.out.size)
          have U0 := hT.below c0
          clear hbel
          go_wp2_with fail
          refine (Read_at [91, 49, 50, 44, 51, 93] 1 12 3 0 _ U0 (by decide) (by decide +kernel)).mono ?_; rintro e v1 ⟨rfl, b1⟩
          have U1 := U0.below b1
          have d1 := c0.trans (b1.mono c0.size)
          clear b1 c0 U0
          go_wp2_with fail
          refine (Read_at [48, 120, 49] 0 0 1 0 _ U1 (by decide) (by decide +kernel)).mono ?_; rintro e v2 ⟨rfl, b2⟩
          have U2 := U1.below b2
          have d2 := d1.trans (b2.mono d1.size)
          clear b2 d1 U1
          go_wp2_with fail
          refine (Read_at [49, 50] 2 0 0 3 _ U2 (by decide) (by decide +kernel)).mono ?_; rintro e v3 ⟨rfl, b3⟩
          have U3 := U2.below b3
          have d3 := d2.trans (b3.mono d2.size)
          clear b3 d2 U2
          go_wp2_with fail
          refine (Read_at [49, 50] 3 0 0 1 _ U3 (by decide) (by decide +kernel)).mono ?_; rintro e v4 ⟨rfl, b4⟩
          have U4 := U3.below b4
          have d4 := d3.trans (b4.mono d3.size)
          clear b4 d3 U3
          go_wp2_with fail
          refine (Read_at [49, 50] (-1) 0 0 1 _ U4 (by decide) (by decide +kernel)).mono ?_; rintro e v5 ⟨rfl, b5⟩
          have U5 := U4.below b5
          have d5 := d4.trans (b5.mono d4.size)
          clear b5 d4 U4
          go_wp2_with fail
          go_ret
          exact ⟨rfl, d5⟩
end Go.Proofs.YtkbgbhmlpdbgcaaDoor
