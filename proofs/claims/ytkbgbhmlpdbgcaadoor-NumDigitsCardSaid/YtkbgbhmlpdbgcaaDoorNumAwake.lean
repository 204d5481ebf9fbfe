/-
  The examples are as they are told; NumReads and NumShows.
-/
import Derived.Test.YtkbgbhmlpdbgcaaDoorNumForm
import Derived.Test.YtkbgbhmlpdbgcaaDoorNumRefRead
namespace Go.Proofs.YtkbgbhmlpdbgcaaDoor
open Go.RowKit
open Go.Lib (itoa)

set_option maxHeartbeats 1000000 in
theorem is_true (l : List UInt8) (n : Int) (w : World) (hT : TabN w) (hl : l.length ≤ 1000) (hR : Nm.READ l 0 = (n, (l.length : Int), 0)) (hS : itoa n = l) (h0 : -9223372036854775808 ≤ n) (h1 : n ≤ 9223372036854775807) :
    Calls Tryd.prog 15 #[.string (S l), .int .i64 n] w fun e w' => e = .returned (.bool true) ∧ Below w.heap.size w w' := by
  have z := S_size l
  have c := Read_any l 0 w hT (by omega)
  rw [hR] at c
  have d := fun w hT => Show_any n w hT h0 h1
  rw [hS] at d
  clear hR hS
  go_enter Tryd.func15, Tryd.ntmps15
  go_wp2_with fail
  refine c.mono ?_; rintro e w1 ⟨rfl, hb1⟩
  go_wp2_with fail
  refine (d w1 (hT.below hb1)).mono ?_; rintro e w2 ⟨rfl, hb2⟩
  go_wp2_with fail
  go_ret
  exact ⟨ret_bool (by simp), hb1.trans (hb2.mono hb1.size)⟩
set_option maxHeartbeats 1000000 in
theorem no_true (l : List UInt8) (x : Int) (w : World) (hT : TabN w) (hl : l.length ≤ 1000) (hR : Nm.READ l 0 = (0, 0, x)) :
    Calls Tryd.prog 16 #[.string (S l), .int .i64 x] w fun e w' => e = .returned (.bool true) ∧ Below w.heap.size w w' := by
  have c := Read_any l 0 w hT (by omega)
  rw [hR] at c
  clear hR
  go_enter Tryd.func16, Tryd.ntmps16
  go_wp2_with fail
  refine c.mono ?_; rintro e w1 ⟨rfl, hb1⟩
  go_wp2_with fail
  go_ret
  exact ⟨ret_bool (by simp), hb1⟩
theorem is_at (l : List UInt8) (n : Int) (w : World) (hT : TabN w) (hl : decide (l.length ≤ 1000) = true) (hR : (Nm.READ l 0 == (n, (l.length : Int), 0) && Nm.form l && Nm.val l == n && Nm.inR n) = true) :
    Calls Tryd.prog 15 #[.string (S l), .int .i64 n] w fun e w' => e = .returned (.bool true) ∧ Below w.heap.size w w' := by
  simp only [Bool.and_eq_true, beq_iff_eq] at hR
  obtain ⟨⟨⟨h1, h2⟩, h3⟩, h4⟩ := hR
  have hin : -9223372036854775808 ≤ n ∧ n ≤ 9223372036854775807 := by unfold Nm.inR at h4; simpa using h4
  exact is_true l n w hT (of_decide_eq_true hl) h1 ((Nm.itoa_is h2 n).2 h3.symm) hin.1 hin.2
theorem no_at (l : List UInt8) (x : Int) (w : World) (hT : TabN w) (hl : decide (l.length ≤ 1000) = true) (hR : (Nm.READ l 0 == (0, 0, x)) = true) :
    Calls Tryd.prog 16 #[.string (S l), .int .i64 x] w fun e w' => e = .returned (.bool true) ∧ Below w.heap.size w w' :=
  no_true l x w hT (of_decide_eq_true hl) (by simpa using hR)
set_option maxHeartbeats 2000000 in
theorem awake_any (w : World) (hT : TabN w) :
    Calls Tryd.prog 10 #[] w fun e w' => e = .returned (.bool true) ∧ Below w.heap.size w w' := by
  go_enter Tryd.func10, Tryd.ntmps10
  go_wp2_with fail
  refine (is_at [49, 50] 12 _ hT (by decide) (by decide +kernel)).mono ?_; rintro e w1 ⟨rfl, b1⟩
  have T1 := hT.below b1
  have c1 := b1
  clear b1
  go_wp2_with fail
  refine (is_at [45, 57, 50, 50, 51, 51, 55, 50, 48, 51, 54, 56, 53, 52, 55, 55, 53, 56, 48, 56] (-9223372036854775808) _ T1 (by decide) (by decide +kernel)).mono ?_; rintro e w2 ⟨rfl, b2⟩
  have T2 := T1.below b2
  have c2 := c1.trans (b2.mono c1.size)
  clear b2 c1 T1
  go_wp2_with fail
  refine (no_at [57, 50, 50, 51, 51, 55, 50, 48, 51, 54, 56, 53, 52, 55, 55, 53, 56, 48, 56] 9 _ T2 (by decide) (by decide +kernel)).mono ?_; rintro e w3 ⟨rfl, b3⟩
  have T3 := T2.below b3
  have c3 := c2.trans (b3.mono c2.size)
  clear b3 c2 T2
  go_wp2_with fail
  refine (no_at [48, 48] 3 _ T3 (by decide) (by decide +kernel)).mono ?_; rintro e w4 ⟨rfl, b4⟩
  have T4 := T3.below b4
  have c4 := c3.trans (b4.mono c3.size)
  clear b4 c3 T3
  go_wp2_with fail
  refine (no_at [45, 48] 3 _ T4 (by decide) (by decide +kernel)).mono ?_; rintro e w5 ⟨rfl, b5⟩
  have T5 := T4.below b5
  have c5 := c4.trans (b5.mono c4.size)
  clear b5 c4 T4
  go_wp2_with fail
  refine (no_at [49, 46, 53] 3 _ T5 (by decide) (by decide +kernel)).mono ?_; rintro e w6 ⟨rfl, b6⟩
  have T6 := T5.below b6
  have c6 := c5.trans (b6.mono c5.size)
  clear b6 c5 T5
  go_wp2_with fail
  refine (no_at [49, 101, 53] 3 _ T6 (by decide) (by decide +kernel)).mono ?_; rintro e w7 ⟨rfl, b7⟩
  have T7 := T6.below b7
  have c7 := c6.trans (b7.mono c6.size)
  clear b7 c6 T6
  go_wp2_with fail
  refine (no_at [43, 49] 3 _ T7 (by decide) (by decide +kernel)).mono ?_; rintro e w8 ⟨rfl, b8⟩
  have T8 := T7.below b8
  have c8 := c7.trans (b8.mono c7.size)
  clear b8 c7 T7
  go_wp2_with fail
  refine (no_at [45] 3 _ T8 (by decide) (by decide +kernel)).mono ?_; rintro e w9 ⟨rfl, b9⟩
  have T9 := T8.below b9
  have c9 := c8.trans (b9.mono c8.size)
  clear b9 c8 T8
  go_wp2_with fail
  refine (no_at [97] 3 _ T9 (by decide) (by decide +kernel)).mono ?_; rintro e w10 ⟨rfl, b10⟩
  have T10 := T9.below b10
  have c10 := c9.trans (b10.mono c9.size)
  clear b10 c9 T9
  go_wp2_with fail
  refine (is_at [45, 55] (-7) _ T10 (by decide) (by decide +kernel)).mono ?_; rintro e w11 ⟨rfl, b11⟩
  have T11 := T10.below b11
  have c11 := c10.trans (b11.mono c10.size)
  clear b11 c10 T10
  go_wp2_with fail
  go_ret
  exact ⟨rfl, c11⟩
theorem awake_from {w0 : World} (w : World) (hT : TabN w) (h : Below w0.heap.size w0 w) :
    Calls Tryd.prog 10 #[] w fun e w' => e = .returned (.bool true) ∧ Below w0.heap.size w0 w' := from_ h (awake_any w hT)
end Go.Proofs.YtkbgbhmlpdbgcaaDoor
