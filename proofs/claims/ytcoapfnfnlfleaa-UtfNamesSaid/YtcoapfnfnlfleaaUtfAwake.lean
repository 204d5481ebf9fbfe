/-
  is and awake: the examples are as they are told.
-/
import Derived.Test.YtcoapfnfnlfleaaUtfRefNext
namespace Go.Proofs.Ytcoapfnfnlfleaa
open Go.RowKit

theorem as_S (s : ByteArray) : ∃ l, s = S l := ⟨s.data.toList, (S_of s).symm⟩
section
variable {w0 w : World}
theorem Put_at (h : Below w0.heap.size w0 w) (k : Int) {x : List UInt8 × Int} (hx : PUT k = x) :
    Calls Try.prog 16 #[.int .i64 k] w fun e w' => e = .returned (.tuple #[.string (S x.1), .int .i64 x.2]) ∧ Below w0.heap.size w0 w' := by
  subst hx
  exact (Put_any k w).mono fun _ _ ⟨he, hw⟩ => ⟨he, hw ▸ h⟩
theorem refPut_at (h : Below w0.heap.size w0 w) (k : Int) {x : List UInt8 × Int} (hx : PUT k = x) :
    Calls Try.prog 17 #[.int .i64 k] w fun e w' => e = .returned (.tuple #[.string (S x.1), .int .i64 x.2]) ∧ Below w0.heap.size w0 w' := by
  subst hx
  exact from_ h (refPut_any k w)
set_option maxHeartbeats 400000 in
/-- Next at 0 tells that -/
theorem is_at (h : Below w0.heap.size w0 w) (l : List UInt8) (a b c : Nat) (hx : Um.nx l = (a, b, c)) {a' b' c' : Int} (ha : a' = (a : Int)) (hb : b' = (b : Int)) (hc : c' = (c : Int)) :
    Calls Try.prog 18 #[.string (S l), .int .i64 a', .int .i64 b', .int .i64 c'] w fun e w' => e = .returned (.bool true) ∧ Below w0.heap.size w0 w' := by
  subst ha
  subst hb
  subst hc
  have hN : NX l 0 = (a, b, c) := by
    have := NX_in l 0 (Nat.zero_le _)
    rw [List.drop_zero, hx] at this
    exact this
  have HN := Lib.hid hN
  clear hN hx
  go_enter Try.func18, Try.ntmps18
  go_wp2_with fail
  refine (Next_at h l 0 HN.out).mono ?_; rintro e w1 ⟨rfl, h1⟩
  go_wp2_with fail
  go_ret
  exact ⟨rfl, h1⟩
end
set_option maxHeartbeats 1600000 in
theorem awake_any (w : World) :
    Calls Try.prog 10 #[] w fun e w' => e = .returned (.bool true) ∧ Below w.heap.size w w' := by
  go_enter Try.func10, Try.ntmps10
  go_wp2_with fail
  refine (Next_at (Below.refl _ _) [226, 130, 172] 3 (x := (0, 0, 4)) (by decide)).mono ?_; rintro e w1 ⟨rfl, h1⟩
  go_wp2_with fail
  refine (Next_at h1 [226, 130, 172] 4 (x := (0, 0, 1)) (by decide)).mono ?_; rintro e w2 ⟨rfl, h2⟩
  go_wp2_with fail
  refine (Put_at h2 55296 (x := ([], 1)) (by decide)).mono ?_; rintro e w3 ⟨rfl, h3⟩
  go_wp2_with fail
  refine (is_at h3 [226, 130, 172] 8364 3 0 (by decide) rfl rfl rfl).mono ?_; rintro e w4 ⟨rfl, h4⟩
  go_wp2_with fail
  refine (is_at h4 [226, 130] 0 0 4 (by decide) rfl rfl rfl).mono ?_; rintro e w5 ⟨rfl, h5⟩
  go_wp2_with fail
  refine (is_at h5 [226, 40] 0 0 12 (by decide) rfl rfl rfl).mono ?_; rintro e w6 ⟨rfl, h6⟩
  go_wp2_with fail
  refine (is_at h6 [192, 128] 0 0 12 (by decide) rfl rfl rfl).mono ?_; rintro e w7 ⟨rfl, h7⟩
  go_wp2_with fail
  refine (is_at h7 [237, 160, 128] 0 0 12 (by decide) rfl rfl rfl).mono ?_; rintro e w8 ⟨rfl, h8⟩
  go_wp2_with fail
  refine (is_at h8 [244, 144] 0 0 12 (by decide) rfl rfl rfl).mono ?_; rintro e w9 ⟨rfl, h9⟩
  go_wp2_with fail
  go_ret
  exact ⟨rfl, h9⟩
theorem awake_at {w0 w : World} (h : Below w0.heap.size w0 w) :
    Calls Try.prog 10 #[] w fun e w' => e = .returned (.bool true) ∧ Below w0.heap.size w0 w' := from_ h (awake_any w)
end Go.Proofs.Ytcoapfnfnlfleaa
