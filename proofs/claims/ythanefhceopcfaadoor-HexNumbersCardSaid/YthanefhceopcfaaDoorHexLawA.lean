/-
  The walks of HexNumbers, HexTells, HexReads: each comes to true.
-/
import Derived.Test.YthanefhceopcfaaDoorHexAwake
namespace Go.Proofs.YthanefhceopcfaaDoor
open Go.RowKit

set_option maxHeartbeats 800000 in
theorem law_HexNumbers (n : Nat) (least : Int) (w : World) (hn : n ≤ 18446744073709551615) (hT : Tab w) :
    Calls Tryd.prog 6 #[.int .u64 n, .int .i64 least] w fun e w' => e = .returned (.bool true) ∧ Below w.heap.size w w' := by
  go_enter Tryd.func6, Tryd.ntmps6
  go_wp2_with fail
  refine (digits_at (Below.refl _ _) hT n least hn).mono ?_; rintro e w1 ⟨rfl, h1⟩
  go_wp2_with fail
  refine (from_ h1 (refDigits_any n least _ hn)).mono ?_; rintro e w2 ⟨rfl, h2⟩
  go_wp2_with fail
  refine (from_ h2 (awake_any _ (hT.below h2 hT.lt))).mono ?_; rintro e w3 ⟨rfl, h3⟩
  go_wp2_with fail
  go_ret
  exact ⟨rfl, h3⟩

set_option maxHeartbeats 800000 in
theorem law_HexTells (s : ByteArray) (i : Int) (w : World) (hs : s.size ≤ maxLen) (hT : Tab w) :
    Calls Tryd.prog 4 #[.string s, .int .i64 i] w fun e w' => e = .returned (.bool true) ∧ Below w.heap.size w w' := by
  have HS := Lib.hid hs
  by_cases hl : 3000 < s.size
  · unfold maxLen at hs
    go_enter Tryd.func4, Tryd.ntmps4
    go_wp2_with fail
    refine (awake_any _ hT).mono ?_; rintro e w3 ⟨rfl, h3⟩
    go_wp2_with fail
    go_ret
    exact ⟨rfl, h3⟩
  · unfold maxLen at hs
    go_enter Tryd.func4, Tryd.ntmps4
    go_wp2_with fail
    refine (digit_any s i _ hT).mono ?_; rintro e w1 ⟨rfl, rfl⟩
    go_wp2_with fail
    refine (refDigit_any s i _).mono ?_; rintro e w1 ⟨rfl, rfl⟩
    go_wp2_with fail
    refine (encode_at (Below.refl _ _) hT s (by omega)).mono ?_; rintro e w1 ⟨rfl, h1⟩
    go_wp2_with fail
    refine (from_ h1 (refEncode_any s _ (by omega))).mono ?_; rintro e w2 ⟨rfl, h2⟩
    go_wp2_with fail
    refine (is_at h2 hT s HS.out).mono ?_; rintro e w3 ⟨rfl, rfl⟩
    go_wp2_with fail
    refine (refIs_any s _ HS.out).mono ?_; rintro e w3 ⟨rfl, rfl⟩
    go_wp2_with fail
    refine (from_ h2 (awake_any _ (hT.below h2 hT.lt))).mono ?_; rintro e w3 ⟨rfl, h3⟩
    go_wp2_with fail
    go_ret
    exact ⟨rfl, h3⟩

set_option maxHeartbeats 800000 in
theorem law_HexReads (s : ByteArray) (w : World) (hs : s.size ≤ maxLen) (hT : Tab w) :
    Calls Tryd.prog 5 #[.string s] w fun e w' => e = .returned (.bool true) ∧ Below w.heap.size w w' := by
  have HS := Lib.hid hs
  by_cases hl : 3000 < s.size
  · unfold maxLen at hs
    go_enter Tryd.func5, Tryd.ntmps5
    go_wp2_with fail
    refine (awake_any _ hT).mono ?_; rintro e w3 ⟨rfl, h3⟩
    go_wp2_with fail
    go_ret
    exact ⟨rfl, h3⟩
  · unfold maxLen at hs
    go_enter Tryd.func5, Tryd.ntmps5
    go_wp2_with fail
    refine (decode_at (Below.refl _ _) hT s (by omega)).mono ?_; rintro e w1 ⟨rfl, h1⟩
    go_wp2_with fail
    refine (from_ h1 (refDecode_any s _ (by omega))).mono ?_; rintro e w2 ⟨rfl, h2⟩
    go_wp2_with fail
    refine (number_at h2 hT s HS.out).mono ?_; rintro e w3 ⟨rfl, rfl⟩
    go_wp2_with fail
    refine (refNumber_any s _ HS.out).mono ?_; rintro e w3 ⟨rfl, rfl⟩
    go_wp2_with fail
    refine (from_ h2 (awake_any _ (hT.below h2 hT.lt))).mono ?_; rintro e w3 ⟨rfl, h3⟩
    go_wp2_with fail
    go_ret
    exact ⟨rfl, h3⟩

end Go.Proofs.YthanefhceopcfaaDoor
