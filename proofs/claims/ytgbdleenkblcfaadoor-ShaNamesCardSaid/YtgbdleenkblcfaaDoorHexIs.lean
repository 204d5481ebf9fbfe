/-
  What hex.Is and the document's Is come to, of any text.
-/
import Derived.Test.YtgbdleenkblcfaaDoorHexVal
namespace Go.Proofs.YtgbdleenkblcfaaDoor
open Go.RowKit

set_option maxHeartbeats 400000 in
theorem is_any (s : ByteArray) (w : World) (hs : s.size ≤ maxLen) (hT : Tab w) :
    Calls Tryd.prog 26 #[.string s] w fun e w' => e = .returned (.bool (Hm.allD s.data.toList)) ∧ w = w' := by
  unfold maxLen at hs
  go_enter Tryd.func26, Tryd.ntmps26
  go_wp2
  go_loop [3, 4, 5, 8] (fun _ _ _ i => ∃ k : Nat, k ≤ s.size ∧ i = .int .i64 k ∧ Hm.allD (s.data.toList.take k) = true) (fun _ _ _ i => s.size - (intOf i).toNat)
  case atStart => exact ⟨0, Nat.zero_le _, rfl, rfl⟩
  case round =>
    obtain ⟨k, hk, rfl, hall⟩ := hrel
    have HA := Lib.hid hall
    clear hall
    by_cases hlt : k < s.size
    · cases hd : Hm.isD (s[k].toNat : Int)
      · have HN := Lib.hid (Hm.allD_no s k hlt hd)
        go_wp2_with (go_at_call 27; refine (value_any _ _ hT).mono ?_; rintro e w' ⟨rfl, rfl⟩)
        go_ret
        exact ⟨ret_bool HN.out.symm, rfl⟩
      · have HN : Hid (Hm.allD (s.data.toList.take (k + 1)) = true) := by rw [Hm.take_snoc s k hlt, Hm.allD_snoc, HA.out, hd]; rfl
        go_wp2_with (go_at_call 27; refine (value_any _ _ hT).mono ?_; rintro e w' ⟨rfl, rfl⟩)
        go_round
        case rel => exact ⟨k + 1, by omega, by go_num, HN.out⟩
        case measure => simp [intOf]; omega
    · have HN : Hid (Hm.allD s.data.toList = true) := by have := HA.out; rw [Hm.take_all s k (by omega)] at this; exact this
      go_wp2
      go_ret
      exact ⟨ret_bool HN.out.symm, rfl⟩

end Go.Proofs.YtgbdleenkblcfaaDoor
