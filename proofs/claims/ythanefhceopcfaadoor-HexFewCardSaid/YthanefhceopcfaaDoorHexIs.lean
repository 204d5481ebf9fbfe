/-
  What hex.Is and the document's Is come to, of any text.
-/
import Derived.Test.YthanefhceopcfaaDoorHexVal
namespace Go.Proofs.YthanefhceopcfaaDoor
open Go.RowKit

set_option maxHeartbeats 400000 in
theorem is_any (s : ByteArray) (w : World) (hs : s.size ≤ maxLen) (hT : Tab w) :
    Calls Tryd.prog 16 #[.string s] w fun e w' => e = .returned (.bool (Hm.allD s.data.toList)) ∧ w = w' := by
  unfold maxLen at hs
  go_enter Tryd.func16, Tryd.ntmps16
  go_wp2
  go_loop [3, 4, 5, 8] (fun _ _ _ i => ∃ k : Nat, k ≤ s.size ∧ i = .int .i64 k ∧ Hm.allD (s.data.toList.take k) = true) (fun _ _ _ i => s.size - (intOf i).toNat)
  case atStart => exact ⟨0, Nat.zero_le _, rfl, rfl⟩
  case round =>
    obtain ⟨k, hk, rfl, hall⟩ := hrel
    have HA := Lib.hid hall
    clear hall
    by_cases hlt : k < s.size
    · cases hd : Hm.isD (s[k].toNat : Int)
      · have HN := Lib.hid (Hm.allD_no s k hlt hd)
        go_wp2_with (go_at_call 24; refine (value_any _ _ hT).mono ?_; rintro e w' ⟨rfl, rfl⟩)
        go_ret
        exact ⟨ret_bool HN.out.symm, rfl⟩
      · have HN : Hid (Hm.allD (s.data.toList.take (k + 1)) = true) := by rw [Hm.take_snoc s k hlt, Hm.allD_snoc, HA.out, hd]; rfl
        go_wp2_with (go_at_call 24; refine (value_any _ _ hT).mono ?_; rintro e w' ⟨rfl, rfl⟩)
        go_round
        case rel => exact ⟨k + 1, by omega, by go_num, HN.out⟩
        case measure => simp [intOf]; omega
    · have HN : Hid (Hm.allD s.data.toList = true) := by have := HA.out; rw [Hm.take_all s k (by omega)] at this; exact this
      go_wp2
      go_ret
      exact ⟨ret_bool HN.out.symm, rfl⟩

set_option maxHeartbeats 400000 in
theorem refIs_any (s : ByteArray) (w : World) (hs : s.size ≤ maxLen) :
    Calls Tryd.prog 20 #[.string s] w fun e w' => e = .returned (.bool (Hm.allD s.data.toList)) ∧ w = w' := by
  unfold maxLen at hs
  go_enter Tryd.func20, Tryd.ntmps20
  go_wp2
  go_loop [3] (fun i => ∃ k : Nat, k ≤ s.size ∧ i = .int .i64 k ∧ Hm.allD (s.data.toList.take k) = true) (fun i => s.size - (intOf i).toNat)
  case atStart => exact ⟨0, Nat.zero_le _, rfl, rfl⟩
  case round =>
    obtain ⟨k, hk, rfl, hall⟩ := hrel
    have HA := Lib.hid hall
    clear hall
    by_cases hlt : k < s.size
    · have hb : (s[k].toNat : Int) ≤ 255 := by have := s[k].toNat_lt; omega
      cases hd : Hm.isD (s[k].toNat : Int)
      · have HN := Lib.hid (Hm.allD_no s k hlt hd)
        have hv : Hm.dv (s[k].toNat : Int) < 0 := by rw [(Hm.dv_no _ hd).1]; omega
        go_wp2_with (go_at_call 26; refine (refValue_any _ _ (by omega) hb).mono ?_; rintro e w' ⟨rfl, rfl⟩)
        go_ret
        exact ⟨ret_bool HN.out.symm, rfl⟩
      · have HN : Hid (Hm.allD (s.data.toList.take (k + 1)) = true) := by rw [Hm.take_snoc s k hlt, Hm.allD_snoc, HA.out, hd]; rfl
        have hv : 0 ≤ Hm.dv (s[k].toNat : Int) := by have := Hm.dv_of _ hd; omega
        go_wp2_with (go_at_call 26; refine (refValue_any _ _ (by omega) hb).mono ?_; rintro e w' ⟨rfl, rfl⟩)
        go_round
        case rel => exact ⟨k + 1, by omega, by go_num, HN.out⟩
        case measure => simp [intOf]; omega
    · have HN : Hid (Hm.allD s.data.toList = true) := by have := HA.out; rw [Hm.take_all s k (by omega)] at this; exact this
      go_wp2
      go_ret
      exact ⟨ret_bool HN.out.symm, rfl⟩

end Go.Proofs.YthanefhceopcfaaDoor
