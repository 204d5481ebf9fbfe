/-
  What Digit and Number come to, the program's and the document's, of any text.
-/
import Derived.Test.YthanefhceopcfaaDoorHexIs
namespace Go.Proofs.YthanefhceopcfaaDoor
open Go.RowKit

theorem ret_num {j k : IntKind} {a a' b b' : Int} (h : a = a') (g : b = b') : Ending.returned (.tuple #[.int j a, .int k b]) = .returned (.tuple #[.int j a', .int k b']) := by rw [h, g]

set_option maxHeartbeats 400000 in
theorem digit_any (s : ByteArray) (i : Int) (w : World) (hT : Tab w) :
    Calls Tryd.prog 15 #[.string s, .int .i64 i] w fun e w' => e = .returned (.tuple #[.int .i64 (Hm.digV s i), .bool (Hm.digB s i)]) ∧ w = w' := by
  by_cases h0 : i < 0
  · have HN := Lib.hid (Hm.dig_out s i (.inl h0))
    go_enter Tryd.func15, Tryd.ntmps15
    go_wp2
    go_ret2
    exact ⟨ret_val HN.out.1.symm HN.out.2.symm, rfl⟩
  · obtain ⟨k, rfl⟩ := Int.eq_ofNat_of_zero_le (show 0 ≤ i by omega)
    clear h0
    by_cases h1 : k < s.size
    · have HN := Lib.hid (Hm.dig_in s k h1)
      go_enter Tryd.func15, Tryd.ntmps15
      go_wp2_with (go_at_call 24; refine (value_any _ _ hT).mono ?_; rintro e w' ⟨rfl, rfl⟩)
      go_ret2
      exact ⟨ret_val HN.out.1.symm HN.out.2.symm, rfl⟩
    · have HN := Lib.hid (Hm.dig_out s k (.inr (by omega)))
      go_enter Tryd.func15, Tryd.ntmps15
      go_wp2
      go_ret2
      exact ⟨ret_val HN.out.1.symm HN.out.2.symm, rfl⟩

set_option maxHeartbeats 400000 in
theorem refDigit_any (s : ByteArray) (i : Int) (w : World) :
    Calls Tryd.prog 18 #[.string s, .int .i64 i] w fun e w' => e = .returned (.tuple #[.int .i64 (Hm.digV s i), .bool (Hm.digB s i)]) ∧ w = w' := by
  by_cases h0 : i < 0
  · have HN := Lib.hid (Hm.dig_out s i (.inl h0))
    go_enter Tryd.func18, Tryd.ntmps18
    go_wp2
    go_ret2
    exact ⟨ret_val HN.out.1.symm HN.out.2.symm, rfl⟩
  · obtain ⟨k, rfl⟩ := Int.eq_ofNat_of_zero_le (show 0 ≤ i by omega)
    clear h0
    by_cases h1 : k < s.size
    · have HN := Lib.hid (Hm.dig_in s k h1)
      have hb : (s[k].toNat : Int) ≤ 255 := by have := s[k].toNat_lt; omega
      cases hd : Hm.isD (s[k].toNat : Int)
      · have hv : Hm.dv (s[k].toNat : Int) < 0 := by rw [(Hm.dv_no _ hd).1]; omega
        have HD := Lib.hid hd
        clear hd
        go_enter Tryd.func18, Tryd.ntmps18
        go_wp2_with (go_at_call 26; refine (refValue_any _ _ (by omega) hb).mono ?_; rintro e w' ⟨rfl, rfl⟩)
        go_ret2
        exact ⟨ret_val (by rw [HN.out.1, (Hm.dv_no _ HD.out).2]) (by rw [HN.out.2, HD.out]), rfl⟩
      · have hv : 0 ≤ Hm.dv (s[k].toNat : Int) := by have := Hm.dv_of _ hd; omega
        have HD := Lib.hid hd
        clear hd
        go_enter Tryd.func18, Tryd.ntmps18
        go_wp2_with (go_at_call 26; refine (refValue_any _ _ (by omega) hb).mono ?_; rintro e w' ⟨rfl, rfl⟩)
        go_ret2
        exact ⟨ret_val (by rw [HN.out.1, (Hm.dv_of _ HD.out).1]) (by rw [HN.out.2, HD.out]), rfl⟩
    · have HN := Lib.hid (Hm.dig_out s k (.inr (by omega)))
      go_enter Tryd.func18, Tryd.ntmps18
      go_wp2
      go_ret2
      exact ⟨ret_val HN.out.1.symm HN.out.2.symm, rfl⟩

theorem or4 (n : Nat) (v : Int) (hn : n ≤ 1152921504606846975) (h0 : 0 ≤ v) (h1 : v ≤ 15) : bits .or .u64 ((n : Int) * 16) v = (n : Int) * 16 + v := by
  rw [u64_or _ _ (by omega) (by omega) h0 (by omega), nat_join4 _ _ (by omega) (by omega)]
  omega

set_option maxHeartbeats 400000 in
theorem number_any (s : ByteArray) (w : World) (hs : s.size ≤ maxLen) (hT : Tab w) :
    Calls Tryd.prog 13 #[.string s] w fun e w' => e = .returned (.tuple #[.int .u64 (Hm.numV s.data.toList), .int .i64 (Hm.numE s.data.toList)]) ∧ w = w' := by
  have hl : s.data.toList.length = s.size := by simp
  have HL := Lib.hid hl
  clear hl
  have hm := hs
  unfold maxLen at hm
  cases ha : Hm.allD s.data.toList
  · have HN := Lib.hid (Hm.numVE_form _ ha)
    go_enter Tryd.func13, Tryd.ntmps13
    go_wp2_with (go_at_call 16; refine (is_any _ _ hs hT).mono ?_; rintro e w' ⟨rfl, rfl⟩)
    go_ret2
    exact ⟨ret_num HN.out.1.symm HN.out.2.symm, rfl⟩
  · by_cases h0 : s.size = 0
    · have HN := Lib.hid (Hm.numVE_short _ ha (by rw [HL.out, h0]))
      have hb : ((s.size : Int) == 0) = true := by simp [h0]
      clear h0
      go_enter Tryd.func13, Tryd.ntmps13
      go_wp2_with (go_at_call 16; refine (is_any _ _ hs hT).mono ?_; rintro e w' ⟨rfl, rfl⟩)
      go_ret2
      exact ⟨ret_num HN.out.1.symm HN.out.2.symm, rfl⟩
    · have hb : ((s.size : Int) == 0) = false := beq_eq_false_iff_ne.2 (by omega)
      by_cases h1 : 16 < s.size
      · have HN := Lib.hid (Hm.numVE_long _ ha (by rw [HL.out]; exact h1))
        go_enter Tryd.func13, Tryd.ntmps13
        go_wp2_with (go_at_call 16; refine (is_any _ _ hs hT).mono ?_; rintro e w' ⟨rfl, rfl⟩)
        go_ret2
        exact ⟨ret_num HN.out.1.symm HN.out.2.symm, rfl⟩
      · have HN := Lib.hid (Hm.numVE_ok _ ha (by rw [HL.out]; exact h0) (by rw [HL.out]; omega))
        have hc : decide ((16 : Int) < (s.size : Int)) = false := by simp; omega
        go_enter Tryd.func13, Tryd.ntmps13
        go_wp2_with (go_at_call 16; refine (is_any _ _ hs hT).mono ?_; rintro e w' ⟨rfl, rfl⟩)
        go_loop [4, 5, 6, 7, 19] (fun n _ _ _ i => ∃ k : Nat, k ≤ s.size ∧ i = .int .i64 k ∧ n = .int .u64 (Hm.num (s.data.toList.take k))) (fun _ _ _ _ i => s.size - (intOf i).toNat)
        case atStart => exact ⟨0, Nat.zero_le _, rfl, rfl⟩
        case round =>
          obtain ⟨k, hk, rfl, rfl⟩ := hrel
          by_cases hlt : k < s.size
          · have hn := Hm.num_le (s.data.toList.take k) (by simp; omega)
            have hv := Hm.hv_bd (s[k].toNat : Int)
            have hor := or4 _ _ hn hv.1 hv.2
            have HS : Hid ((Hm.num (s.data.toList.take (k + 1)) : Int) = Hm.num (s.data.toList.take k) * 16 + Hm.hv (s[k].toNat : Int)) := by
              rw [Hm.take_snoc s k hlt, Hm.num_snoc]; unfold Hid; omega
            go_wp2_with (go_at_call 24; refine (value_any _ _ hT).mono ?_; rintro e w' ⟨rfl, rfl⟩)
            go_round
            case rel => exact ⟨k + 1, by omega, by go_num, by rw [HS.out]⟩
            case measure => simp [intOf]; omega
          · go_wp2
            go_ret2
            exact ⟨ret_num (by rw [HN.out.1, Hm.take_all s k (by omega)]) HN.out.2.symm, rfl⟩

set_option maxHeartbeats 400000 in
theorem refNumber_any (s : ByteArray) (w : World) (hs : s.size ≤ maxLen) :
    Calls Tryd.prog 22 #[.string s] w fun e w' => e = .returned (.tuple #[.int .u64 (Hm.numV s.data.toList), .int .i64 (Hm.numE s.data.toList)]) ∧ w = w' := by
  have hl : s.data.toList.length = s.size := by simp
  have HL := Lib.hid hl
  clear hl
  have hm := hs
  unfold maxLen at hm
  cases ha : Hm.allD s.data.toList
  · have HN := Lib.hid (Hm.numVE_form _ ha)
    go_enter Tryd.func22, Tryd.ntmps22
    go_wp2_with (go_at_call 20; refine (refIs_any _ _ hs).mono ?_; rintro e w' ⟨rfl, rfl⟩)
    go_ret2
    exact ⟨ret_num HN.out.1.symm HN.out.2.symm, rfl⟩
  · by_cases h0 : s.size = 0
    · have HN := Lib.hid (Hm.numVE_short _ ha (by rw [HL.out, h0]))
      have hb : s.toList.isEmpty = true := by rw [ByteArray.toList_eq, List.isEmpty_iff, ← List.length_eq_zero_iff, HL.out]; exact h0
      clear h0
      go_enter Tryd.func22, Tryd.ntmps22
      go_wp2_with (go_at_call 20; refine (refIs_any _ _ hs).mono ?_; rintro e w' ⟨rfl, rfl⟩)
      go_ret2
      exact ⟨ret_num HN.out.1.symm HN.out.2.symm, rfl⟩
    · have hb : s.toList.isEmpty = false := by
        rw [ByteArray.toList_eq]
        cases h : s.data.toList with
        | nil => exact absurd (by rw [← HL.out, h]; rfl) h0
        | cons a l => rfl
      by_cases h1 : 16 < s.size
      · have HN := Lib.hid (Hm.numVE_long _ ha (by rw [HL.out]; exact h1))
        go_enter Tryd.func22, Tryd.ntmps22
        go_wp2_with (go_at_call 20; refine (refIs_any _ _ hs).mono ?_; rintro e w' ⟨rfl, rfl⟩)
        go_ret2
        exact ⟨ret_num HN.out.1.symm HN.out.2.symm, rfl⟩
      · have HN := Lib.hid (Hm.numVE_ok _ ha (by rw [HL.out]; exact h0) (by rw [HL.out]; omega))
        have hc : decide ((16 : Int) < (s.size : Int)) = false := by simp; omega
        go_enter Tryd.func22, Tryd.ntmps22
        go_wp2_with (go_at_call 20; refine (refIs_any _ _ hs).mono ?_; rintro e w' ⟨rfl, rfl⟩)
        go_loop [4, 5] (fun n i => ∃ k : Nat, k ≤ s.size ∧ i = .int .i64 k ∧ n = .int .u64 (Hm.num (s.data.toList.take k))) (fun _ i => s.size - (intOf i).toNat)
        case atStart => exact ⟨0, Nat.zero_le _, rfl, rfl⟩
        case round =>
          obtain ⟨k, hk, rfl, rfl⟩ := hrel
          by_cases hlt : k < s.size
          · have hn := Hm.num_le (s.data.toList.take k) (by simp; omega)
            have hb : (s[k].toNat : Int) ≤ 255 := by have := s[k].toNat_lt; omega
            have hd := Hm.dv_of _ (Hm.allD_at s k hlt ha)
            have hv : 0 ≤ Hm.dv (s[k].toNat : Int) ∧ Hm.dv (s[k].toNat : Int) ≤ 15 := by omega
            have HS : Hid ((Hm.num (s.data.toList.take (k + 1)) : Int) = Hm.num (s.data.toList.take k) * 16 + Hm.dv (s[k].toNat : Int)) := by
              rw [Hm.take_snoc s k hlt, Hm.num_snoc]; unfold Hid; omega
            clear hd
            go_wp2_with (go_at_call 26; refine (refValue_any _ _ (by omega) hb).mono ?_; rintro e w' ⟨rfl, rfl⟩)
            go_round
            case rel => exact ⟨k + 1, by omega, by go_num, by rw [HS.out]⟩
            case measure => simp [intOf]; omega
          · go_wp2
            go_ret2
            exact ⟨ret_num (by rw [HN.out.1, Hm.take_all s k (by omega)]) HN.out.2.symm, rfl⟩

end Go.Proofs.YthanefhceopcfaaDoor
