/-
  The document's Digest.
-/
import Derived.Test.YtgbdleenkblcfaaDoorShaRefU
import Derived.Test.YtgbdleenkblcfaaDoorShaAwake
namespace Go.Proofs.YtgbdleenkblcfaaDoor
open Go.RowKit

theorem idx_dig (w : World) (k : Nat) (h : k < 16) : (Instr.index 9 (.string ⟨#[48, 49, 50, 51, 52, 53, 54, 55, 56, 57, 97, 98, 99, 100, 101, 102]⟩) (.int .u8 (k : Int))).run Tryd.prog w = .ok (.int .u8 (Hm.dg k)) w := by
  obtain rfl | rfl | rfl | rfl | rfl | rfl | rfl | rfl | rfl | rfl | rfl | rfl | rfl | rfl | rfl | rfl : k = 0 ∨ k = 1 ∨ k = 2 ∨ k = 3 ∨ k = 4 ∨ k = 5 ∨ k = 6 ∨ k = 7 ∨ k = 8 ∨ k = 9 ∨ k = 10 ∨ k = 11 ∨ k = 12 ∨ k = 13 ∨ k = 14 ∨ k = 15 := by omega
  all_goals kernel_rfl
theorem enc_snoc_V (T : List UInt8) (k : Nat) (h : k < T.length) : V (Hm.enc (T.take (k + 1))) = V (Hm.enc (T.take k)) ++ [.int .u8 (Hm.dg (Sm.byte T k / 16)), .int .u8 (Hm.dg (Sm.byte T k % 16))] := by
  have hs : k < (S T).size := by rw [S_size]; exact h
  have h1 := Hm.take_snoc (S T) k hs
  rw [S_data] at h1
  have h2 : (S T)[k] = T[k] := rfl
  have h3 : Sm.byte T k = T[k].toNat := by
    unfold Sm.byte
    rw [List.getD_eq_getElem?_getD, List.getElem?_eq_getElem h]
    rfl
  have hb := T[k].toNat_lt
  rw [h1, Hm.enc_snoc, h2, h3]
  unfold V
  simp [Hm.dgb_toNat _ (show T[k].toNat / 16 < 16 by omega), Hm.dgb_toNat _ (show T[k].toNat % 16 < 16 by omega)]

attribute [local go_sem ↓] Go.wp_at_zero Go.wp_at_succ
set_option maxRecDepth 100000 in
set_option maxHeartbeats 800000 in
theorem refDigest_any (l : List UInt8) (w : World) (hl : l.length ≤ 100000) :
    Calls Tryd.prog 13 #[.string (S l)] w fun e w' => e = .returned (.string (S (Hm.enc (Sm.sha l)))) ∧ Below w.heap.size w w' := by
  obtain ⟨i0, hi0, hz0, hz1, hz2⟩ := info_parts info5
  go_enter Tryd.func13, Tryd.ntmps13
  go_wp2_with fail
  refine (refSum_any l w hl).mono ?_; rintro e w1 ⟨rfl, hb1⟩
  obtain ⟨T, hT⟩ : ∃ T, T = Sm.sha l := ⟨_, rfl⟩
  have hTl : T.length = 32 := by rw [hT]; exact Sm.sha_length l
  have zT := S_size T
  have HT := Lib.hid hT
  rw [← hT]
  clear hT
  go_wp2
  go_loopw [4, 5] (fun v i wr => ∃ k : Nat, k ≤ 32 ∧ i = .int .i64 k ∧ wr.ownsRow w.heap.size 5 1 v (2 * k) (V (Hm.enc (T.take k))) ∧ Below w.heap.size w wr) (fun _ i _ => 32 - (intOf i).toNat)
  case atStart => exact ⟨0, by omega, rfl, ⟨rfl, .inl ⟨rfl, rfl⟩⟩, hb1⟩
  case round =>
    clear hb1
    obtain ⟨k, hk, rfl, hown, hbel⟩ := hrel
    have hsz := hbel.size
    by_cases hlt : k < 32
    · have hidx := idx_S T k (by omega)
      have HV := Lib.hid (enc_snoc_V T k (by omega))
      have hy := Sm.byte_lt T k
      obtain ⟨y, hyy⟩ : ∃ y, y = Sm.byte T k := ⟨_, rfl⟩
      rw [← hyy] at hidx hy HV
      obtain ⟨d1, hd1⟩ : ∃ d, d = y / 16 := ⟨_, rfl⟩
      obtain ⟨d2, hd2⟩ : ∃ d, d = y % 16 := ⟨_, rfl⟩
      rw [← hd1, ← hd2] at HV
      have i1 := fun w => idx_dig w d1 (by omega)
      have i2 := fun w => idx_dig w d2 (by omega)
      have r1 : (y : Int).tdiv 16 = (d1 : Int) := by rw [Int.tdiv_eq_ediv_of_nonneg (by omega)]; omega
      have r2 : (y : Int).tmod 16 = (d2 : Int) := by rw [Int.tmod_eq_emod_of_nonneg (by omega)]; omega
      have r3 : (y : Int) / 16 = (d1 : Int) := by omega
      have r4 : (y : Int) % 16 = (d2 : Int) := by omega
      have w1 := wrap8 d1 (by omega)
      have w2 := wrap8 d2 (by omega)
      have g1 : (k : Int) < 32 := by omega
      clear hyy hd1 hd2 hlt
      go_wp2_with fail
      go_region_held3 (fun w' => True) (trivial)
        ((refine step_append_lies _ (by rfl) _ _ _ (by rfl) w.heap.size 5 i0 _ 1 1 Tryd.underlying35 hi0 hz0 hz1 hz2 rfl (by omega) _ _ _ (by rfl) ((hown.alloc _).drew)
            ⟨wr.heap.size, 0, none⟩ 2 2 [.int .u8 (Hm.dg d1), .int .u8 (Hm.dg d2)] (by rfl) (by rfl) (World.news_of_block (cs := #[.int .u8 (Hm.dg d1), .int .u8 (Hm.dg d2)]) (t := 5) (fr := (0, 0)) (heap_alloc_new wr _)) (by simp [Value.oneCell'])
            (by omega) (by unfold maxLen; omega) (by omega) (by simp; omega) (wr.heap.size + 1) (by simp) ?_; intro gg cap w2 hown1 hgrow hat hlt2))
      all_goals
        have hb2 : Below w.heap.size w w2 := ((hbel.alloc hsz _).drew).grown hgrow (by simp <;> omega) (fun g e => (hown.lt _ e).1)
        clear hgrow hown hat
        go_wp2
        go_roundw
        case rel => exact ⟨k + 1, by omega, by go_num, by rw [HV.out]; exact hown1, hb2⟩
        case measure => simp [intOf]; omega
    · obtain rfl : k = 32 := by omega
      have hcv := conv_own wr w.heap.size _ (Hm.enc T) (by rw [List.take_of_length_le (by omega)] at hown; rw [Hm.enc_length, hTl]; exact hown)
      clear hown
      go_wp2
      go_ret
      exact ⟨ret_str (by rw [HT.out]), hbel⟩

set_option maxHeartbeats 800000 in
theorem law_ShaSums (s : ByteArray) (w : World) (hs : s.size ≤ maxLen) (hT : Tabs w) :
    Calls Tryd.prog 3 #[.string s] w fun e w' => e = .returned (.bool true) ∧ Below w.heap.size w w' := by
  unfold maxLen at hs
  by_cases hl : 20000 < s.size
  · go_enter Tryd.func3, Tryd.ntmps3
    go_wp2_with fail
    refine (awake_any _ hT).mono ?_; rintro e w3 ⟨rfl, h3⟩
    go_wp2_with fail
    go_ret
    exact ⟨rfl, h3⟩
  · have hsl : s.data.toList.length = s.size := by simp
    have c1 (w1 : World) : Calls Tryd.prog 11 #[.string s] w1 fun e w' => e = .returned (.string (S (Sm.sha s.data.toList))) ∧ Below w1.heap.size w1 w' := by
      have := refSum_any s.data.toList w1 (by rw [hsl]; omega)
      rwa [S_of] at this
    have c2 (w1 : World) : Calls Tryd.prog 13 #[.string s] w1 fun e w' => e = .returned (.string (S (Hm.enc (Sm.sha s.data.toList)))) ∧ Below w1.heap.size w1 w' := by
      have := refDigest_any s.data.toList w1 (by rw [hsl]; omega)
      rwa [S_of] at this
    go_enter Tryd.func3, Tryd.ntmps3
    go_wp2_with fail
    refine (fsum_at (Below.refl _ _) hT s (by omega)).mono ?_; rintro e w1 ⟨rfl, h1, _⟩
    go_wp2_with fail
    refine (from_ h1 (c1 _)).mono ?_; rintro e w2 ⟨rfl, h2⟩
    go_wp2_with fail
    refine (digest_at h2 hT s (by omega)).mono ?_; rintro e w3 ⟨rfl, h3, _⟩
    go_wp2_with fail
    refine (from_ h3 (c2 _)).mono ?_; rintro e w4 ⟨rfl, h4⟩
    go_wp2_with fail
    refine (from_ h4 (awake_any _ (hT.below h4))).mono ?_; rintro e w5 ⟨rfl, h5⟩
    go_wp2_with fail
    go_ret
    exact ⟨rfl, h5⟩
end Go.Proofs.YtgbdleenkblcfaaDoor
