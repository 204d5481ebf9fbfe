/-
  The walks of MacTells, MacTwice and MacBlocks: each comes to true.
-/
import Derived.Test.YtnlkmbbgcellfaaDoorMacRef
import Derived.Test.YtnlkmbbgcellfaaDoorMacAwake
namespace Go.Proofs.YtnlkmbbgcellfaaDoor
open Go.RowKit

theorem as_S (s : ByteArray) : ∃ l, s = S l := ⟨s.data.toList, (S_of s).symm⟩
set_option maxHeartbeats 1600000 in
theorem law_MacTells (key s : ByteArray) (w : World) (hk : key.size ≤ maxLen) (hs : s.size ≤ maxLen) (hT : Tabs w) :
    Calls Tryd.prog 4 #[.string key, .string s] w fun e w' => e = .returned (.bool true) ∧ Below w.heap.size w w' := by
  unfold maxLen at hk hs
  obtain ⟨k, rfl⟩ := as_S key
  obtain ⟨t, rfl⟩ := as_S s
  by_cases h1 : (1500 : Int) < ((S k).size : Int)
  · go_enter Tryd.func4, Tryd.ntmps4
    go_wp2_with fail
    refine (awake_any _ hT).mono ?_; rintro e w3 ⟨rfl, h3⟩
    go_wp2_with fail
    go_ret
    exact ⟨rfl, h3⟩
  by_cases h2 : (1500 : Int) < ((S t).size : Int)
  · go_enter Tryd.func4, Tryd.ntmps4
    go_wp2_with fail
    refine (awake_any _ hT).mono ?_; rintro e w3 ⟨rfl, h3⟩
    go_wp2_with fail
    go_ret
    exact ⟨rfl, h3⟩
  have z1 := S_size k
  have z2 := S_size t
  go_enter Tryd.func4, Tryd.ntmps4
  go_wp2_with fail
  refine (Of_any k t w hT (by omega) (by omega)).mono ?_; rintro e w1 ⟨rfl, h1⟩
  go_wp2_with fail
  refine (from_ h1 (refOf_any k t w1 (by omega) (by omega))).mono ?_; rintro e w2 ⟨rfl, h2⟩
  go_wp2_with fail
  refine (Block_at h2 hT k (by omega)).mono ?_; rintro e w3 ⟨rfl, h3⟩
  go_wp2_with fail
  refine (from_ h3 (refBlock_any k w3 (by omega))).mono ?_; rintro e w4 ⟨rfl, h4⟩
  go_wp2_with fail
  refine (from_ h4 (awake_any _ (hT.below h4))).mono ?_; rintro e w5 ⟨rfl, h5⟩
  go_wp2_with fail
  go_ret
  exact ⟨rfl, h5⟩

set_option maxHeartbeats 1600000 in
theorem law_MacTwice (key s : ByteArray) (w : World) (hk : key.size ≤ maxLen) (hs : s.size ≤ maxLen) (hT : Tabs w) :
    Calls Tryd.prog 5 #[.string key, .string s] w fun e w' => e = .returned (.bool true) ∧ Below w.heap.size w w' := by
  unfold maxLen at hk hs
  obtain ⟨k, rfl⟩ := as_S key
  obtain ⟨t, rfl⟩ := as_S s
  by_cases h1 : (1500 : Int) < ((S k).size : Int)
  · go_enter Tryd.func5, Tryd.ntmps5
    go_wp2_with fail
    refine (awake_any _ hT).mono ?_; rintro e w3 ⟨rfl, h3⟩
    go_wp2_with fail
    go_ret
    exact ⟨rfl, h3⟩
  by_cases h2 : (1500 : Int) < ((S t).size : Int)
  · go_enter Tryd.func5, Tryd.ntmps5
    go_wp2_with fail
    refine (awake_any _ hT).mono ?_; rintro e w3 ⟨rfl, h3⟩
    go_wp2_with fail
    go_ret
    exact ⟨rfl, h3⟩
  have z1 := S_size k
  have z2 := S_size t
  have hb := Mm.blk_length k
  have zb : ((S (Mm.blk k)).size : Int) = 64 := by rw [S_size, hb]; rfl
  have x1 := Mm.xr_length (Mm.blk k) 54
  have x2 := Mm.xr_length (Mm.blk k) 92
  have e1 := add_S (Mm.xr (Mm.blk k) 54) t (by omega)
  have y1 : (Mm.xr (Mm.blk k) 54 ++ t).length ≤ 20000 := by rw [List.length_append]; omega
  have y2 : (Sm.sha (Mm.xr (Mm.blk k) 54 ++ t)).length = 32 := Sm.sha_length _
  have e2 := add_S (Mm.xr (Mm.blk k) 92) (Sm.sha (Mm.xr (Mm.blk k) 54 ++ t)) (by omega)
  have y3 : (Mm.xr (Mm.blk k) 92 ++ Sm.sha (Mm.xr (Mm.blk k) 54 ++ t)).length ≤ 20000 := by rw [List.length_append]; omega
  go_enter Tryd.func5, Tryd.ntmps5
  go_wp2_with fail
  refine (awake_any _ hT).mono ?_; rintro e w1 ⟨rfl, h1⟩
  go_wp2_with fail
  refine (Block_at h1 hT k (by omega)).mono ?_; rintro e w2 ⟨rfl, h2⟩
  go_wp2_with fail
  refine (Of_at h2 hT k t (by omega) (by omega)).mono ?_; rintro e w3 ⟨rfl, h3⟩
  go_wp2_with fail
  refine (combined_at h3 (Mm.blk k) 92 (by omega)).mono ?_; rintro e w4 ⟨rfl, h4⟩
  go_wp2_with fail
  refine (combined_at h4 (Mm.blk k) 54 (by omega)).mono ?_; rintro e w5 ⟨rfl, h5⟩
  go_wp2_with fail
  refine (sum_l h5 hT _ (by omega)).mono ?_; rintro e w6 ⟨rfl, h6, _⟩
  go_wp2_with fail
  refine (sum_l h6 hT _ (by omega)).mono ?_; rintro e w7 ⟨rfl, h7, _⟩
  have HE : Mm.hmac k t = Sm.sha (Mm.xr (Mm.blk k) 92 ++ Sm.sha (Mm.xr (Mm.blk k) 54 ++ t)) := rfl
  rw [← HE]
  go_wp2_with fail
  go_ret
  exact ⟨rfl, h7⟩
end Go.Proofs.YtnlkmbbgcellfaaDoor
