/-
  The walk of MacBlocks: it comes to true.
-/
import Derived.Test.YtnlkmbbgcellfaaDoorMacLawA
namespace Go.Proofs.YtnlkmbbgcellfaaDoor
open Go.RowKit

namespace Mm
theorem blk_of (l : List UInt8) (h : l.length ≤ 64) : blk l = l ++ List.replicate (64 - l.length) 0 := by
  have : kk l = l := by unfold kk; rw [if_neg (by omega)]
  unfold blk
  rw [this]
theorem blk_blk (l : List UInt8) : blk (blk l) = blk l := by
  rw [blk_of (blk l) (by rw [blk_length]; exact Nat.le_refl _), blk_length]
  simp
theorem blk_sha (l : List UInt8) (h : 64 < l.length) : blk (Sm.sha l) = blk l := by
  have hs := Sm.sha_length l
  have h2 : kk l = Sm.sha l := by unfold kk; rw [if_pos h]
  rw [blk_of (Sm.sha l) (by omega)]
  unfold blk
  rw [h2]
theorem blk_zeros (l : List UInt8) (j : Nat) (h : l.length + j ≤ 64) : blk (l ++ List.replicate j 0) = blk l := by
  rw [blk_of l (by omega), blk_of _ (by simp; omega), List.append_assoc, List.replicate_append_replicate]
  congr 2
  simp; omega
theorem hmac_blk {k k' : List UInt8} (h : blk k' = blk k) (t : List UInt8) : hmac k' t = hmac k t := by unfold hmac; rw [h]
end Mm
set_option maxHeartbeats 1600000 in
theorem law_MacBlocks (key s : ByteArray) (n : Int) (w : World) (hk : key.size ≤ maxLen) (hs : s.size ≤ maxLen) (hT : Tabs w) :
    Calls Tryd.prog 6 #[.string key, .string s, .int .i64 n] w fun e w' => e = .returned (.bool true) ∧ Below w.heap.size w w' := by
  unfold maxLen at hk hs
  obtain ⟨k, rfl⟩ := as_S key
  obtain ⟨t, rfl⟩ := as_S s
  by_cases h1 : (1500 : Int) < ((S k).size : Int)
  · go_enter Tryd.func6, Tryd.ntmps6
    go_wp2_with fail
    refine (awake_any _ hT).mono ?_; rintro e w3 ⟨rfl, h3⟩
    go_wp2_with fail
    go_ret
    exact ⟨rfl, h3⟩
  by_cases h2 : (1500 : Int) < ((S t).size : Int)
  · go_enter Tryd.func6, Tryd.ntmps6
    go_wp2_with fail
    refine (awake_any _ hT).mono ?_; rintro e w3 ⟨rfl, h3⟩
    go_wp2_with fail
    go_ret
    exact ⟨rfl, h3⟩
  have z1 := S_size k
  have z2 := S_size t
  have hb := Mm.blk_length k
  have bb := Mm.blk_blk k
  have EB := Lib.hid bb
  clear bb
  by_cases h3 : 64 < k.length
  · have EO := Lib.hid (Mm.blk_sha k h3)
    have d1 : (64 : Int) < ((S k).size : Int) := by omega
    have zo := Sm.sha_length k
    go_enter Tryd.func6, Tryd.ntmps6
    go_wp2_with fail
    refine (awake_any _ hT).mono ?_; rintro e w1 ⟨rfl, h1⟩
    go_wp2_with fail
    refine (Block_at h1 hT k (by omega)).mono ?_; rintro e w2 ⟨rfl, h2⟩
    go_wp2_with fail
    refine (sum_l h2 hT k (by omega)).mono ?_; rintro e w3 ⟨rfl, h3, _⟩
    obtain ⟨O, hO⟩ : ∃ O, O = Sm.sha k := ⟨_, rfl⟩
    rw [← hO] at EO zo
    rw [← hO]
    clear hO
    go_wp2_with fail
    refine (Of_at h3 hT k t (by omega) (by omega)).mono ?_; rintro e w4 ⟨rfl, h4⟩
    go_wp2_with fail
    refine (Block_at h4 hT (Mm.blk k) (by omega)).mono ?_; rintro e w5 ⟨rfl, h5⟩
    rw [EB.out]
    go_wp2_with fail
    refine (Of_at h5 hT (Mm.blk k) t (by omega) (by omega)).mono ?_; rintro e w6 ⟨rfl, h6⟩
    rw [Mm.hmac_blk EB.out t]
    go_wp2_with fail
    refine (Block_at h6 hT O (by omega)).mono ?_; rintro e w7 ⟨rfl, h7⟩
    rw [EO.out]
    go_wp2_with fail
    refine (Of_at h7 hT O t (by omega) (by omega)).mono ?_; rintro e w8 ⟨rfl, h8⟩
    rw [Mm.hmac_blk EO.out t]
    go_wp2_with fail
    go_ret
    exact ⟨rfl, h8⟩
  by_cases h4 : k.length < 64
  · have d1 : ¬ (64 : Int) < ((S k).size : Int) := by omega
    have d2 : ((S k).size : Int) < 64 := by omega
    obtain ⟨m, hm⟩ : ∃ m : Nat, m + (S k).size = 65 := ⟨65 - (S k).size, by omega⟩
    have e1 : (65 : Int) - ((S k).size : Int) = (m : Int) := by omega
    have e2 : IntKind.u64.wrap (m : Int) = (m : Int) := by
      have : IntKind.u64.wrap (m : Int) = (m : Int) % 18446744073709551616 := by simp [IntKind.wrap, IntKind.bits, IntKind.signed]
      omega
    obtain ⟨u, hu⟩ : ∃ u : Nat, IntKind.u64.wrap n = (u : Int) := ⟨(IntKind.u64.wrap n).toNat, by
      have : IntKind.u64.wrap n = n % 18446744073709551616 := by simp [IntKind.wrap, IntKind.bits, IntKind.signed]
      omega⟩
    go_enter Tryd.func6, Tryd.ntmps6
    go_wp2_with fail
    refine (awake_any _ hT).mono ?_; rintro e w1 ⟨rfl, h1⟩
    go_wp2_with fail
    refine (Block_at h1 hT k (by omega)).mono ?_; rintro e w2 ⟨rfl, h2⟩
    go_wp2_with fail
    obtain ⟨j, ej, hj⟩ : ∃ j : Nat, wrap64 ((u : Int) % (65 - (k.length : Int))) = (j : Int) ∧ k.length + j ≤ 64 := by
      have m1 := Int.emod_nonneg (u : Int) (show (65 - (k.length : Int)) ≠ 0 by omega)
      have m2 := Int.emod_lt_of_pos (u : Int) (show 0 < (65 - (k.length : Int)) by omega)
      generalize (u : Int) % (65 - (k.length : Int)) = x at m1 m2
      exact ⟨x.toNat, by unfold wrap64; omega, by omega⟩
    rw [ej]
    have EO := Lib.hid (Mm.blk_zeros k j hj)
    have e3 := add_S k (List.replicate j 0) (by rw [List.length_replicate]; omega)
    have zo : (k ++ List.replicate j 0).length ≤ 64 := by rw [List.length_append, List.length_replicate]; omega
    refine (bytes_at h2 j 0 (by omega)).mono ?_; rintro e w3 ⟨rfl, h3⟩
    obtain ⟨O, hO⟩ : ∃ O, O = k ++ List.replicate j 0 := ⟨_, rfl⟩
    rw [← hO] at EO zo e3
    clear hO
    go_wp2_with fail
    refine (Of_at h3 hT k t (by omega) (by omega)).mono ?_; rintro e w4 ⟨rfl, h4⟩
    go_wp2_with fail
    refine (Block_at h4 hT (Mm.blk k) (by omega)).mono ?_; rintro e w5 ⟨rfl, h5⟩
    rw [EB.out]
    go_wp2_with fail
    refine (Of_at h5 hT (Mm.blk k) t (by omega) (by omega)).mono ?_; rintro e w6 ⟨rfl, h6⟩
    rw [Mm.hmac_blk EB.out t]
    go_wp2_with fail
    refine (Block_at h6 hT O (by omega)).mono ?_; rintro e w7 ⟨rfl, h7⟩
    rw [EO.out]
    go_wp2_with fail
    refine (Of_at h7 hT O t (by omega) (by omega)).mono ?_; rintro e w8 ⟨rfl, h8⟩
    rw [Mm.hmac_blk EO.out t]
    go_wp2_with fail
    go_ret
    exact ⟨rfl, h8⟩
  · have d1 : ¬ (64 : Int) < ((S k).size : Int) := by omega
    have d2 : ¬ ((S k).size : Int) < 64 := by omega
    go_enter Tryd.func6, Tryd.ntmps6
    go_wp2_with fail
    refine (awake_any _ hT).mono ?_; rintro e w1 ⟨rfl, h1⟩
    go_wp2_with fail
    refine (Block_at h1 hT k (by omega)).mono ?_; rintro e w3 ⟨rfl, h3⟩
    go_wp2_with fail
    refine (Of_at h3 hT k t (by omega) (by omega)).mono ?_; rintro e w4 ⟨rfl, h4⟩
    go_wp2_with fail
    refine (Block_at h4 hT (Mm.blk k) (by omega)).mono ?_; rintro e w5 ⟨rfl, h5⟩
    rw [EB.out]
    go_wp2_with fail
    refine (Of_at h5 hT (Mm.blk k) t (by omega) (by omega)).mono ?_; rintro e w6 ⟨rfl, h6⟩
    rw [Mm.hmac_blk EB.out t]
    go_wp2_with fail
    refine (Block_at h6 hT k (by omega)).mono ?_; rintro e w7 ⟨rfl, h7⟩
    go_wp2_with fail
    refine (Of_at h7 hT k t (by omega) (by omega)).mono ?_; rintro e w8 ⟨rfl, h8⟩
    go_wp2_with fail
    go_ret
    exact ⟨rfl, h8⟩
end Go.Proofs.YtnlkmbbgcellfaaDoor
