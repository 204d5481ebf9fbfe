/-
  The walk of MacNames: it comes to true.
-/
import Derived.Test.YtnlkmbbgcellfaaDoorMacLawB
namespace Go.Proofs.YtnlkmbbgcellfaaDoor
open Go.RowKit

/-- the key of 131 bytes -/
theorem mac_long : Hm.enc (Mm.hmac (List.replicate 131 170) [84, 101, 115, 116, 32, 85, 115, 105, 110, 103, 32, 76, 97, 114, 103, 101, 114, 32, 84, 104, 97, 110, 32, 66, 108, 111, 99, 107, 45, 83, 105, 122, 101, 32, 75, 101, 121, 32, 45, 32, 72, 97, 115, 104, 32, 75, 101, 121, 32, 70, 105, 114, 115, 116]) = [54, 48, 101, 52, 51, 49, 53, 57, 49, 101, 101, 48, 98, 54, 55, 102, 48, 100, 56, 97, 50, 54, 97, 97, 99, 98, 102, 53, 98, 55, 55, 102, 56, 101, 48, 98, 99, 54, 50, 49, 51, 55, 50, 56, 99, 53, 49, 52, 48, 53, 52, 54, 48, 52, 48, 102, 48, 101, 101, 51, 55, 102, 53, 52] := by decide +kernel
def N6 (k : Nat) : Nat := [0, 1, 63, 64, 65, 200].getD k 0
def R6 : Array Value := #[.int .i64 0, .int .i64 1, .int .i64 63, .int .i64 64, .int .i64 65, .int .i64 200]
theorem cell_R6 (w : World) (b : Nat) (t : TypeId) (fr : Nat × Nat) (h : w.heap[b]? = some (.cells R6 t fr)) (k : Nat) (hk : k < 6) : ∃ n : Nat, n ≤ 200 ∧ w.cell? ⟨b, k, none⟩ = some (.int .i64 (n : Int)) := by
  obtain rfl | rfl | rfl | rfl | rfl | rfl : k = 0 ∨ k = 1 ∨ k = 2 ∨ k = 3 ∨ k = 4 ∨ k = 5 := by omega
  · exact ⟨0, by omega, by rw [cell_of_row w b _ _ _ _ h]; rfl⟩
  · exact ⟨1, by omega, by rw [cell_of_row w b _ _ _ _ h]; rfl⟩
  · exact ⟨63, by omega, by rw [cell_of_row w b _ _ _ _ h]; rfl⟩
  · exact ⟨64, by omega, by rw [cell_of_row w b _ _ _ _ h]; rfl⟩
  · exact ⟨65, by omega, by rw [cell_of_row w b _ _ _ _ h]; rfl⟩
  · exact ⟨200, by omega, by rw [cell_of_row w b _ _ _ _ h]; rfl⟩
theorem blk_none : Mm.blk [] = List.replicate 64 0 := by rw [Mm.blk_of [] (by decide)]; rfl
theorem blk_sevens : Mm.blk (List.replicate 64 7) = List.replicate 64 7 := by rw [Mm.blk_of _ (by simp)]; simp

set_option maxRecDepth 100000 in
set_option maxHeartbeats 3200000 in
theorem law_MacNames (w : World) (hT : Tabs w) :
    Calls Tryd.prog 3 #[] w fun e w' => e = .returned (.bool true) ∧ Below w.heap.size w w' := by
  have q1 : (Mm.hmac (List.replicate 131 170) [84, 101, 115, 116, 32, 85, 115, 105, 110, 103, 32, 76, 97, 114, 103, 101, 114, 32, 84, 104, 97, 110, 32, 66, 108, 111, 99, 107, 45, 83, 105, 122, 101, 32, 75, 101, 121, 32, 45, 32, 72, 97, 115, 104, 32, 75, 101, 121, 32, 70, 105, 114, 115, 116]).length ≤ 1000000 := by rw [Mm.hmac_length]; decide
  go_enter Tryd.func3, Tryd.ntmps3
  go_wp2_with fail
  refine (awake_any _ hT).mono ?_; rintro e w1 ⟨rfl, h1⟩
  go_wp2_with fail
  refine (bytes_at h1 131 170 (by decide)).mono ?_; rintro e w2 ⟨rfl, h2⟩
  go_wp2_with fail
  refine (Of_at h2 hT (List.replicate 131 170) [84, 101, 115, 116, 32, 85, 115, 105, 110, 103, 32, 76, 97, 114, 103, 101, 114, 32, 84, 104, 97, 110, 32, 66, 108, 111, 99, 107, 45, 83, 105, 122, 101, 32, 75, 101, 121, 32, 45, 32, 72, 97, 115, 104, 32, 75, 101, 121, 32, 70, 105, 114, 115, 116] (by decide) (by decide)).mono ?_; rintro e w3 ⟨rfl, h3⟩
  go_wp2_with fail
  refine (encode_c h3 hT _ q1 mac_long).mono ?_; rintro e w4 ⟨rfl, h4⟩
  clear q1
  go_wp2_with fail
  have hR : Hid ((w4.alloc (.cells R6 3)).heap[w4.heap.size]? = some (.cells R6 3 (0, 0))) := heap_alloc_new w4 _
  have h5 : Below w.heap.size w (w4.alloc (.cells R6 3)) := h4.alloc h4.size _
  have e6 : w4.alloc (.cells #[.int .i64 0, .int .i64 1, .int .i64 63, .int .i64 64, .int .i64 65, .int .i64 200] 3) = w4.alloc (.cells R6 3) := rfl
  rw [e6]
  clear e6
  have q2 := h4.size
  obtain ⟨B, hB⟩ : ∃ B, B = w4.heap.size := ⟨_, rfl⟩
  obtain ⟨W1, hW⟩ : ∃ W1, W1 = w4.alloc (.cells R6 3) := ⟨_, rfl⟩
  rw [← hB, ← hW] at hR
  rw [← hW] at h5
  rw [← hB] at q2
  rw [← hB, ← hW]
  have hlt : B < W1.heap.size := (Array.getElem?_eq_some_iff.1 hR.out).1
  have hT1 := hT.below h5
  clear hB hW h1 h2 h3 h4
  go_loopw [2, 3, 14] (fun _ _ i wr => ∃ k : Nat, k ≤ 6 ∧ i = .int .i64 k ∧ Below W1.heap.size W1 wr) (fun _ _ i _ => 6 - (intOf i).toNat)
  case atStart => exact ⟨0, by omega, rfl, Below.refl _ _⟩
  case round =>
    obtain ⟨k, hk, rfl, h6⟩ := hrel
    by_cases hlt6 : k < 6
    · obtain ⟨n, hn, hc⟩ := cell_R6 wr B _ _ ((h6.block B hlt).trans hR.out) k hlt6
      have g1 : (0 : Int) ≤ (k : Int) := by omega
      have g2 : (k : Int) < 6 := by omega
      have z1 : ((S (Mm.blk (List.replicate n 7))).size : Int) = 64 := by rw [S_size, Mm.blk_length]; rfl
      have z2 : ((S (Mm.hmac (List.replicate n 7) [97])).size : Int) = 32 := by rw [S_size, Mm.hmac_length]; rfl
      have z3 : (List.replicate n (7 : UInt8)).length ≤ 200 := by rw [List.length_replicate]; exact hn
      go_wp2_with fail
      refine (bytes_at h6 n 7 (by omega)).mono ?_; rintro e w2 ⟨rfl, h2⟩
      obtain ⟨key, hkey⟩ : ∃ key, key = List.replicate n (7 : UInt8) := ⟨_, rfl⟩
      rw [← hkey] at z1 z2 z3
      rw [← hkey]
      clear hkey
      go_wp2_with fail
      refine (Of_at h2 hT1 key [] (by omega) (by decide)).mono ?_; rintro e w3 ⟨rfl, h3⟩
      go_wp2_with fail
      refine (from_ h3 (refOf_any key [] w3 (by omega) (by decide))).mono ?_; rintro e w4 ⟨rfl, h4⟩
      go_wp2_with fail
      refine (Block_at h4 hT1 key (by omega)).mono ?_; rintro e w5 ⟨rfl, h7⟩
      go_wp2_with fail
      refine (from_ h7 (refBlock_any key w5 (by omega))).mono ?_; rintro e w6 ⟨rfl, h8⟩
      go_wp2_with fail
      refine (Block_at h8 hT1 key (by omega)).mono ?_; rintro e w7 ⟨rfl, h9⟩
      go_wp2_with fail
      refine (Of_at h9 hT1 key [97] (by omega) (by decide)).mono ?_; rintro e w8 ⟨rfl, h10⟩
      go_wp2_with fail
      go_roundw
      case rel => exact ⟨k + 1, by omega, by go_num, h10⟩
      case measure => simp [intOf]; omega
    · obtain rfl : k = 6 := by omega
      have n1 : ((⟨#[]⟩ : ByteArray).toList == (⟨#[97]⟩ : ByteArray).toList) = false := by decide +kernel
      have n2 : ((⟨#[97, 98]⟩ : ByteArray).toList == (⟨#[97, 66]⟩ : ByteArray).toList) = false := by decide +kernel
      have n3 : ((⟨#[97, 98]⟩ : ByteArray).toList == (⟨#[98, 97]⟩ : ByteArray).toList) = false := by decide +kernel
      have n4 : ((⟨#[97, 98]⟩ : ByteArray).toList == (⟨#[98]⟩ : ByteArray).toList) = false := by decide +kernel
      go_wp2_with fail
      refine (Block_at h6 hT1 [] (by decide)).mono ?_; rintro e w2 ⟨rfl, h2⟩
      rw [blk_none]
      go_wp2_with fail
      refine (bytes_at h2 64 0 (by decide)).mono ?_; rintro e w3 ⟨rfl, h3⟩
      go_wp2_with fail
      refine (bytes_at h3 64 7 (by decide)).mono ?_; rintro e w4 ⟨rfl, h4⟩
      go_wp2_with fail
      refine (Block_at h4 hT1 (List.replicate 64 7) (by decide)).mono ?_; rintro e w5 ⟨rfl, h7⟩
      rw [blk_sevens]
      go_wp2_with fail
      refine (bytes_at h7 64 7 (by decide)).mono ?_; rintro e w6 ⟨rfl, h8⟩
      go_wp2_with fail
      refine (Same_any _ _ _).mono ?_; rintro e w7 ⟨rfl, rfl⟩
      go_wp2_with fail
      refine (Same_any _ _ _).mono ?_; rintro e w7 ⟨rfl, rfl⟩
      rw [n1]
      go_wp2_with fail
      refine (Same_any _ _ _).mono ?_; rintro e w7 ⟨rfl, rfl⟩
      rw [n2]
      go_wp2_with fail
      refine (Same_any _ _ _).mono ?_; rintro e w7 ⟨rfl, rfl⟩
      rw [n3]
      go_wp2_with fail
      refine (Same_any _ _ _).mono ?_; rintro e w7 ⟨rfl, rfl⟩
      rw [n4]
      go_wp2_with fail
      go_ret
      exact ⟨rfl, h5.trans (h8.mono h5.size)⟩
end Go.Proofs.YtnlkmbbgcellfaaDoor
