/-
  What the document's combined, Block and Of come to.
-/
import Derived.Test.YtnlkmbbgcellfaaDoorMacOf
import Derived.Test.YtnlkmbbgcellfaaDoorMacLoop
import Derived.Test.YtnlkmbbgcellfaaDoorShaRefU
namespace Go.Proofs.YtnlkmbbgcellfaaDoor
open Go.RowKit

set_option maxRecDepth 100000 in
set_option maxHeartbeats 800000 in
theorem refCombined_any (l : List UInt8) (x : UInt8) (w : World) (hl : l.length ≤ 100000000) :
    Calls Tryd.prog 22 #[.string (S l), .int .u8 (x.toNat : Int)] w fun e w' => e = .returned (.string (S (Mm.xr l x))) ∧ Below w.heap.size w w' := by
  obtain ⟨C, m, hcv⟩ := run_bytes w l
  obtain ⟨W, hW⟩ : ∃ W, W = w.drew.alloc (.cells (AB (l ++ List.replicate m 0)) 5 (l.length + m, l.length + m + 1)) := ⟨_, rfl⟩
  have HR : Hid (W.heap[w.heap.size]? = some (.cells (AB (Mm.mid l x 0 ++ List.replicate m 0)) 5 (l.length + m, l.length + m + 1))) := by
    rw [hW, Mm.mid_zero]
    exact heap_alloc_new w.drew _
  have HB : Hid (Below w.heap.size w W) := by
    rw [hW]
    exact ((Below.refl _ _).drew).alloc (Nat.le_refl _) _
  rw [← hW] at hcv
  clear hW
  go_enter Tryd.func22, Tryd.ntmps22
  go_wp2_with fail
  go_loopw [6] (fun i wr => ∃ k : Nat, k ≤ l.length ∧ i = .int .i64 k ∧ Hid (wr.heap[w.heap.size]? = some (.cells (AB (Mm.mid l x k ++ List.replicate m 0)) 5 (l.length + m, l.length + m + 1))) ∧ Below w.heap.size w wr) (fun i _ => l.length - (intOf i).toNat)
  case atStart => exact ⟨0, by omega, rfl, HR, HB.out⟩
  case round =>
    clear HR HB hcv
    obtain ⟨k, hk, rfl, HR, hbel⟩ := hrel
    by_cases hlt : k < l.length
    · have hc := cell_app wr _ _ _ _ _ HR.out k (by rw [Mm.mid_length]; exact hlt)
      rw [Mm.mid_at l x k hlt] at hc
      have hf := frozen_past wr _ k _ _ _ HR.out (by omega)
      obtain ⟨c, v, hcv, rX, HS⟩ := Mm.mid_round l x k hlt
      rw [hcv] at hc
      have HS := Lib.hid (HS ▸ set_app wr _ _ _ _ _ HR.out k (by rw [Mm.mid_length]; exact hlt) v)
      have HB := hbel.setCell (p := ⟨w.heap.size, k, none⟩) (Nat.le_refl _) (.int .u8 (v.toNat : Int))
      clear hcv
      go_wp2_with fail
      go_roundw
      case rel => exact ⟨k + 1, by omega, by go_num, HS, HB⟩
      case measure => simp [intOf]; omega
    · obtain rfl : k = l.length := by omega
      have hcv := conv_rowp wr w.heap.size C _ l.length _ _ HR.out (by simp [Mm.mid_length]) (Mm.xr l x) (by rw [List.take_append_of_le_length (by rw [Mm.mid_length]; exact Nat.le_refl _), List.take_of_length_le (by rw [Mm.mid_length]; exact Nat.le_refl _), Mm.mid_full])
      go_wp2_with fail
      go_ret
      exact ⟨rfl, hbel⟩


set_option maxRecDepth 100000 in
set_option maxHeartbeats 800000 in
theorem refBlock_any (l : List UInt8) (w : World) (hl : l.length ≤ 100000) :
    Calls Tryd.prog 14 #[.string (S l)] w fun e w' => e = .returned (.string (S (Mm.blk l))) ∧ Below w.heap.size w w' := by
  by_cases hk : 64 < l.length
  · have HK : Hid (Mm.kk l = Sm.sha l) := by unfold Mm.kk Hid; rw [if_pos hk]
    have hd : (64 : Int) < ((S l).size : Int) := by rw [S_size]; omega
    have hq := Mm.kk_le l
    go_enter Tryd.func14, Tryd.ntmps14
    go_wp2_with fail
    refine (refSum_any l w hl).mono ?_; rintro e w1 ⟨rfl, h1⟩
    rw [← HK.out]
    have HL := Lib.hid (show (Mm.blk l) = Mm.kk l ++ List.replicate (64 - (Mm.kk l).length) 0 from rfl)
    obtain ⟨r, hr⟩ : ∃ r, r = Mm.kk l := ⟨_, rfl⟩
    rw [← hr] at hq
    rw [← hr] at HL
    rw [← hr]
    clear HK hr hd
    go_wp2_with fail
    go_loop [0] (fun v => ∃ j : Nat, j + r.length ≤ 64 ∧ v = .string (S (r ++ List.replicate j 0))) (fun v => 64 - lenOf v)
    case atStart => exact ⟨0, by omega, by simp⟩
    case round =>
      obtain ⟨j, hj, rfl⟩ := hrel
      have hz : (S (r ++ List.replicate j 0)).size = r.length + j := by rw [S_size]; simp
      by_cases hlt : j + r.length < 64
      · have hc : ((S (r ++ List.replicate j 0)).size : Int) < 64 := by omega
        have eA : S (r ++ List.replicate j 0) ++ ⟨#[0]⟩ = S (r ++ List.replicate (j + 1) 0) := by rw [app_S, List.append_assoc, ← List.replicate_succ']
        have hz1 : (S (r ++ List.replicate (j + 1) 0)).size = r.length + (j + 1) := by rw [S_size]; simp
        go_wp2
        go_round
        case rel => exact ⟨j + 1, by omega, rfl⟩
        case measure => simp only [lenOf]; omega
      · have hc : ¬ ((S (r ++ List.replicate j 0)).size : Int) < 64 := by omega
        obtain rfl : j = 64 - r.length := by omega
        go_wp2
        go_ret
        exact ⟨by rw [HL.out]; rfl, h1⟩
  · have HK : Hid (Mm.kk l = l) := by unfold Mm.kk Hid; rw [if_neg hk]
    have hd : ¬ (64 : Int) < ((S l).size : Int) := by rw [S_size]; omega
    have hq : l.length ≤ 64 := by omega
    have HL : Hid (Mm.blk l = l ++ List.replicate (64 - l.length) 0) := by unfold Mm.blk Hid; rw [HK.out]
    go_enter Tryd.func14, Tryd.ntmps14
    go_wp2_with fail
    clear HK hd hk
    go_loop [0] (fun v => ∃ j : Nat, j + l.length ≤ 64 ∧ v = .string (S (l ++ List.replicate j 0))) (fun v => 64 - lenOf v)
    case atStart => exact ⟨0, by omega, by simp⟩
    case round =>
      obtain ⟨j, hj, rfl⟩ := hrel
      have hz : (S (l ++ List.replicate j 0)).size = l.length + j := by rw [S_size]; simp
      by_cases hlt : j + l.length < 64
      · have hc : ((S (l ++ List.replicate j 0)).size : Int) < 64 := by omega
        have eA : S (l ++ List.replicate j 0) ++ ⟨#[0]⟩ = S (l ++ List.replicate (j + 1) 0) := by rw [app_S, List.append_assoc, ← List.replicate_succ']
        have hz1 : (S (l ++ List.replicate (j + 1) 0)).size = l.length + (j + 1) := by rw [S_size]; simp
        go_wp2
        go_round
        case rel => exact ⟨j + 1, by omega, rfl⟩
        case measure => simp only [lenOf]; omega
      · have hc : ¬ ((S (l ++ List.replicate j 0)).size : Int) < 64 := by omega
        obtain rfl : j = 64 - l.length := by omega
        go_wp2
        go_ret
        exact ⟨by rw [HL.out]; rfl, Below.refl _ _⟩

set_option maxRecDepth 100000 in
set_option maxHeartbeats 800000 in
theorem refOf_any (k t : List UInt8) (w : World) (hk : k.length ≤ 10000) (ht : t.length ≤ 10000) :
    Calls Tryd.prog 12 #[.string (S k), .string (S t)] w fun e w' => e = .returned (.string (S (Mm.hmac k t))) ∧ Below w.heap.size w w' := by
  have hb := Mm.blk_length k
  have x1 := Mm.xr_length (Mm.blk k) 54
  have x2 := Mm.xr_length (Mm.blk k) 92
  have e1 := add_S (Mm.xr (Mm.blk k) 54) t (by omega)
  have z1 : (Mm.xr (Mm.blk k) 54 ++ t).length ≤ 20000 := by rw [List.length_append]; omega
  have z2 : (Sm.sha (Mm.xr (Mm.blk k) 54 ++ t)).length = 32 := Sm.sha_length _
  have e2 := add_S (Mm.xr (Mm.blk k) 92) (Sm.sha (Mm.xr (Mm.blk k) 54 ++ t)) (by omega)
  have z3 : (Mm.xr (Mm.blk k) 92 ++ Sm.sha (Mm.xr (Mm.blk k) 54 ++ t)).length ≤ 20000 := by rw [List.length_append]; omega
  go_enter Tryd.func12, Tryd.ntmps12
  go_wp2_with fail
  refine (refBlock_any k w (by omega)).mono ?_; rintro e w1 ⟨rfl, h1⟩
  go_wp2_with fail
  refine (from_ h1 (refCombined_any (Mm.blk k) 92 w1 (by omega))).mono ?_; rintro e w2 ⟨rfl, h2⟩
  go_wp2_with fail
  refine (from_ h2 (refCombined_any (Mm.blk k) 54 w2 (by omega))).mono ?_; rintro e w3 ⟨rfl, h3⟩
  go_wp2_with fail
  refine (from_ h3 (refSum_any _ w3 (by omega))).mono ?_; rintro e w4 ⟨rfl, h4⟩
  go_wp2_with fail
  refine (from_ h4 (refSum_any _ w4 (by omega))).mono ?_; rintro e w5 ⟨rfl, h5⟩
  go_wp2_with fail
  go_ret
  exact ⟨rfl, h5⟩
end Go.Proofs.YtnlkmbbgcellfaaDoor
