/-
  What the loops over bytes come to: the laws' combined and bytes, the document's combined.
-/
import Derived.Test.YtnlkmbbgcellfaaDoorMacRow
namespace Go.Proofs.YtnlkmbbgcellfaaDoor
open Go.RowKit

set_option maxRecDepth 100000 in
set_option maxHeartbeats 800000 in
theorem combined_any (l : List UInt8) (x : UInt8) (w : World) (hl : l.length ≤ 100000000) :
    Calls Tryd.prog 17 #[.string (S l), .int .u8 (x.toNat : Int)] w fun e w' => e = .returned (.string (S (Mm.xr l x))) ∧ Below w.heap.size w w' := by
  obtain ⟨C, m, hcv⟩ := run_bytes w l
  obtain ⟨W, hW⟩ : ∃ W, W = w.drew.alloc (.cells (AB (l ++ List.replicate m 0)) 5 (l.length + m, l.length + m + 1)) := ⟨_, rfl⟩
  have HR : Hid (W.heap[w.heap.size]? = some (.cells (AB (Mm.mid l x 0 ++ List.replicate m 0)) 5 (l.length + m, l.length + m + 1))) := by
    rw [hW, Mm.mid_zero]
    exact heap_alloc_new w.drew _
  have HB : Hid (Below w.heap.size w W) := by
    rw [hW]
    exact ((Below.refl _ _).drew).alloc (Nat.le_refl _) _
  rw [← hW] at hcv
  clear hW
  go_enter Tryd.func17, Tryd.ntmps17
  go_wp2_with fail
  go_loopw [6] (fun i wr => ∃ k : Nat, k ≤ l.length ∧ i = .int .i64 k ∧ Hid (wr.heap[w.heap.size]? = some (.cells (AB (Mm.mid l x k ++ List.replicate m 0)) 5 (l.length + m, l.length + m + 1))) ∧ Below w.heap.size w wr) (fun i _ => l.length - (intOf i).toNat)
  case atStart => exact ⟨0, by omega, rfl, HR, HB.out⟩
  case round =>
    clear HR HB hcv
    obtain ⟨k, hk, rfl, HR, hbel⟩ := hrel
    by_cases hlt : k < l.length
    · have hc := cell_app wr _ _ _ _ _ HR.out k (by rw [Mm.mid_length]; exact hlt)
      rw [Mm.mid_at l x k hlt] at hc
      have hf := frozen_past wr _ k _ _ _ HR.out (by omega)
      obtain ⟨c, v, hcv, rX, HS⟩ := Mm.mid_round l x k hlt
      rw [hcv] at hc
      have HS := Lib.hid (HS ▸ set_app wr _ _ _ _ _ HR.out k (by rw [Mm.mid_length]; exact hlt) v)
      have HB := hbel.setCell (p := ⟨w.heap.size, k, none⟩) (Nat.le_refl _) (.int .u8 (v.toNat : Int))
      clear hcv
      go_wp2_with fail
      go_roundw
      case rel => exact ⟨k + 1, by omega, by go_num, HS, HB⟩
      case measure => simp [intOf]; omega
    · obtain rfl : k = l.length := by omega
      have hcv := conv_rowp wr w.heap.size C _ l.length _ _ HR.out (by simp [Mm.mid_length]) (Mm.xr l x) (by rw [List.take_append_of_le_length (by rw [Mm.mid_length]; exact Nat.le_refl _), List.take_of_length_le (by rw [Mm.mid_length]; exact Nat.le_refl _), Mm.mid_full])
      go_wp2_with fail
      go_ret
      exact ⟨rfl, hbel⟩

set_option maxRecDepth 100000 in
set_option maxHeartbeats 800000 in
theorem bytes_any (n : Nat) (x : UInt8) (w : World) (hl : n ≤ 100000000) :
    Calls Tryd.prog 11 #[.int .i64 (n : Int), .int .u8 (x.toNat : Int)] w fun e w' => e = .returned (.string (S (List.replicate n x))) ∧ Below w.heap.size w w' := by
  have hmk := fun w => run_make_zero n n rfl hl w
  have HR : Hid ((w.alloc (.cells (AB (List.replicate n 0)) 5)).heap[w.heap.size]? = some (.cells (AB (Rp x n 0)) 5 (0, 0))) := by
    rw [Rp_zero]
    exact heap_alloc_new w _
  have HB : Hid (Below w.heap.size w (w.alloc (.cells (AB (List.replicate n 0)) 5))) := (Below.refl _ _).alloc (Nat.le_refl _) _
  go_enter Tryd.func11, Tryd.ntmps11
  go_wp2_with fail
  go_loopw [6] (fun i wr => ∃ k : Nat, k ≤ n ∧ i = .int .i64 k ∧ Hid (wr.heap[w.heap.size]? = some (.cells (AB (Rp x n k)) 5 (0, 0))) ∧ Below w.heap.size w wr) (fun i _ => n - (intOf i).toNat)
  case atStart => exact ⟨0, by omega, rfl, HR, HB.out⟩
  case round =>
    clear HR HB hmk
    obtain ⟨k, hk, rfl, HR, hbel⟩ := hrel
    by_cases hlt : k < n
    · have hc := cell_AB wr _ _ _ _ HR.out k (by rw [Rp_length _ _ _ hk]; exact hlt)
      have hf := frozen_of_row wr _ k _ _ HR.out
      have HS := Lib.hid (set_AB wr _ _ _ _ HR.out k x)
      rw [Rp_set x n k hlt] at HS
      have HB := hbel.setCell (p := ⟨w.heap.size, k, none⟩) (Nat.le_refl _) (.int .u8 ((x.toNat : Nat) : Int))
      go_wp2_with fail
      go_roundw
      case rel => exact ⟨k + 1, by omega, by go_num, HS, HB⟩
      case measure => simp [intOf]; omega
    · obtain rfl : k = n := by omega
      have hcv := conv_rowp wr w.heap.size k _ k _ _ HR.out (by rw [Rp_length _ _ _ hk]; exact Nat.le_refl _) (List.replicate k x) (by rw [List.take_of_length_le (by rw [Rp_length _ _ _ hk]; exact Nat.le_refl _), Rp_full])
      go_wp2_with fail
      go_ret
      exact ⟨rfl, hbel⟩
end Go.Proofs.YtnlkmbbgcellfaaDoor
