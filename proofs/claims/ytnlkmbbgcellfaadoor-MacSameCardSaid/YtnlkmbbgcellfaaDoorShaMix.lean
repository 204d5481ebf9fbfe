/-
  What sha.mix comes to: the state behind the rounds of a block.
-/
import Derived.Test.YtnlkmbbgcellfaaDoorShaRot
import Derived.Deep.QuietTactic
import Derived.BigQuiet
import Derived.Sort.AtCall
import Derived.Laws.CopyOwn
namespace Go.Proofs.YtnlkmbbgcellfaaDoor
open Go.RowKit

def Added (w : World) : Prop := ∃ t fr, w.heap[2]? = some (.cells (AR Sm.K) t fr)
theorem Added.cell {w : World} (h : Added w) (k : Nat) (hk : k < 64) : w.cell? ⟨2, k, none⟩ = some (.int .u32 ((Sm.nth Sm.K k : Nat) : Int)) := by
  obtain ⟨t, fr, h⟩ := h
  exact cell_AR w _ _ t fr h k hk
theorem Added.lt {w : World} (h : Added w) : 2 < w.heap.size := by
  obtain ⟨t, fr, h⟩ := h
  exact (Array.getElem?_eq_some_iff.1 h).1
theorem Added.below {B : Nat} {w w' : World} (h : Added w) (hb : Below B w w') (hB : 2 < B) : Added w' := by
  obtain ⟨t, fr, h⟩ := h
  exact ⟨t, fr, (hb.block _ hB).trans h⟩

theorem idx_AR64 (l : List Nat) (w : World) (k : Nat) (hl : l.length = 64) (h : k < 64) : (Instr.index 51 (.agg (AR l)) (.int .i64 (k : Int))).run Tryd.prog w = .ok (.int .u32 ((Sm.nth l k : Nat) : Int)) w := by
  have h1 := AR_at l k (by omega)
  have hs : (sizeOf 45).run Tryd.prog w = .ok 1 w := by kernel_rfl
  have hu : Tryd.prog.underlying 51 = some (.array 64 45) := by kernel_rfl
  have e1 : (0 : Int) ≤ (k : Int) ∧ (k : Int) < (64 : Nat) := by omega
  have e2 : ¬ 64 ≤ k := by omega
  simp [Instr.index, asIntOf, run_underlying hu, Sem.run_bind, e1, hs, part, h1, e2]
theorem idx_AR8 (l : List Nat) (w : World) (k : Nat) (hl : l.length = 8) (h : k < 8) : (Instr.index 46 (.agg (AR l)) (.int .i64 (k : Int))).run Tryd.prog w = .ok (.int .u32 ((Sm.nth l k : Nat) : Int)) w := by
  have h1 := AR_at l k (by omega)
  have hs : (sizeOf 45).run Tryd.prog w = .ok 1 w := by kernel_rfl
  have hu : Tryd.prog.underlying 46 = some (.array 8 45) := by kernel_rfl
  have e1 : (0 : Int) ≤ (k : Int) ∧ (k : Int) < (8 : Nat) := by omega
  have e2 : ¬ 8 ≤ k := by omega
  simp [Instr.index, asIntOf, run_underlying hu, Sem.run_bind, e1, hs, part, h1, e2]

/-- three blocks laid one behind the other -/
theorem three (w : World) (c1 c2 c3 : Array Value) (t1 t2 t3 : TypeId) :
    (((w.alloc (.cells c1 t1)).alloc (.cells c2 t2)).alloc (.cells c3 t3)).heap[w.heap.size]? = some (.cells c1 t1 (0, 0)) ∧
    (((w.alloc (.cells c1 t1)).alloc (.cells c2 t2)).alloc (.cells c3 t3)).heap[w.heap.size + 1]? = some (.cells c2 t2 (0, 0)) ∧
    (((w.alloc (.cells c1 t1)).alloc (.cells c2 t2)).alloc (.cells c3 t3)).heap[w.heap.size + 1 + 1]? = some (.cells c3 t3 (0, 0)) ∧
    Below w.heap.size w (((w.alloc (.cells c1 t1)).alloc (.cells c2 t2)).alloc (.cells c3 t3)) := by
  have s1 : (w.alloc (.cells c1 t1)).heap.size = w.heap.size + 1 := by simp
  have s2 : ((w.alloc (.cells c1 t1)).alloc (.cells c2 t2)).heap.size = w.heap.size + 1 + 1 := by simp
  refine ⟨?_, ?_, ?_, ?_⟩
  · rw [Below.heap_alloc _ _ _ (by rw [s2]; omega), Below.heap_alloc _ _ _ (by rw [s1]; omega)]; exact heap_alloc_new w _
  · rw [Below.heap_alloc _ _ _ (by rw [s2]; omega), ← s1]; exact heap_alloc_new _ _
  · rw [← s2]; exact heap_alloc_new _ _
  · exact (((Below.refl _ _).alloc (Nat.le_refl _) _).alloc (by rw [s1]; omega) _).alloc (by rw [s2]; omega) _

set_option maxRecDepth 100000 in
set_option maxHeartbeats 800000 in
theorem mix_any (s : Sm.St) (ws : List Nat) (w : World) (hws : ws.length = 64) (hT : Added w) :
    Calls Tryd.prog 28 #[.agg (AR s.list), .agg (AR ws)] w fun e w' => e = .returned (.agg (AR (Sm.mix s ws).list)) ∧ Below w.heap.size w w' := by
  obtain ⟨a, b, c, d, e, f, g, h⟩ := s
  have hB := hT.lt
  obtain ⟨s, hs⟩ : ∃ s, s = Sm.St.mk a b c d e f g h := ⟨_, rfl⟩
  have HS := Lib.hid hs
  rw [← hs]
  clear hs
  have F := three w (AR s.list) (AR ws) #[.int .u32 0, .int .u32 0, .int .u32 0, .int .u32 0, .int .u32 0, .int .u32 0, .int .u32 0, .int .u32 0] 46 51 46
  go_enter Tryd.func28, Tryd.ntmps28
  go_wp2
  obtain ⟨W, hW⟩ : ∃ W, W = (((w.alloc (.cells (AR s.list) 46)).alloc (.cells (AR ws) 51)).alloc (.cells #[.int .u32 0, .int .u32 0, .int .u32 0, .int .u32 0, .int .u32 0, .int .u32 0, .int .u32 0, .int .u32 0] 46)) := ⟨_, rfl⟩
  rw [← hW] at F
  rw [← hW]
  clear hW
  obtain ⟨F1, F2, F3, FB⟩ := F
  have HF1 := Lib.hid F1
  have HF2 := Lib.hid F2
  have HF3 := Lib.hid F3
  clear F1 F2 F3
  have c0 : W.cell? ⟨w.heap.size, 0, none⟩ = some (.int .u32 (a : Int)) := by rw [cell_AR W _ _ _ _ HF1.out 0 (by simp [Sm.St.list]), HS.out]; rfl
  have c1 : W.cell? ⟨w.heap.size, 1, none⟩ = some (.int .u32 (b : Int)) := by rw [cell_AR W _ _ _ _ HF1.out 1 (by simp [Sm.St.list]), HS.out]; rfl
  have c2 : W.cell? ⟨w.heap.size, 2, none⟩ = some (.int .u32 (c : Int)) := by rw [cell_AR W _ _ _ _ HF1.out 2 (by simp [Sm.St.list]), HS.out]; rfl
  have c3 : W.cell? ⟨w.heap.size, 3, none⟩ = some (.int .u32 (d : Int)) := by rw [cell_AR W _ _ _ _ HF1.out 3 (by simp [Sm.St.list]), HS.out]; rfl
  have c4 : W.cell? ⟨w.heap.size, 4, none⟩ = some (.int .u32 (e : Int)) := by rw [cell_AR W _ _ _ _ HF1.out 4 (by simp [Sm.St.list]), HS.out]; rfl
  have c5 : W.cell? ⟨w.heap.size, 5, none⟩ = some (.int .u32 (f : Int)) := by rw [cell_AR W _ _ _ _ HF1.out 5 (by simp [Sm.St.list]), HS.out]; rfl
  have c6 : W.cell? ⟨w.heap.size, 6, none⟩ = some (.int .u32 (g : Int)) := by rw [cell_AR W _ _ _ _ HF1.out 6 (by simp [Sm.St.list]), HS.out]; rfl
  have c7 : W.cell? ⟨w.heap.size, 7, none⟩ = some (.int .u32 (h : Int)) := by rw [cell_AR W _ _ _ _ HF1.out 7 (by simp [Sm.St.list]), HS.out]; rfl
  go_quiet (fail)
  go_wp2
  go_quiet (fail)
  clear c0 c1 c2 c3 c4 c5 c6 c7
  go_wp2_with (refine wpList_load_row (by rfl) 51 _ (by rfl) (w.heap.size + 1) (by rfl) 51 _ (0, 0) _ HF2.out Tryd.underlying51 (by rfl) (by rw [AR_size, hws]; kernel_rfl) ?_)
  have rA := Sm.and_eq
  have rS : IntKind.u32.signed = false := rfl
  have rN := Sm.not_eq
  have rX := Sm.xor_eq
  have rP := Sm.add_eq
  go_loopw [5, 6, 7, 8, 9, 10, 11, 12, 13, 14, 15, 16, 17, 18, 38] (fun v5 v6 v7 v8 v9 v10 v11 v12 _ _ _ _ _ _ i wr => ∃ k : Nat, k ≤ 64 ∧ i = .int .i64 k ∧
      v5 = .int .u32 ((Sm.rounds ws s k).a : Int) ∧ v6 = .int .u32 ((Sm.rounds ws s k).b : Int) ∧ v7 = .int .u32 ((Sm.rounds ws s k).c : Int) ∧ v8 = .int .u32 ((Sm.rounds ws s k).d : Int) ∧
      v9 = .int .u32 ((Sm.rounds ws s k).e : Int) ∧ v10 = .int .u32 ((Sm.rounds ws s k).f : Int) ∧ v11 = .int .u32 ((Sm.rounds ws s k).g : Int) ∧ v12 = .int .u32 ((Sm.rounds ws s k).h : Int) ∧
      Hid (wr.heap[w.heap.size]? = some (.cells (AR s.list) 46 (0, 0))) ∧ Hid (wr.heap[w.heap.size + 1 + 1]? = some (.cells #[.int .u32 0, .int .u32 0, .int .u32 0, .int .u32 0, .int .u32 0, .int .u32 0, .int .u32 0, .int .u32 0] 46 (0, 0))) ∧ Below w.heap.size w wr) (fun _ _ _ _ _ _ _ _ _ _ _ _ _ _ i _ => 64 - (intOf i).toNat)
  case atStart => exact ⟨0, by omega, rfl, by rw [HS.out]; rfl, by rw [HS.out]; rfl, by rw [HS.out]; rfl, by rw [HS.out]; rfl, by rw [HS.out]; rfl, by rw [HS.out]; rfl, by rw [HS.out]; rfl, by rw [HS.out]; rfl, HF1, HF3, below_drewN FB _⟩
  case round =>
    obtain ⟨k, hk, rfl, rfl, rfl, rfl, rfl, rfl, rfl, rfl, rfl, HG, HZ, hbel⟩ := hrel
    have hT' := hT.below hbel hB
    by_cases hlt : k < 64
    · have hi := fun w => idx_AR64 ws w k hws hlt
      have hc := hT'.cell k hlt
      have g1 : (0 : Int) ≤ (k : Int) := by omega
      have g2 : (k : Int) < 64 := by omega
      obtain ⟨R, hR⟩ : ∃ R, R = Sm.rounds ws s k := ⟨_, rfl⟩
      rw [← hR]
      have HR := Lib.hid hR
      clear hR
      go_wp2
      go_quiet (first | (go_at_call_has 35 (Value.int IntKind.i64 6); exact Calls.quiet_of_same (turn_q _ 6 _ _ rfl (by decide) (by decide))) | (go_at_call_has 35 (Value.int IntKind.i64 11); exact Calls.quiet_of_same (turn_q _ 11 _ _ rfl (by decide) (by decide))) | (go_at_call_has 35 (Value.int IntKind.i64 25); exact Calls.quiet_of_same (turn_q _ 25 _ _ rfl (by decide) (by decide))))
      go_wp2_with fail
      refine (turn_q _ 2 _ _ rfl (by decide) (by decide)).mono ?_; rintro _ _ ⟨rfl, rfl⟩
      go_wp2_with fail
      refine (turn_q _ 13 _ _ rfl (by decide) (by decide)).mono ?_; rintro _ _ ⟨rfl, rfl⟩
      go_wp2_with fail
      refine (turn_q _ 22 _ _ rfl (by decide) (by decide)).mono ?_; rintro _ _ ⟨rfl, rfl⟩
      go_wp2_with fail
      go_roundw
      case rel =>
        have e1 : Sm.rounds ws s (k + 1) = Sm.round R (Sm.nth Sm.K k) (Sm.nth ws k) := by rw [HR.out]; rfl
        exact ⟨k + 1, by omega, by go_num, by rw [e1]; rfl, by rw [e1]; rfl, by rw [e1]; rfl, by rw [e1]; rfl, by rw [e1]; rfl, by rw [e1]; rfl, by rw [e1]; rfl, by rw [e1]; rfl, HG, HZ, below_drewN hbel _⟩
      case measure => simp [intOf]; omega
    · obtain rfl : k = 64 := by omega
      obtain ⟨R, hR⟩ : ∃ R, R = Sm.rounds ws s 64 := ⟨_, rfl⟩
      rw [← hR]
      have HR := Lib.hid hR
      clear hR
      have hsz := hbel.size
      have HF3' : Hid (wr.heap[w.heap.size + 1 + 1]? = some (.cells #[.int .u32 0, .int .u32 0, .int .u32 0, .int .u32 0, .int .u32 0, .int .u32 0, .int .u32 0, .int .u32 0] 46 (0, 0))) := HZ
      go_wp2
      go_loopw [19, 20, 111] (fun _ _ i wz => ∃ k : Nat, k ≤ 8 ∧ i = .int .i64 k ∧ Hid (wz.heap[w.heap.size]? = some (.cells (AR (Sm.mid s R k)) 46 (0, 0))) ∧
          Hid (wz.heap[w.heap.size + 1 + 1]? = some (.cells #[.int .u32 0, .int .u32 0, .int .u32 0, .int .u32 0, .int .u32 0, .int .u32 0, .int .u32 0, .int .u32 0] 46 (0, 0))) ∧ Below w.heap.size w wz) (fun _ _ i _ => 8 - (intOf i).toNat)
      case atStart => exact ⟨0, by omega, rfl, by rw [Sm.mid_zero]; exact HG, HF3', hbel⟩
      case round =>
        clear HG HZ HF3' hbel hsz
        obtain ⟨k, hk, rfl, HG, HZ, hbel⟩ := hrel
        by_cases hlt : k < 8
        · have hi : ∀ w, (Instr.index 46 (.agg #[.int .u32 (R.a : Int), .int .u32 (R.b : Int), .int .u32 (R.c : Int), .int .u32 (R.d : Int), .int .u32 (R.e : Int), .int .u32 (R.f : Int), .int .u32 (R.g : Int), .int .u32 (R.h : Int)]) (.int .i64 (k : Int))).run Tryd.prog w = .ok (.int .u32 ((Sm.nth R.list k : Nat) : Int)) w := fun w => idx_AR8 R.list w k rfl hlt
          have hc := cell_AR wr _ _ _ _ HG.out k (by rw [Sm.mid_length s R k hk]; exact hlt)
          rw [Sm.mid_nth s R k hlt] at hc
          have hf := frozen_of_row wr _ k _ _ HG.out
          have g1 : (0 : Int) ≤ (k : Int) := by omega
          have g2 : (k : Int) < 8 := by omega
          have HG' := Lib.hid (set_AR wr _ _ _ _ HG.out k (Sm.add (Sm.nth s.list k) (Sm.nth R.list k)))
          rw [Sm.mid_set s R k hlt] at HG'
          have HZ' := Lib.hid ((setCell_other wr w.heap.size k (w.heap.size + 1 + 1) (.int .u32 ((Sm.add (Sm.nth s.list k) (Sm.nth R.list k) : Nat) : Int)) (by omega)).trans HZ.out)
          have hb' := hbel.setCell (Nat.le_refl w.heap.size) (.int .u32 ((Sm.add (Sm.nth s.list k) (Sm.nth R.list k) : Nat) : Int)) (p := ⟨w.heap.size, k, none⟩)
          go_wp2
          go_roundw
          case rel => exact ⟨k + 1, by omega, by go_num, HG', HZ', hb'⟩
          case measure => simp [intOf]; omega
        · obtain rfl : k = 8 := by omega
          rw [Sm.mid_end] at HG
          go_wp2_with (first | (refine wpList_load_row (by rfl) 46 _ (by rfl) w.heap.size (by rfl) 46 _ (0, 0) _ HG.out Tryd.underlying46 (by rfl) (by rw [AR_size, Sm.list_length]; kernel_rfl) ?_) | (refine wpList_store_row (by rfl) 46 _ _ (by rfl) (w.heap.size + 1 + 1) _ (by rfl) (by rfl) 46 _ HZ.out (by rw [AR_size, Sm.list_length]; kernel_rfl) (by rw [AR_size]; rfl) (AR_one _) ?_))
          refine bodyPost_ret (results_cell_row (by rfl) _ _ (w.heap.size + 1 + 1) 46 _ (0, 0) _ (by rfl) (setRow_heap _ _ _ _ _ _ HZ.out) Tryd.underlying46 (by rfl) (by rw [AR_size, Sm.list_length]; kernel_rfl)) rfl ?_
          exact ⟨by rw [HR.out]; rfl, below_setRow hbel (by omega) _⟩
end Go.Proofs.YtnlkmbbgcellfaaDoor
