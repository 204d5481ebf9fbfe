/-
  The document's step: the state behind a block.
-/
import Derived.Test.YtnlkmbbgcellfaaDoorShaRefS
import Derived.Deep.CutRange
namespace Go.Proofs.YtnlkmbbgcellfaaDoor
open Go.RowKit

namespace Sm
def Ok (s : St) : Prop := s.a < 4294967296 ∧ s.b < 4294967296 ∧ s.c < 4294967296 ∧ s.d < 4294967296 ∧ s.e < 4294967296 ∧ s.f < 4294967296 ∧ s.g < 4294967296 ∧ s.h < 4294967296
theorem Ok.round {s : St} (h : Ok s) (k w : Nat) : Ok (Sm.round s k w) := ⟨add_lt _ _, h.1, h.2.1, h.2.2.1, add_lt _ _, h.2.2.2.2.1, h.2.2.2.2.2.1, h.2.2.2.2.2.2.1⟩
theorem Ok.rounds {s : St} (h : Ok s) (ws : List Nat) : ∀ n, Ok (Sm.rounds ws s n)
  | 0 => h
  | n + 1 => (Ok.rounds h ws n).round _ _
theorem Ok.plus (s t : St) : Ok (Sm.plus s t) := ⟨add_lt _ _, add_lt _ _, add_lt _ _, add_lt _ _, add_lt _ _, add_lt _ _, add_lt _ _, add_lt _ _⟩
theorem Ok.mix (s : St) (ws : List Nat) : Ok (Sm.mix s ws) := Ok.plus _ _
theorem Ok.zero : Ok H0 := by unfold Ok H0; simp only []; omega
end Sm
theorem cells_St {w : World} {g : Nat} {s : Sm.St} {t : TypeId} {fr : Nat × Nat} (h : w.heap[g]? = some (.cells (AR s.list) t fr)) :
    w.cell? ⟨g, 0, none⟩ = some (.int .u32 (s.a : Int)) ∧ w.cell? ⟨g, 1, none⟩ = some (.int .u32 (s.b : Int)) ∧ w.cell? ⟨g, 2, none⟩ = some (.int .u32 (s.c : Int)) ∧ w.cell? ⟨g, 3, none⟩ = some (.int .u32 (s.d : Int)) ∧
    w.cell? ⟨g, 4, none⟩ = some (.int .u32 (s.e : Int)) ∧ w.cell? ⟨g, 5, none⟩ = some (.int .u32 (s.f : Int)) ∧ w.cell? ⟨g, 6, none⟩ = some (.int .u32 (s.g : Int)) ∧ w.cell? ⟨g, 7, none⟩ = some (.int .u32 (s.h : Int)) := by
  refine ⟨?_, ?_, ?_, ?_, ?_, ?_, ?_, ?_⟩ <;> (rw [cell_of_row w g _ _ _ _ h]; rfl)

set_option maxRecDepth 100000 in
set_option maxHeartbeats 1600000 in
theorem step_any (s : Sm.St) (b : List UInt8) (w : World) (hb : b.length = 64) (hs : Sm.Ok s) :
    Calls Tryd.prog 27 #[.agg (AR s.list), .string (S b)] w fun e w' => e = .returned (.agg (AR (Sm.mix s (Sm.words b)).list)) ∧ Below w.heap.size w w' := by
  have F := two w (AR s.list) (AR Z8) 46 46
  go_enter Tryd.func27, Tryd.ntmps27
  go_wp2
  change Code.wp _ _ _ _ ((w.alloc (.cells (AR s.list) 46)).alloc (.cells (AR Z8) 46))
  have hsz : ((w.alloc (.cells (AR s.list) 46)).alloc (.cells (AR Z8) 46)).heap.size = w.heap.size + 1 + 1 := by simp
  obtain ⟨W, hW⟩ : ∃ W, W = ((w.alloc (.cells (AR s.list) 46)).alloc (.cells (AR Z8) 46)) := ⟨_, rfl⟩
  rw [← hW] at F hsz
  rw [← hW]
  clear hW
  obtain ⟨F1, F2, FB⟩ := F
  have HF1 := Lib.hid F1
  have HF2 := Lib.hid F2
  clear F1 F2
  obtain ⟨ws, hws⟩ : ∃ ws, ws = Sm.words b := ⟨_, rfl⟩
  have hwl : ws.length = 64 := by rw [hws]; exact Sm.words_length b
  have HWS := Lib.hid hws
  clear hws
  go_cut [5, 6, 7] from 14 to 17 (fun v5 v6 v7 wx => ∃ g5 g6 g7 : Nat, v5 = .pointer (some ⟨g5, 0, none⟩) ∧ v6 = .pointer (some ⟨g6, 0, none⟩) ∧ v7 = .pointer (some ⟨g7, 0, none⟩) ∧ w.heap.size + 1 + 1 ≤ g5 ∧ w.heap.size + 1 + 1 ≤ g6 ∧ w.heap.size + 1 + 1 ≤ g7 ∧
      g7 ≠ g5 ∧ g7 ≠ g6 ∧ Hid (wx.heap[g5]? = some (.cells (AR ws) 51 (0, 0))) ∧ Hid (wx.heap[g6]? = some (.cells (AR Sm.K) 51 (0, 0))) ∧ Hid (wx.heap[g7]? = some (.cells (AR s.list) 46 (0, 0))) ∧ Below W.heap.size W wx)
  case first =>
    refine step_region (by kernel_rfl) (by kernel_rfl) (by rfl) (by rfl) (by simp) hb HF1.out (fun f g5 g6 g7 w2 a1 a2 a3 b1 b2 b3 n1 n2 h5 h6 h7 hB => ?_)
    have H5 : Hid (w2.heap[g5]? = some (.cells (AR ws) 51 (0, 0))) := by rw [HWS.out]; exact h5
    have H6 := Lib.hid h6
    have H7 := Lib.hid h7
    clear h5 h6 h7
    rw [putR_lit]
    go_wp2_with fail
    go_meet
    case rel => exact ⟨g5, g6, g7, a1, a2, a3, by omega, by omega, by omega, n1, n2, H5, H6, H7, hB⟩
  case rest =>
    obtain ⟨g5, g6, g7, rfl, rfl, rfl, b1, b2, b3, n1, n2, H5, H6, H7, hB⟩ := hcut
    have G1 : Hid (wc.heap[w.heap.size]? = some (.cells (AR s.list) 46 (0, 0))) := (hB.block _ (by omega)).trans HF1.out
    have G2 : Hid (wc.heap[w.heap.size + 1]? = some (.cells (AR Z8) 46 (0, 0))) := (hB.block _ (by omega)).trans HF2.out
    have hb0 : Below w.heap.size w wc := FB.trans (hB.mono (by omega))
    clear HF1 HF2 FB hB hb hsz
    go_wp2
    go_loopw [8, 9, 10, 11, 12] (fun i _ _ _ _ wr => ∃ k : Nat, k ≤ 64 ∧ i = .int .i64 k ∧ Hid (wr.heap[g5]? = some (.cells (AR ws) 51 (0, 0))) ∧ Hid (wr.heap[g6]? = some (.cells (AR Sm.K) 51 (0, 0))) ∧
        Hid (wr.heap[g7]? = some (.cells (AR (Sm.rounds ws s k).list) 46 (0, 0))) ∧ Hid (wr.heap[w.heap.size]? = some (.cells (AR s.list) 46 (0, 0))) ∧ Hid (wr.heap[w.heap.size + 1]? = some (.cells (AR Z8) 46 (0, 0))) ∧ Below w.heap.size w wr) (fun i _ _ _ _ _ => 64 - (intOf i).toNat)
    case atStart => exact ⟨0, by omega, rfl, H5, H6, H7, G1, G2, hb0⟩
    case round =>
      clear H5 H6 H7 G1 G2 hb0
      obtain ⟨k, hk, rfl, H5, H6, H7, G1, G2, hbel⟩ := hrel
      by_cases hlt : k < 64
      · have ok := hs.rounds ws k
        have HR : Hid (Sm.rounds ws s (k + 1) = Sm.round (Sm.rounds ws s k) (Sm.nth Sm.K k) (Sm.nth ws k)) := rfl
        obtain ⟨R, hR⟩ : ∃ R, R = Sm.rounds ws s k := ⟨_, rfl⟩
        rw [← hR] at ok HR H7
        clear hR
        obtain ⟨c0, c1, c2, c3, c4, c5, c6, c7⟩ := cells_St H7.out
        have cw := cell_AR wr _ _ _ _ H5.out k (by omega)
        have ck := cell_AR wr _ _ _ _ H6.out k (by show k < 64; exact hlt)
        have g1 : (0 : Int) ≤ (k : Int) := by omega
        have g2 : (k : Int) < 64 := by omega
        have le := ok.2.2.2.2.1
        have la := ok.1
        have rA := Sm.and_eq
        have rS : IntKind.u32.signed = false := rfl
        have rN := Sm.not_eq
        have rX := Sm.xor_eq
        have rP := Sm.add_eq
        clear ok hlt
        go_wp2
        go_quiet (first | (go_at_call_has 34 (Value.int IntKind.i64 6); exact Calls.quiet_of_same (turned_q _ 6 _ _ rfl le (by decide))) | (go_at_call_has 34 (Value.int IntKind.i64 11); exact Calls.quiet_of_same (turned_q _ 11 _ _ rfl le (by decide))) | (go_at_call_has 34 (Value.int IntKind.i64 25); exact Calls.quiet_of_same (turned_q _ 25 _ _ rfl le (by decide))))
        go_wp2_with fail
        generalize hq : World.drewN wr _ = wq
        rw [show wr.cell? = wq.cell? by rw [← hq]; rfl] at c0 c1 c2 c3 c4 c5 c6 c7
        have H5' : Hid (wq.heap[g5]? = some (.cells (AR ws) 51 (0, 0))) := by rw [← hq]; exact H5
        have H6' : Hid (wq.heap[g6]? = some (.cells (AR Sm.K) 51 (0, 0))) := by rw [← hq]; exact H6
        have H7' : Hid (wq.heap[g7]? = some (.cells (AR R.list) 46 (0, 0))) := by rw [← hq]; exact H7
        have G1' : Hid (wq.heap[w.heap.size]? = some (.cells (AR s.list) 46 (0, 0))) := by rw [← hq]; exact G1
        have G2' : Hid (wq.heap[w.heap.size + 1]? = some (.cells (AR Z8) 46 (0, 0))) := by rw [← hq]; exact G2
        have hbq : Below w.heap.size w wq := by rw [← hq]; exact below_drewN hbel _
        clear hq H5 H6 H7 G1 G2 hbel cw ck
        go_quiet (first | (go_at_call_has 34 (Value.int IntKind.i64 2); exact Calls.quiet_of_same (turned_q _ 2 _ _ rfl la (by decide))) | (go_at_call_has 34 (Value.int IntKind.i64 13); exact Calls.quiet_of_same (turned_q _ 13 _ _ rfl la (by decide))) | (go_at_call_has 34 (Value.int IntKind.i64 22); exact Calls.quiet_of_same (turned_q _ 22 _ _ rfl la (by decide))))
        go_wp2_with (refine wpList_store_row (by rfl) 46 _ _ (by rfl) g7 (AR (Sm.round R (Sm.nth Sm.K k) (Sm.nth ws k)).list) (by rfl) (by rfl) 46 _ H7'.out (by rw [AR_size, Sm.list_length]; kernel_rfl) (by rw [AR_size, AR_size, Sm.list_length, Sm.list_length]) (AR_one _) ?_)
        go_roundw
        case rel =>
          exact ⟨k + 1, by omega, by go_num, (setRow_other _ g7 g5 _ (Ne.symm n1)).trans H5'.out, (setRow_other _ g7 g6 _ (Ne.symm n2)).trans H6'.out, by rw [HR.out]; exact setRow_heap _ _ _ _ _ _ H7'.out,
            (setRow_other _ g7 w.heap.size _ (by omega)).trans G1'.out, (setRow_other _ g7 (w.heap.size + 1) _ (by omega)).trans G2'.out, below_setRow (below_drewN hbq _) (by omega) _⟩
        case measure => simp [intOf]; omega
      · obtain rfl : k = 64 := by omega
        obtain ⟨R, hR⟩ : ∃ R, R = Sm.rounds ws s 64 := ⟨_, rfl⟩
        rw [← hR] at H7
        have HR := Lib.hid hR
        clear hR H5 H6
        go_wp2
        go_loopw [13] (fun i wr => ∃ k : Nat, k ≤ 8 ∧ i = .int .i64 k ∧ Hid (wr.heap[w.heap.size]? = some (.cells (AR (Sm.mid s R k)) 46 (0, 0))) ∧ Hid (wr.heap[g7]? = some (.cells (AR R.list) 46 (0, 0))) ∧
            Hid (wr.heap[w.heap.size + 1]? = some (.cells (AR Z8) 46 (0, 0))) ∧ Below w.heap.size w wr) (fun i _ => 8 - (intOf i).toNat)
        case atStart => exact ⟨0, by omega, rfl, by rw [Sm.mid_zero]; exact G1, H7, G2, hbel⟩
        case round =>
          clear H7 G1 G2 hbel
          obtain ⟨k, hk, rfl, G1, H7, G2, hbel⟩ := hrel
          by_cases hlt : k < 8
          · have c1 := cell_AR wr _ _ _ _ G1.out k (by rw [Sm.mid_length s R k hk]; exact hlt)
            rw [Sm.mid_nth s R k hlt] at c1
            have c2 := cell_AR wr _ _ _ _ H7.out k (by rw [Sm.list_length]; exact hlt)
            have hf := frozen_of_row wr _ k _ _ G1.out
            have g1 : (0 : Int) ≤ (k : Int) := by omega
            have g2 : (k : Int) < 8 := by omega
            have rP := Sm.add_eq
            have G1' := Lib.hid (set_AR wr _ _ _ _ G1.out k (Sm.add (Sm.nth s.list k) (Sm.nth R.list k)))
            rw [Sm.mid_set s R k hlt] at G1'
            have H7' := Lib.hid ((setCell_other wr w.heap.size k g7 (.int .u32 ((Sm.add (Sm.nth s.list k) (Sm.nth R.list k) : Nat) : Int)) (by omega)).trans H7.out)
            have G2' := Lib.hid ((setCell_other wr w.heap.size k (w.heap.size + 1) (.int .u32 ((Sm.add (Sm.nth s.list k) (Sm.nth R.list k) : Nat) : Int)) (by omega)).trans G2.out)
            have hb' := hbel.setCell (Nat.le_refl w.heap.size) (.int .u32 ((Sm.add (Sm.nth s.list k) (Sm.nth R.list k) : Nat) : Int)) (p := ⟨w.heap.size, k, none⟩)
            clear hlt
            go_wp2
            go_region
            go_wp2
            go_roundw
            case rel => exact ⟨k + 1, by omega, by go_num, G1', H7', G2', below_drewN hb' 1⟩
            case measure => simp [intOf]; omega
          · obtain rfl : k = 8 := by omega
            rw [Sm.mid_end] at G1
            go_wp2_with (first | (refine wpList_load_row (by rfl) 46 _ (by rfl) w.heap.size (by rfl) 46 _ (0, 0) _ G1.out Tryd.underlying46 (by rfl) (by rw [AR_size, Sm.list_length]; kernel_rfl) ?_) | (refine wpList_store_row (by rfl) 46 _ _ (by rfl) (w.heap.size + 1) _ (by rfl) (by rfl) 46 _ G2.out (by rw [AR_size, Sm.list_length]; kernel_rfl) (by rw [AR_size, AR_size, Sm.list_length]; rfl) (AR_one _) ?_))
            refine bodyPost_ret (results_cell_row (by rfl) _ _ (w.heap.size + 1) 46 _ (0, 0) _ (by rfl) (setRow_heap _ _ _ _ _ _ G2.out) Tryd.underlying46 (by rfl) (by rw [AR_size, Sm.list_length]; kernel_rfl)) rfl ?_
            exact ⟨by rw [← HWS.out]; unfold Sm.mix; rw [← HR.out], below_setRow hbel (by omega) _⟩
end Go.Proofs.YtnlkmbbgcellfaaDoor
