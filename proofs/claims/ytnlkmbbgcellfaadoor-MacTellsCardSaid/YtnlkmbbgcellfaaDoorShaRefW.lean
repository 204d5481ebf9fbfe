/-
  The document's words of a block.
-/
import Derived.Test.YtnlkmbbgcellfaaDoorShaRefA
import Derived.Test.YtnlkmbbgcellfaaDoorShaPad
import Derived.Deep.QuietTactic
import Derived.BigQuiet
import Derived.Sort.AtCall
import Derived.Deep.RegionHeld3
import Derived.Deep.DrawnRows
import Derived.RegionTactic
import Derived.ChangeAlike
namespace Go.Proofs.YtnlkmbbgcellfaaDoor
open Go.RowKit

namespace Sm
/-- the first k bytes of word i, as a number -/
def bek (b : List UInt8) (i : Nat) : Nat → Nat
  | 0 => 0
  | k + 1 => bek b i k * 256 + byte b (4 * i + k)
theorem bek_four (b : List UInt8) (i : Nat) : bek b i 4 = be b i := by
  simp only [bek, be, Nat.add_zero]
  omega
theorem bek_lt (b : List UInt8) (i k : Nat) (hk : k ≤ 3) : bek b i k < 16777216 := by
  have h0 := byte_lt b (4 * i + 0)
  have h1 := byte_lt b (4 * i + 1)
  have h2 := byte_lt b (4 * i + 2)
  obtain rfl | rfl | rfl | rfl : k = 0 ∨ k = 1 ∨ k = 2 ∨ k = 3 := by omega
  all_goals simp only [bek]
  all_goals omega
theorem padded_set0 (l : List Nat) (h : l.length < 64) : (padded l).set l.length 0 = padded l := by
  rw [padded_set l 0 h]
  unfold padded
  rw [List.append_assoc, List.length_append]
  congr 1
  show 0 :: List.replicate (64 - (l.length + 1)) 0 = List.replicate (64 - l.length) 0
  rw [show 64 - l.length = (64 - (l.length + 1)) + 1 by omega, List.replicate_succ]
theorem nth_set (l : List Nat) (i x : Nat) (h : i < l.length) : nth (l.set i x) i = x := by simp [nth, h]
theorem be_lt (b : List UInt8) (i : Nat) : be b i < 4294967296 := by
  have h0 := byte_lt b (4 * i)
  have h1 := byte_lt b (4 * i + 1)
  have h2 := byte_lt b (4 * i + 2)
  have h3 := byte_lt b (4 * i + 3)
  unfold be
  omega
theorem nextW_lt (l : List Nat) : nextW l < 4294967296 := by
  unfold nextW
  exact add_lt _ _
theorem sched_all (l : List Nat) (h : ∀ x ∈ l, x < 4294967296) (n : Nat) : ∀ x ∈ sched l n, x < 4294967296 := by
  induction n with
  | zero => exact h
  | succ n ih =>
    intro x hx
    have hx' : x ∈ sched l n ++ [nextW (sched l n)] := hx
    rcases List.mem_append.1 hx' with h1 | h1
    · exact ih x h1
    · have h2 := List.mem_singleton.1 h1
      have h3 := nextW_lt (sched l n)
      rw [← h2] at h3
      exact h3
theorem nth_of_all (l : List Nat) (h : ∀ x ∈ l, x < 4294967296) (j : Nat) : nth l j < 4294967296 := by
  unfold nth
  rw [List.getD_eq_getElem?_getD]
  by_cases hj : j < l.length
  · rw [List.getElem?_eq_getElem hj, Option.getD_some]
    exact h _ (List.getElem_mem hj)
  · rw [List.getElem?_eq_none (by omega), Option.getD_none]
    omega
theorem first_all (b : List UInt8) (n : Nat) : ∀ x ∈ first b n, x < 4294967296 := fun x hx => by
  unfold first at hx
  obtain ⟨k, _, rfl⟩ := List.mem_map.1 hx
  exact be_lt b k
theorem sched_lt (b : List UInt8) (n : Nat) (j : Nat) : nth (sched (first b 16) n) j < 4294967296 := nth_of_all _ (sched_all _ (first_all b 16) n) j
end Sm
theorem idx_S (b : List UInt8) (j : Nat) (h : j < b.length) (w : World) : (Instr.index 9 (.string (S b)) (.int .i64 (j : Int))).run Tryd.prog w = .ok (.int .u8 (Sm.byte b j : Int)) w := by
  have hu : Tryd.prog.underlying 9 = some .string := by kernel_rfl
  have hs : j < (S b).size := by rw [S_size]; exact h
  have h1 : (S b)[j]? = some b[j] := by
    rw [getElem?_pos (S b) j hs]
    rfl
  have h0 : (0 : Int) ≤ (j : Int) := by omega
  simp only [Instr.index, asIntOf, Sem.run_bind, Sem.run_pure, Result.andThen_ok, run_underlying hu, h0, if_true, Int.toNat_natCast, h1, Sm.byte, List.getD_eq_getElem?_getD, List.getElem?_eq_getElem h, Option.getD_some]
  rfl
theorem two (w : World) (c1 c2 : Array Value) (t1 t2 : TypeId) :
    ((w.alloc (.cells c1 t1)).alloc (.cells c2 t2)).heap[w.heap.size]? = some (.cells c1 t1 (0, 0)) ∧
    ((w.alloc (.cells c1 t1)).alloc (.cells c2 t2)).heap[w.heap.size + 1]? = some (.cells c2 t2 (0, 0)) ∧
    Below w.heap.size w ((w.alloc (.cells c1 t1)).alloc (.cells c2 t2)) := by
  have s1 : (w.alloc (.cells c1 t1)).heap.size = w.heap.size + 1 := by simp
  refine ⟨?_, ?_, ?_⟩
  · rw [Below.heap_alloc _ _ _ (by rw [s1]; omega)]; exact heap_alloc_new w _
  · rw [← s1]; exact heap_alloc_new _ _
  · exact ((Below.refl _ _).alloc (Nat.le_refl _) _).alloc (by rw [s1]; omega) _

attribute [local go_sem ↓] Go.wp_at_zero Go.wp_at_succ
set_option maxRecDepth 100000 in
set_option maxHeartbeats 1600000 in
theorem words_any (b : List UInt8) (w : World) (hb : b.length = 64) :
    Calls Tryd.prog 32 #[.string (S b)] w fun e w' => e = .returned (.agg (AR (Sm.words b))) ∧ Below w.heap.size w w' := by
  have hz : ∀ w, (zeroValue 51).run Tryd.prog w = .ok (.agg (AR Sm.Z64)) w := fun _ => by kernel_rfl
  have F := two w (AR Sm.Z64) (AR Sm.Z64) 51 51
  go_enter Tryd.func32, Tryd.ntmps32
  go_wp2
  obtain ⟨W, hW⟩ : ∃ W, W = ((w.alloc (.cells (AR Sm.Z64) 51)).alloc (.cells (AR Sm.Z64) 51)) := ⟨_, rfl⟩
  rw [← hW] at F
  rw [← hW]
  clear hW hz
  obtain ⟨F1, F2, FB⟩ := F
  have HF1 := Lib.hid F1
  have HF2 := Lib.hid F2
  clear F1 F2
  have I64 := fun j hj w => idx_S b j (hb ▸ hj) w
  have HI := Lib.hid I64
  clear I64
  go_loopw [4, 5, 6, 7] (fun i _ _ _ wr => ∃ k : Nat, k ≤ 64 ∧ i = .int .i64 k ∧ Hid (wr.heap[w.heap.size]? = some (.cells (AR Sm.Z64) 51 (0, 0))) ∧
      Hid (wr.heap[w.heap.size + 1]? = some (.cells (AR (Sm.padded (if k ≤ 16 then Sm.first b k else Sm.sched (Sm.first b 16) (k - 16)))) 51 (0, 0))) ∧ Below w.heap.size w wr) (fun i _ _ _ _ => 64 - (intOf i).toNat)
  case atStart => exact ⟨0, by omega, rfl, HF1, HF2, FB⟩
  case round =>
    clear HF1 HF2 FB
    obtain ⟨i, hk, rfl, H1, H2, hbel⟩ := hrel
    by_cases hi : i < 16
    · rw [if_pos (by omega)] at H2
      have hp := Sm.padded_length (Sm.first b i) (by rw [Sm.first_length]; omega)
      go_wp2
      go_loopw [5] (fun kv wz => ∃ k : Nat, k ≤ 4 ∧ kv = .int .i64 k ∧ Hid (wz.heap[w.heap.size]? = some (.cells (AR Sm.Z64) 51 (0, 0))) ∧
          Hid (wz.heap[w.heap.size + 1]? = some (.cells (AR ((Sm.padded (Sm.first b i)).set i (Sm.bek b i k))) 51 (0, 0))) ∧ Below w.heap.size w wz) (fun kv _ => 4 - (intOf kv).toNat)
      case atStart =>
        refine ⟨0, by omega, rfl, H1, ?_, hbel⟩
        have := Sm.padded_set0 (Sm.first b i) (by rw [Sm.first_length]; omega)
        rw [Sm.first_length] at this
        have e : Sm.bek b i 0 = 0 := rfl
        rw [e, this]; exact H2
      case round =>
        clear H1 H2 hbel
        obtain ⟨k, hk4, rfl, H1, H2, hbel⟩ := hrel
        by_cases hlt : k < 4
        · obtain ⟨j, hj⟩ : ∃ j, j = 4 * i + k := ⟨_, rfl⟩
          have e1 : 4 * (i : Int) + (k : Int) = (j : Int) := by omega
          have hidx := HI.out j (by omega)
          have hc := cell_AR wr _ _ _ _ H2.out i (by rw [List.length_set, hp]; omega)
          rw [Sm.nth_set _ _ _ (by omega)] at hc
          have hf := frozen_of_row wr _ i _ _ H2.out
          have hx := Sm.bek_lt b i k (by omega)
          have hy := Sm.byte_lt b j
          have HB : Hid (Sm.bek b i (k + 1) = Sm.bek b i k * 256 + Sm.byte b j) := by rw [hj]; rfl
          obtain ⟨x, hxx⟩ : ∃ x, x = Sm.bek b i k := ⟨_, rfl⟩
          obtain ⟨y, hyy⟩ : ∃ y, y = Sm.byte b j := ⟨_, rfl⟩
          rw [← hxx] at hc hx HB
          rw [← hyy] at hidx hy HB
          have m1 : IntKind.u32.wrap ((x : Int) * 256) = (x : Int) * 256 := Sm.wrap_in _ (by omega)
          have m2 : IntKind.u32.wrap (y : Int) = (y : Int) := Sm.wrap_in _ (by omega)
          obtain ⟨z, hz⟩ : ∃ z, z = x * 256 + y := ⟨_, rfl⟩
          have m3 : (x : Int) * 256 + (y : Int) = (z : Int) := by omega
          have m4 : IntKind.u32.wrap (z : Int) = (z : Int) := Sm.wrap_in _ (by omega)
          have g1 : (0 : Int) ≤ (i : Int) := by omega
          have g2 : (i : Int) < 64 := by omega
          rw [← hz] at HB
          clear hj hxx hyy hz
          go_wp2
          go_region
          all_goals go_wp2
          have H1' := Lib.hid ((setCell_other wr (w.heap.size + 1) i w.heap.size (.int .u32 (z : Int)) (by omega)).trans H1.out)
          have H2' := set_AR wr _ _ _ _ H2.out i z
          rw [List.set_set] at H2'
          have HH : Hid ((wr.setCell ⟨w.heap.size + 1, i, none⟩ (.int .u32 (z : Int))).heap[w.heap.size + 1]? = some (.cells (AR ((Sm.padded (Sm.first b i)).set i (Sm.bek b i (k + 1)))) 51 (0, 0))) := by rw [HB.out]; exact H2'
          have hb' : Below w.heap.size w (wr.setCell ⟨w.heap.size + 1, i, none⟩ (.int .u32 (z : Int))) := hbel.setCell (by show w.heap.size ≤ w.heap.size + 1; omega) _
          clear H2'
          go_roundw
          case rel => exact ⟨k + 1, by omega, by go_num, H1', HH, below_drewN hb' 1⟩
          case measure => simp [intOf]; omega
        · obtain rfl : k = 4 := by omega
          have H2' := H2.out
          have hs := Sm.padded_set (Sm.first b i) (Sm.bek b i 4) (by rw [Sm.first_length]; omega)
          rw [Sm.first_length, Sm.bek_four, ← Sm.first_succ] at hs
          rw [Sm.bek_four, hs] at H2'
          have H3 : Hid (wr.heap[w.heap.size + 1]? = some (.cells (AR (Sm.padded (if i + 1 ≤ 16 then Sm.first b (i + 1) else Sm.sched (Sm.first b 16) (i + 1 - 16)))) 51 (0, 0))) := by rw [if_pos (by omega)]; exact H2'
          clear H2' hs
          go_wp2
          go_roundw
          case rel => exact ⟨i + 1, by omega, by go_num, H1, H3, hbel⟩
          case measure => simp [intOf]; omega
    · by_cases hlt : i < 64
      · have H2' := H2.out
        have hL0 : (if i ≤ 16 then Sm.first b i else Sm.sched (Sm.first b 16) (i - 16)) = Sm.sched (Sm.first b 16) (i - 16) := by
          by_cases h16 : i = 16
          · subst h16; rfl
          · rw [if_neg (by omega)]
        rw [hL0] at H2'
        obtain ⟨L, hL⟩ : ∃ L, L = Sm.sched (Sm.first b 16) (i - 16) := ⟨_, rfl⟩
        have hl : L.length = i := by rw [hL, Sm.sched_length, Sm.first_length]; omega
        have hbd : ∀ j, Sm.nth L j < 4294967296 := by rw [hL]; exact Sm.sched_lt b _
        have HS : Hid ((if i + 1 ≤ 16 then Sm.first b (i + 1) else Sm.sched (Sm.first b 16) (i + 1 - 16)) = L ++ [Sm.nextW L]) := by rw [if_neg (by omega), hL, show i + 1 - 16 = (i - 16) + 1 by omega]; rfl
        rw [← hL] at H2'
        clear hL hL0 H2
        have hp := Sm.padded_length L (by omega)
        obtain ⟨a15, h15⟩ : ∃ a : Nat, i = a + 15 := ⟨i - 15, by omega⟩
        obtain ⟨a2, h2⟩ : ∃ a : Nat, i = a + 2 := ⟨i - 2, by omega⟩
        obtain ⟨a16, h16⟩ : ∃ a : Nat, i = a + 16 := ⟨i - 16, by omega⟩
        obtain ⟨a7, h7⟩ : ∃ a : Nat, i = a + 7 := ⟨i - 7, by omega⟩
        have c15 := cell_AR wr _ _ _ _ H2' a15 (by omega)
        have c2 := cell_AR wr _ _ _ _ H2' a2 (by omega)
        have c16 := cell_AR wr _ _ _ _ H2' a16 (by omega)
        have c7 := cell_AR wr _ _ _ _ H2' a7 (by omega)
        rw [Sm.padded_nth _ _ (by omega)] at c15 c2 c16 c7
        have hc := cell_AR wr _ _ _ _ H2' i (by omega)
        have hf := frozen_of_row wr _ i _ _ H2'
        have l15 := hbd a15
        have l2 := hbd a2
        have HN : Hid (Sm.nextW L = Sm.add (Sm.add (Sm.add (Sm.nth L a16) (Sm.small0 (Sm.nth L a15))) (Sm.nth L a7)) (Sm.small1 (Sm.nth L a2))) := by
          unfold Sm.nextW
          rw [hl, show i - 16 = a16 by omega, show i - 15 = a15 by omega, show i - 7 = a7 by omega, show i - 2 = a2 by omega]
          rfl
        have HL := Lib.hid hl
        have HX := Lib.hid H2'
        have g1 : (0 : Int) ≤ (i : Int) := by omega
        have g2 : (i : Int) < 64 := by omega
        have g3 : (0 : Int) ≤ (a15 : Int) := by omega
        have g4 : (a15 : Int) < 64 := by omega
        have e15 : (i : Int) - 15 = (a15 : Int) := by omega
        have f15 : IntKind.i64.wrap (a15 : Int) = (a15 : Int) := IntWalk.i64_in _ (by omega)
        have g5 : (0 : Int) ≤ (a2 : Int) := by omega
        have g6 : (a2 : Int) < 64 := by omega
        have e2 : (i : Int) - 2 = (a2 : Int) := by omega
        have f2 : IntKind.i64.wrap (a2 : Int) = (a2 : Int) := IntWalk.i64_in _ (by omega)
        have g7 : (0 : Int) ≤ (a16 : Int) := by omega
        have g8 : (a16 : Int) < 64 := by omega
        have e16 : (i : Int) - 16 = (a16 : Int) := by omega
        have f16 : IntKind.i64.wrap (a16 : Int) = (a16 : Int) := IntWalk.i64_in _ (by omega)
        have g9 : (0 : Int) ≤ (a7 : Int) := by omega
        have g10 : (a7 : Int) < 64 := by omega
        have e7 : (i : Int) - 7 = (a7 : Int) := by omega
        have f7 : IntKind.i64.wrap (a7 : Int) = (a7 : Int) := IntWalk.i64_in _ (by omega)
        have rX := Sm.xor_eq
        have rP := Sm.add_eq
        have k16 : i ≠ a16 := by omega
        have k7 : i ≠ a7 := by omega
        have HB := Lib.hid hbel
        clear hbel h15 h2 h16 h7 hbd hl hp H2' hk hi hlt
        go_wp2
        go_quiet (fail)
        go_wp2_with fail
        go_region_held3 (fun w' => w'.cell? ⟨w.heap.size + 1, a16, none⟩ = some (.int .u32 (Sm.nth L a16 : Int)) ∧ w'.cell? ⟨w.heap.size + 1, a7, none⟩ = some (.int .u32 (Sm.nth L a7 : Int))) (first | exact ⟨kept_off c16 k16, kept_off c7 k7⟩ | go_keep) (first | (go_at_call_has 34 (Value.int IntKind.i64 7); refine (turned_q _ 7 _ _ rfl l15 (by decide)).mono ?_; rintro _ _ ⟨rfl, rfl⟩) | (go_at_call_has 34 (Value.int IntKind.i64 18); refine (turned_q _ 18 _ _ rfl l15 (by decide)).mono ?_; rintro _ _ ⟨rfl, rfl⟩) | (go_at_call_has 34 (Value.int IntKind.i64 17); refine (turned_q _ 17 _ _ rfl l2 (by decide)).mono ?_; rintro _ _ ⟨rfl, rfl⟩) | (go_at_call_has 34 (Value.int IntKind.i64 19); refine (turned_q _ 19 _ _ rfl l2 (by decide)).mono ?_; rintro _ _ ⟨rfl, rfl⟩) | (go_at_call_has 36 (Value.int IntKind.i64 3); refine (low_q _ 3 _ _ rfl l15 (by decide)).mono ?_; rintro _ _ ⟨rfl, rfl⟩) | (go_at_call_has 36 (Value.int IntKind.i64 10); refine (low_q _ 10 _ _ rfl l2 (by decide)).mono ?_; rintro _ _ ⟨rfl, rfl⟩))
        have H1' : Hid ((wr.setCell ⟨w.heap.size + 1, i, none⟩ (.int .u32 (Sm.nextW L : Int))).heap[w.heap.size]? = some (.cells (AR Sm.Z64) 51 (0, 0))) := (setCell_other wr _ i _ _ (by omega)).trans H1.out
        have H3' := set_AR wr _ _ _ _ HX.out i (Sm.nextW L)
        have H4 := Sm.padded_set L (Sm.nextW L) (by rw [HL.out]; omega)
        rw [HL.out] at H4
        rw [H4, ← HS.out] at H3'
        have HH := Lib.hid H3'
        clear H3' H4
        rw [HN.out] at H1' HH
        go_wp2
        go_roundw
        case rel =>
          first
            | exact ⟨i + 1, by omega, by go_num, H1', HH, (below_drewN HB.out _).setCell (p := ⟨w.heap.size + 1, i, none⟩) (by show w.heap.size ≤ w.heap.size + 1; omega) _⟩
            | (repeat apply Exists.intro
               refine ⟨?_, rfl⟩
               exact ⟨i + 1, by omega, by go_num, H1', HH, (below_drewN HB.out _).setCell (p := ⟨w.heap.size + 1, i, none⟩) (by show w.heap.size ≤ w.heap.size + 1; omega) _⟩)
        case measure => simp [intOf]; omega
      · obtain rfl : i = 64 := by omega
        have he : Sm.padded (if 64 ≤ 16 then Sm.first b 64 else Sm.sched (Sm.first b 16) (64 - 16)) = Sm.words b := by rw [if_neg (by omega)]; exact Sm.padded_full _ (Sm.words_length b)
        rw [he] at H2
        clear he
        have HW := Lib.hid (Sm.words_length b)
        go_wp2_with (first | (refine wpList_load_row (by rfl) 51 _ (by rfl) (w.heap.size + 1) (by rfl) 51 _ (0, 0) _ H2.out Tryd.underlying51 (by rfl) (by rw [AR_size, HW.out]; kernel_rfl) ?_) | (refine wpList_store_row (by rfl) 51 _ _ (by rfl) w.heap.size _ (by rfl) (by rfl) 51 _ H1.out (by rw [AR_size, HW.out]; kernel_rfl) (by rw [AR_size, AR_size, HW.out]; rfl) (AR_one _) ?_))
        refine bodyPost_ret (results_cell_row (by rfl) _ _ w.heap.size 51 _ (0, 0) _ (by rfl) (setRow_heap _ _ _ _ _ _ H1.out) Tryd.underlying51 (by rfl) (by rw [AR_size, HW.out]; kernel_rfl)) rfl ?_
        exact ⟨rfl, below_setRow hbel (Nat.le_refl _) _⟩
end Go.Proofs.YtnlkmbbgcellfaaDoor
