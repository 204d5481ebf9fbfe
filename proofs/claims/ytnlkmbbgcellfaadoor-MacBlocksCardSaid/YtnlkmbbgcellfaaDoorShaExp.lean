/-
  What sha.expand comes to: the words of a block.
-/
import Derived.Test.YtnlkmbbgcellfaaDoorShaMix
import Derived.Deep.RegionHeld3
import Derived.Deep.DrawnRows
namespace Go.Proofs.YtnlkmbbgcellfaaDoor
open Go.RowKit

theorem len64b : Tryd.prog.arrayLen 34 = 64 := by kernel_rfl
theorem elem64b : Tryd.prog.elem 34 = 5 := by kernel_rfl
theorem und64b : Tryd.prog.underlying 34 = some (.array (Tryd.prog.arrayLen 34) (Tryd.prog.elem 34)) := by kernel_rfl
theorem sizeb (w : World) : (sizeOf 5).run Tryd.prog w = .ok 1 w := by kernel_rfl
/-- x[k:] of an array of 64 bytes -/
theorem cut64 (W : World) (B o k j : Nat) (h : k + j = 64) (h1 : 1 ≤ j) :
    (Instr.sliceAt 34 (.pointer (some ⟨B, o, none⟩)) (some (.int .i64 (k : Int))) none none).run Tryd.prog W = .ok (.slice (some ⟨B, o + k, none⟩) j j) W := by
  rw [run_sliceAt_array_l W 34 ⟨B, o, none⟩ und64b .i64 (k : Int) (by omega) (by rw [len64b]; omega), elem64b, sizeb, len64b]
  simp only [Result.andThen, slicedAt, Int.toNat_natCast]
  rw [if_neg (by omega)]
  have ha : (⟨B, o, none⟩ : Addr).add (k * 1) = ⟨B, o + k, none⟩ := by unfold Addr.add; split <;> simp_all
  rw [ha, show 64 - k = j by omega]

theorem kept_set {w : World} {b b' o k : Nat} {v x : Value} (h : w.cell? ⟨b, o, none⟩ = some x) (hne : b' ≠ b) : (w.setCell ⟨b', k, none⟩ v).drew.cell? ⟨b, o, none⟩ = some x := by
  have : (w.setCell ⟨b', k, none⟩ v).cell? ⟨b, o, none⟩ = some x := by
    rw [World.cell?_setCell_other]
    · exact h
    · intro e; injection e with e; exact hne e
  exact this

theorem kept_off {w : World} {b o k n : Nat} {v x : Value} (h : w.cell? ⟨b, o, none⟩ = some x) (hne : k ≠ o) : ((w.drewN n).setCell ⟨b, k, none⟩ v).cell? ⟨b, o, none⟩ = some x := by
  have : (w.setCell ⟨b, k, none⟩ v).cell? ⟨b, o, none⟩ = some x := by
    rw [World.cell?_setCell_other]
    · exact h
    · intro e; injection e with e1 e2; exact hne e2
  exact this

set_option maxRecDepth 100000 in
set_option maxHeartbeats 800000 in
theorem expand_any (b : List UInt8) (w : World) (hb : b.length = 64) :
    Calls Tryd.prog 29 #[.agg (AB b)] w fun e w' => e = .returned (.agg (AR (Sm.words b))) ∧ Below w.heap.size w w' := by
  have F := three w (AB b) (AR Sm.Z64) (AR Sm.Z64) 34 51 51
  go_enter Tryd.func29, Tryd.ntmps29
  go_wp2
  change Code.wp _ _ _ _ (((w.alloc (.cells (AB b) 34)).alloc (.cells (AR Sm.Z64) 51)).alloc (.cells (AR Sm.Z64) 51))
  obtain ⟨W, hW⟩ : ∃ W, W = (((w.alloc (.cells (AB b) 34)).alloc (.cells (AR Sm.Z64) 51)).alloc (.cells (AR Sm.Z64) 51)) := ⟨_, rfl⟩
  rw [← hW] at F
  rw [← hW]
  clear hW
  obtain ⟨F1, F2, F3, FB⟩ := F
  have HF1 := Lib.hid F1
  have HF2 := Lib.hid F2
  have HF3 := Lib.hid F3
  clear F1 F2 F3
  go_loopw [4, 5, 11] (fun _ _ i wr => ∃ k : Nat, k ≤ 16 ∧ i = .int .i64 k ∧ Hid (wr.heap[w.heap.size]? = some (.cells (AB b) 34 (0, 0))) ∧
      Hid (wr.heap[w.heap.size + 1]? = some (.cells (AR Sm.Z64) 51 (0, 0))) ∧ Hid (wr.heap[w.heap.size + 1 + 1]? = some (.cells (AR (Sm.padded (Sm.first b k))) 51 (0, 0))) ∧ Below w.heap.size w wr) (fun _ _ i _ => 16 - (intOf i).toNat)
  case atStart => exact ⟨0, by omega, rfl, HF1, HF2, HF3, FB⟩
  case round =>
    clear HF1 HF2 HF3 FB
    obtain ⟨k, hk, rfl, H1, H2, H3, hbel⟩ := hrel
    by_cases hlt : k < 16
    · obtain ⟨j, hj⟩ : ∃ j, 4 * k + j = 64 := ⟨64 - 4 * k, by omega⟩
      have hcut := cut64 wr w.heap.size 0 (4 * k) j hj (by omega)
      rw [Nat.zero_add, show ((4 * k : Nat) : Int) = 4 * (k : Int) by omega] at hcut
      have b0 := cell_AB wr _ _ _ _ H1.out (4 * k) (by omega)
      have b1 := cell_AB wr _ _ _ _ H1.out (4 * k + 1) (by omega)
      have b2 := cell_AB wr _ _ _ _ H1.out (4 * k + 2) (by omega)
      have b3 := cell_AB wr _ _ _ _ H1.out (4 * k + 3) (by omega)
      have g1 : (0 : Int) ≤ (k : Int) := by omega
      have g2 : (k : Int) < 64 := by omega
      have g3 : (3 : Int) < (j : Int) := by omega
      have g4 : (2 : Int) < (j : Int) := by omega
      have g5 : (1 : Int) < (j : Int) := by omega
      have g6 : (0 : Int) < (j : Int) := by omega
      have hc := cell_AR wr _ _ _ _ H3.out k (by rw [Sm.padded_length _ (by rw [Sm.first_length]; omega)]; omega)
      have hf := frozen_of_row wr _ k _ _ H3.out
      have w0 : IntKind.u32.wrap (Sm.byte b (4 * k) : Int) = (Sm.byte b (4 * k) : Int) := Sm.wrap_in _ (by have := Sm.byte_lt b (4 * k); omega)
      have y0 : IntKind.u32.wrap ((Sm.byte b (4 * k) : Int) * 16777216) = (Sm.byte b (4 * k) : Int) * 16777216 := Sm.wrap_mul _ _ (by have := Sm.byte_lt b (4 * k); omega)
      have w1 : IntKind.u32.wrap (Sm.byte b (4 * k + 1) : Int) = (Sm.byte b (4 * k + 1) : Int) := Sm.wrap_in _ (by have := Sm.byte_lt b (4 * k + 1); omega)
      have y1 : IntKind.u32.wrap ((Sm.byte b (4 * k + 1) : Int) * 65536) = (Sm.byte b (4 * k + 1) : Int) * 65536 := Sm.wrap_mul _ _ (by have := Sm.byte_lt b (4 * k + 1); omega)
      have w2 : IntKind.u32.wrap (Sm.byte b (4 * k + 2) : Int) = (Sm.byte b (4 * k + 2) : Int) := Sm.wrap_in _ (by have := Sm.byte_lt b (4 * k + 2); omega)
      have y2 : IntKind.u32.wrap ((Sm.byte b (4 * k + 2) : Int) * 256) = (Sm.byte b (4 * k + 2) : Int) * 256 := Sm.wrap_mul _ _ (by have := Sm.byte_lt b (4 * k + 2); omega)
      have w3 : IntKind.u32.wrap (Sm.byte b (4 * k + 3) : Int) = (Sm.byte b (4 * k + 3) : Int) := Sm.wrap_in _ (by have := Sm.byte_lt b (4 * k + 3); omega)
      have hV := Sm.be_eq b k
      have g7 : 0 < j := by omega
      have HB := Lib.hid hbel
      clear hbel
      go_wp2
      go_region_held3 (fun w' => w'.cell? ⟨w.heap.size, 4 * k, none⟩ = some (.int .u8 ((Sm.byte b (4 * k) : Nat) : Int)) ∧ w'.cell? ⟨w.heap.size, 4 * k + 1, none⟩ = some (.int .u8 ((Sm.byte b (4 * k + 1) : Nat) : Int)) ∧ w'.cell? ⟨w.heap.size, 4 * k + 2, none⟩ = some (.int .u8 ((Sm.byte b (4 * k + 2) : Nat) : Int)) ∧ w'.cell? ⟨w.heap.size, 4 * k + 3, none⟩ = some (.int .u8 ((Sm.byte b (4 * k + 3) : Nat) : Int))) (first | exact ⟨kept_set b0 (by omega), kept_set b1 (by omega), kept_set b2 (by omega), kept_set b3 (by omega)⟩ | go_keep) (fail)
      have H1' : Hid ((wr.setCell ⟨w.heap.size + 1 + 1, k, none⟩ (.int .u32 ((Sm.be b k : Nat) : Int))).heap[w.heap.size]? = some (.cells (AB b) 34 (0, 0))) := (setCell_other wr _ k _ _ (by omega)).trans H1.out
      have H2' : Hid ((wr.setCell ⟨w.heap.size + 1 + 1, k, none⟩ (.int .u32 ((Sm.be b k : Nat) : Int))).heap[w.heap.size + 1]? = some (.cells (AR Sm.Z64) 51 (0, 0))) := (setCell_other wr _ k _ _ (by omega)).trans H2.out
      have H3' := set_AR wr _ _ _ _ H3.out k (Sm.be b k)
      have H4 := Sm.padded_set (Sm.first b k) (Sm.be b k) (by rw [Sm.first_length]; omega)
      rw [Sm.first_length] at H4
      rw [H4, ← Sm.first_succ] at H3'
      have HH := Lib.hid H3'
      clear H3' H4
      have HB' : Hid (Below w.heap.size w (wr.setCell ⟨w.heap.size + 1 + 1, k, none⟩ (.int .u32 ((Sm.be b k : Nat) : Int)))) := HB.out.setCell (by show w.heap.size ≤ w.heap.size + 1 + 1; omega) _
      go_wp2
      go_roundw
      case rel => exact ⟨k + 1, by omega, by go_num, H1', H2', HH, below_drewN HB'.out 1⟩
      case measure => simp [intOf]; omega
    · obtain rfl : k = 16 := by omega
      go_wp2
      go_loopw [6, 7, 8, 9, 10] (fun i _ _ _ _ wr => ∃ k : Nat, 16 ≤ k ∧ k ≤ 64 ∧ i = .int .i64 k ∧
          Hid (wr.heap[w.heap.size + 1]? = some (.cells (AR Sm.Z64) 51 (0, 0))) ∧ Hid (wr.heap[w.heap.size + 1 + 1]? = some (.cells (AR (Sm.padded (Sm.sched (Sm.first b 16) (k - 16)))) 51 (0, 0))) ∧ Below w.heap.size w wr) (fun i _ _ _ _ _ => 64 - (intOf i).toNat)
      case atStart => exact ⟨16, by omega, by omega, rfl, H2, H3, hbel⟩
      case round =>
        clear H1 H2 H3 hbel hk hlt
        obtain ⟨k, hk0, hk, rfl, H2, H3, hbel⟩ := hrel
        by_cases hlt : k < 64
        · obtain ⟨L, hL⟩ : ∃ L, L = Sm.sched (Sm.first b 16) (k - 16) := ⟨_, rfl⟩
          have hl : L.length = k := by rw [hL, Sm.sched_length, Sm.first_length]; omega
          have HS : Hid (Sm.sched (Sm.first b 16) (k + 1 - 16) = L ++ [Sm.nextW L]) := by rw [hL, show k + 1 - 16 = (k - 16) + 1 by omega]; rfl
          rw [← hL] at H3
          clear hL
          have hp := Sm.padded_length L (by omega)
          obtain ⟨a15, h15⟩ : ∃ a : Nat, k = a + 15 := ⟨k - 15, by omega⟩
          obtain ⟨a2, h2⟩ : ∃ a : Nat, k = a + 2 := ⟨k - 2, by omega⟩
          obtain ⟨a16, h16⟩ : ∃ a : Nat, k = a + 16 := ⟨k - 16, by omega⟩
          obtain ⟨a7, h7⟩ : ∃ a : Nat, k = a + 7 := ⟨k - 7, by omega⟩
          have c15 := cell_AR wr _ _ _ _ H3.out a15 (by omega)
          have c2 := cell_AR wr _ _ _ _ H3.out a2 (by omega)
          have c16 := cell_AR wr _ _ _ _ H3.out a16 (by omega)
          have c7 := cell_AR wr _ _ _ _ H3.out a7 (by omega)
          rw [Sm.padded_nth _ _ (by omega)] at c15 c2 c16 c7
          have hc := cell_AR wr _ _ _ _ H3.out k (by omega)
          have hf := frozen_of_row wr _ k _ _ H3.out
          have HN : Hid (Sm.nextW L = Sm.add (Sm.add (Sm.add (Sm.nth L a16) (Sm.small0 (Sm.nth L a15))) (Sm.nth L a7)) (Sm.small1 (Sm.nth L a2))) := by
            unfold Sm.nextW
            rw [hl, show k - 16 = a16 by omega, show k - 15 = a15 by omega, show k - 7 = a7 by omega, show k - 2 = a2 by omega]
            rfl
          have HL := Lib.hid hl
          clear hl hp
          have g1 : (0 : Int) ≤ (k : Int) := by omega
          have g2 : (k : Int) < 64 := by omega
          have g3 : (0 : Int) ≤ (a15 : Int) := by omega
          have g4 : (a15 : Int) < 64 := by omega
          have e15 : (k : Int) - 15 = (a15 : Int) := by omega
          have f15 : IntKind.i64.wrap (a15 : Int) = (a15 : Int) := IntWalk.i64_in _ (by omega)
          have g5 : (0 : Int) ≤ (a2 : Int) := by omega
          have g6 : (a2 : Int) < 64 := by omega
          have e2 : (k : Int) - 2 = (a2 : Int) := by omega
          have f2 : IntKind.i64.wrap (a2 : Int) = (a2 : Int) := IntWalk.i64_in _ (by omega)
          have g7 : (0 : Int) ≤ (a16 : Int) := by omega
          have g8 : (a16 : Int) < 64 := by omega
          have e16 : (k : Int) - 16 = (a16 : Int) := by omega
          have f16 : IntKind.i64.wrap (a16 : Int) = (a16 : Int) := IntWalk.i64_in _ (by omega)
          have g9 : (0 : Int) ≤ (a7 : Int) := by omega
          have g10 : (a7 : Int) < 64 := by omega
          have e7 : (k : Int) - 7 = (a7 : Int) := by omega
          have f7 : IntKind.i64.wrap (a7 : Int) = (a7 : Int) := IntWalk.i64_in _ (by omega)
          have rX := Sm.xor_eq
          have rP := Sm.add_eq
          have r3 : ∀ x : Nat, (x : Int) / 8 = ((Sm.shr x 3 : Nat) : Int) := fun x => by unfold Sm.shr; omega
          have r10 : ∀ x : Nat, (x : Int) / 1024 = ((Sm.shr x 10 : Nat) : Int) := fun x => by unfold Sm.shr; omega
          have HB := Lib.hid hbel
          clear hbel h15 h2 h16 h7
          go_wp2
          go_quiet (fail)
          go_wp2_with fail
          refine (turn_q _ 7 _ _ rfl (by decide) (by decide)).mono ?_; rintro _ _ ⟨rfl, rfl⟩
          go_wp2_with fail
          refine (turn_q _ 18 _ _ rfl (by decide) (by decide)).mono ?_; rintro _ _ ⟨rfl, rfl⟩
          go_wp2_with fail
          refine (turn_q _ 17 _ _ rfl (by decide) (by decide)).mono ?_; rintro _ _ ⟨rfl, rfl⟩
          go_wp2_with fail
          refine (turn_q _ 19 _ _ rfl (by decide) (by decide)).mono ?_; rintro _ _ ⟨rfl, rfl⟩
          go_wp2_with fail
          have k16 : k ≠ a16 := by omega
          have k7 : k ≠ a7 := by omega
          go_region_held3 (fun w' => w'.cell? ⟨w.heap.size + 1 + 1, a16, none⟩ = some (.int .u32 (Sm.nth L a16 : Int)) ∧ w'.cell? ⟨w.heap.size + 1 + 1, a7, none⟩ = some (.int .u32 (Sm.nth L a7 : Int))) (first | exact ⟨kept_off c16 k16, kept_off c7 k7⟩ | go_keep) (fail)
          have H2' : Hid ((wr.setCell ⟨w.heap.size + 1 + 1, k, none⟩ (.int .u32 ((Sm.nextW L : Nat) : Int))).heap[w.heap.size + 1]? = some (.cells (AR Sm.Z64) 51 (0, 0))) := (setCell_other wr _ k _ _ (by omega)).trans H2.out
          have H3' := set_AR wr _ _ _ _ H3.out k (Sm.nextW L)
          have H4 := Sm.padded_set L (Sm.nextW L) (by rw [HL.out]; exact hlt)
          rw [HL.out] at H4
          rw [H4, ← HS.out] at H3'
          have HH := Lib.hid H3'
          clear H3' H4
          rw [HN.out] at H2' HH
          go_wp2
          go_roundw
          case rel =>
            repeat apply Exists.intro
            refine ⟨?_, rfl⟩
            exact ⟨k + 1, by omega, by omega, by go_num, H2', HH, (below_drewN HB.out _).setCell (p := ⟨w.heap.size + 1 + 1, k, none⟩) (by show w.heap.size ≤ w.heap.size + 1 + 1; omega) _⟩
          case measure => simp [intOf]; omega
        · obtain rfl : k = 64 := by omega
          have he : Sm.padded (Sm.sched (Sm.first b 16) (64 - 16)) = Sm.words b := Sm.padded_full _ (Sm.words_length b)
          rw [he] at H3
          clear he
          have hw := Sm.words_length b
          have HW := Lib.hid hw
          clear hw
          go_wp2_with (first | (refine wpList_load_row (by rfl) 51 _ (by rfl) (w.heap.size + 1 + 1) (by rfl) 51 _ (0, 0) _ H3.out Tryd.underlying51 (by rfl) (by rw [AR_size, HW.out]; kernel_rfl) ?_) | (refine wpList_store_row (by rfl) 51 _ _ (by rfl) (w.heap.size + 1) _ (by rfl) (by rfl) 51 _ H2.out (by rw [AR_size, HW.out]; kernel_rfl) (by rw [AR_size, AR_size, HW.out]; rfl) (AR_one _) ?_))
          refine bodyPost_ret (results_cell_row (by rfl) _ _ (w.heap.size + 1) 51 _ (0, 0) _ (by rfl) (setRow_heap _ _ _ _ _ _ H2.out) Tryd.underlying51 (by rfl) (by rw [AR_size, HW.out]; kernel_rfl)) rfl ?_
          exact ⟨rfl, below_setRow hbel (by omega) _⟩
end Go.Proofs.YtnlkmbbgcellfaaDoor
