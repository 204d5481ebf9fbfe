/-
  'out.Items = append(out.Items, v.Items[i])': what such a statement leaves.
-/
import Derived.Test.YtcmalaabggohmaaValApp
namespace Go.Proofs.Ytcmalaabggohmaa
open Go.RowKit

def V5 : Array Value := #[.int .u8 0, .int .i64 0, .string ⟨#[]⟩, .slice none 0 0, .slice none 0 0]
theorem info_val : (Try.prog.info? 25).map (fun i => (i.zero, i.size, i.bytes)) = some (some (.agg V5), 5, 80) := by kernel_rfl
theorem fill_val (c0 c1 c2 c3 c4 : Value) : Instr.fill (fun i => some (i * 5, 5)) ((Array.range (1 * 5)).map ((Value.agg V5).cells[· % (Value.agg V5).cells.size]!)) [(0, .agg #[c0, c1, c2, c3, c4])] = some #[c0, c1, c2, c3, c4] := by kernel_rfl
theorem ld_val (w : World) {b o : Nat} {c0 c1 c2 c3 c4 : Value} (h : w.rangeAt b o [c0, c1, c2, c3, c4]) : (Instr.loadAt 25 (.pointer (some ⟨b, o, none⟩))).run Try.prog w = .ok (.agg #[c0, c1, c2, c3, c4]) w :=
  run_loadAt_mid w b o 25 _ _ h Try.underlying25 rfl (by kernel_rfl)
set_option maxHeartbeats 1000000 in
theorem region_items {ops : Array Oper} {Q : Exit → Act → World → Prop} {A : Act} {id : Nat} {w1 : World} (s ot vt it : Nat)
    (hkey : ops.toList.map keyOf = (TApp s ot vt it 4 23 25 25).map fun x => (x.1, x.2.1, true, x.2.2)) (hlow : (List.range ops.size).all (fun i => match ops[i]? with | some o => o.after.all (fun e => !Region.binds .any e || decide (e.on < i)) | none => true) = true)
    (hsz : s + 9 < A.tmps.size) (hot : ot < s) (hvt : vt < s) (hit : it < s)
    {B ob vb : Nat} {a0 a1 a2 a3 v v0 v1 v2 v3 : Value} {nb no r c i n : Nat} {c0 c1 c2 c3 c4 : Value} {xs : List Value}
    (eo : A.eval (.tmp ot) = .pointer (some ⟨ob, 0, none⟩)) (ev : A.eval (.tmp vt) = .pointer (some ⟨vb, 0, none⟩)) (ei : A.eval (.tmp it) = .int .i64 (i : Int))
    (hO : VAt ob w1 a0 a1 a2 a3 v) (hV : VAt vb w1 v0 v1 v2 v3 (.slice (some ⟨nb, no, none⟩) r c)) (hi : i < r) (hp : w1.rangeAt nb (no + i * 5) [c0, c1, c2, c3, c4])
    (hone : ∀ u ∈ [c0, c1, c2, c3, c4], u.oneCell' = true)
    (hown : w1.ownsRow B 25 5 v n xs) (hB : B ≤ w1.heap.size) (hob : ob < B) (hn : n + 1 ≤ 90000)
    (fin : ∀ (f : Nat → Value) v' w', VAt ob w' a0 a1 a2 a3 v' → w'.ownsRow B 25 5 v' (n + 1) (xs ++ [c0, c1, c2, c3, c4]) → Kb ob v.ownBlock w1 w' → Q .normal (putR A (pApp s) f) w') :
    (Code.region id ops true).wp Try.prog Q A w1 := by
  obtain ⟨i0, hi0, hz0, hz1, hz2⟩ := info_parts info_val
  have b1 := below_drew w1
  have b2 : Below w1.heap.size w1 (w1.drew.alloc (.cells #[c0, c1, c2, c3, c4] 25)) := b1.alloc (Nat.le_refl _) _
  have hlt : ob < w1.heap.size := (Array.getElem?_eq_some_iff.1 hO).1
  have BE : ∀ w, w = w1.drew ∨ w = w1.drew.alloc (.cells #[c0, c1, c2, c3, c4] 25) → Below w1.heap.size w1 w := fun w h => by
    rcases h with rfl | rfl
    · exact b1
    · exact b2
  have hown2 : (w1.drew.alloc (.cells #[c0, c1, c2, c3, c4] 25)).ownsRow B 25 5 v n xs := (World.ownsRow.drew hown).alloc _
  have hrow : ∀ k, v.ownBlock = some k → B ≤ k := fun k e => (hown.lt k e).1
  refine wp_region_app s ot vt it 4 23 25 25 (by kernel_rfl) hkey hlow hsz hot hvt hit
    (.pointer (some ⟨ob, 0, none⟩)) (.pointer (some ⟨vb, 0, none⟩)) (.pointer (some ⟨ob, 4, none⟩)) v (.pointer (some ⟨vb, 4, none⟩)) (.slice (some ⟨nb, no, none⟩) r c) (.int .i64 (i : Int)) (.pointer (some ⟨nb, no + i * 5, none⟩)) (.agg #[c0, c1, c2, c3, c4]) (.slice (some ⟨w1.heap.size, 0, none⟩) 1 1) eo ev ei
    (w1.drew.alloc (.cells #[c0, c1, c2, c3, c4] 25)) (fld4 ob) (fld4 vb) (fun w h => ?_) (fun w h => ?_) (fun o a K w _ ho h1 h2 hk => ?_) (fun w h => ?_) (fun o a K ho h1 hk => ?_)
    (fun v' w' => w'.ownsRow B 25 5 v' (n + 1) (xs ++ [c0, c1, c2, c3, c4]) ∧ (w1.drew.alloc (.cells #[c0, c1, c2, c3, c4] 25)).grownBy w' v.ownBlock)
    (fun v' w' => VAt ob w' a0 a1 a2 a3 v' ∧ w'.ownsRow B 25 5 v' (n + 1) (xs ++ [c0, c1, c2, c3, c4]) ∧ Kb ob v.ownBlock w1 w')
    (fun o a K ho h1 h2 hk => ?_) (fun v' w' ⟨h1, h2⟩ => ?_) (fun f v' w' ⟨h1, h2, h3⟩ => fin f v' w' h1 h2 h3)
  · exact ld_one agg_items w ((hO.below (BE w h)).cells.1.2.2.2.2)
  · exact ld_one agg_items w ((hV.below (BE w h)).cells.1.2.2.2.2)
  · exact wp_val (by simp [execOp, ho, h1, h2, ix_items nb no r c i w hi]) hk
  · exact ld_val w fun j u hj => ((BE w h).cell (World.block_lt_of_cell? w1 _ (hp j u hj))).trans (hp j u hj)
  · refine wp_buildSlice 23 25 1 _ ho #[c0, c1, c2, c3, c4] i0 _ Try.underlying23 hi0 hz0 (by rw [hz1]; decide) (by rw [hz1]; decide) ?_ hk
    rw [hz1, show (#[(0, Operand.tmp (s + 6))].map fun x : Nat × Operand => (x.1, a.eval x.2)).toList = [(0, Value.agg #[c0, c1, c2, c3, c4])] by simp [h1]]
    exact fill_val c0 c1 c2 c3 c4
  · refine wp_append_own _ (.tmp (s + 1)) (.tmp (s + 7)) 23 ho B 25 i0 (.agg V5) 5 80 Try.underlying23 hi0 hz0 hz1 hz2 rfl (by decide) v n xs h1 hown2 ⟨w1.heap.size, 0, none⟩ 1 1 [c0, c1, c2, c3, c4] h2 rfl ?_ hone (by unfold maxLen; omega) (by omega) (by simp; omega) fun v' w' g1 g2 _ => hk v' w' ⟨g1, g2⟩
    exact World.news_of_block (cs := #[c0, c1, c2, c3, c4]) (t := 25) (fr := (0, 0)) (heap_alloc_new w1.drew _)
  · have hO' : VAt ob w' a0 a1 a2 a3 v := (h2.block ob (Nat.lt_of_lt_of_le hlt b2.size) (fun e => by have := hrow ob e.symm; omega)).trans (hO.below b2)
    obtain ⟨⟨_, _, _, _, q4⟩, qf⟩ := hO'.cells
    obtain ⟨pp, ll, kk, rfl⟩ : ∃ pp ll kk, v' = .slice pp ll kk := by
      rcases h1.2 with ⟨rfl, _⟩ | ⟨g, cap, _, rfl, _⟩
      · exact ⟨_, _, _, rfl⟩
      · exact ⟨_, _, _, rfl⟩
    refine ⟨_, st_slice (by kernel_rfl) w' q4 (qf 4), hO'.set4 _, ownsRow_setCell_below h1 hob _, ?_⟩
    exact ⟨h2.os.trans b2.os, h2.tape.trans b2.tape, h2.output.trans b2.output, Nat.le_trans b2.size (by have := h2.size; simpa using this), fun k hk hne hg => by
      rw [← b2.block k hk, ← h2.block k (Nat.lt_of_lt_of_le hk b2.size) hg]
      exact heap_setCell_other w' ⟨ob, 4, none⟩ k _ hne⟩
end Go.Proofs.Ytcmalaabggohmaa
