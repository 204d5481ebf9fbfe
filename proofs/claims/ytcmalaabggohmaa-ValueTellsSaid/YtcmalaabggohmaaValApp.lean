/-
  'out.Names = append(out.Names, v.Names[i])' and 'out.Items = append(out.Items, v.Items[i])': what such a statement leaves.
-/
import Derived.Test.YtcmalaabggohmaaValRow
import Derived.Test.YtcmalaabggohmaaRegApp
import Derived.Deep.MidRow
import Derived.Great.BuildSlice
import Derived.Lib.OwnKind
import Derived.Deep.AppendLies
namespace Go.Proofs.Ytcmalaabggohmaa
open Go.RowKit

theorem ld_one {t : TypeId} (hagg : ∀ w, (isAgg t).run Try.prog w = .ok false w) (w : World) {a : Addr} {c : Value} (h : w.cell? a = some c) : (Instr.loadAt t (.pointer (some a))).run Try.prog w = .ok c w := by
  simp [Instr.loadAt, Instr.sureAddr, loadVar, hagg, h]
theorem agg_names (w : World) : (isAgg 22).run Try.prog w = .ok false w := by kernel_rfl
theorem agg_items (w : World) : (isAgg 23).run Try.prog w = .ok false w := by kernel_rfl
theorem agg_str (w : World) : (isAgg 9).run Try.prog w = .ok false w := by kernel_rfl
theorem fld3 (b : Nat) (w : World) : (Instr.fieldAt 25 (.pointer (some ⟨b, 0, none⟩)) 3).run Try.prog w = .ok (.pointer (some ⟨b, 3, none⟩)) w := by kernel_rfl
theorem fld4 (b : Nat) (w : World) : (Instr.fieldAt 25 (.pointer (some ⟨b, 0, none⟩)) 4).run Try.prog w = .ok (.pointer (some ⟨b, 4, none⟩)) w := by kernel_rfl
theorem st_slice {t : TypeId} (hs : (Try.prog.info? t).map (·.size) = some 1) (w : World) {a : Addr} {c : Value} {p : Option Addr} {l k : Nat} (h : w.cell? a = some c) (hf : w.frozen? a = false) :
    (Instr.storeAt t (.pointer (some a)) (.slice p l k)).run Try.prog w = .ok () (w.setCell a (.slice p l k)) := by
  cases hq : Try.prog.info? t with
  | none => simp [hq] at hs
  | some i =>
    have hs : i.size = 1 := by simpa [hq] using hs
    simp [Instr.storeAt, Instr.sureAddr, storeVar, sizeOf, typeInfo, hq, hs, Value.cells, storeCells, go_sem, stored, h, hf]
theorem ix_names (b o r c i : Nat) (w : World) (hi : i < r) : (Instr.indexAt 22 (.slice (some ⟨b, o, none⟩) r c) (.int .i64 (i : Int))).run Try.prog w = .ok (.pointer (some ⟨b, o + i, none⟩)) w := by
  have hu := Try.underlying22
  simp [Instr.indexAt, asIntOf, run_underlying hu, hi, Addr.add]
theorem ix_items (b o r c i : Nat) (w : World) (hi : i < r) : (Instr.indexAt 23 (.slice (some ⟨b, o, none⟩) r c) (.int .i64 (i : Int))).run Try.prog w = .ok (.pointer (some ⟨b, o + i * 5, none⟩)) w := by
  have hu := Try.underlying23
  simp [Instr.indexAt, asIntOf, run_underlying hu, hi, Addr.add]
/-- nothing that was there has turned, but for block ob and block g -/
structure Kb (ob : Nat) (g : Option Nat) (w w' : World) : Prop where
  os : w'.os = w.os
  tape : w'.tape = w.tape
  output : w'.output = w.output
  size : w.heap.size ≤ w'.heap.size
  block : ∀ k, k < w.heap.size → k ≠ ob → some k ≠ g → w'.heap[k]? = w.heap[k]?
theorem info_name : (Try.prog.info? 9).map (fun i => (i.zero, i.size, i.bytes)) = some (some (.string ⟨#[]⟩), 1, 16) := by kernel_rfl
theorem VAt.set3 {b : Nat} {w : World} {a0 a1 a2 a3 a4 : Value} (h : VAt b w a0 a1 a2 a3 a4) (v : Value) : VAt b (w.setCell ⟨b, 3, none⟩ v) a0 a1 a2 v a4 := heap_setCell_same w b 3 _ _ v h
theorem VAt.set4 {b : Nat} {w : World} {a0 a1 a2 a3 a4 : Value} (h : VAt b w a0 a1 a2 a3 a4) (v : Value) : VAt b (w.setCell ⟨b, 4, none⟩ v) a0 a1 a2 a3 v := heap_setCell_same w b 4 _ _ v h
theorem fill_str (t : ByteArray) : Instr.fill (fun i => some (i * 1, 1)) ((Array.range (1 * 1)).map ((Value.string ⟨#[]⟩).cells[· % (Value.string ⟨#[]⟩).cells.size]!)) [(0, .string t)] = some #[.string t] := by kernel_rfl
theorem below_drew (w : World) : Below w.heap.size w w.drew := ⟨rfl, rfl, rfl, Nat.le_refl _, fun _ _ => rfl⟩
set_option maxHeartbeats 1000000 in
theorem region_names {ops : Array Oper} {Q : Exit → Act → World → Prop} {A : Act} {id : Nat} {w1 : World} (s ot vt it : Nat)
    (hkey : ops.toList.map keyOf = (TApp s ot vt it 3 22 9 25).map fun x => (x.1, x.2.1, true, x.2.2)) (hlow : (List.range ops.size).all (fun i => match ops[i]? with | some o => o.after.all (fun e => !Region.binds .any e || decide (e.on < i)) | none => true) = true)
    (hsz : s + 9 < A.tmps.size) (hot : ot < s) (hvt : vt < s) (hit : it < s)
    {B ob vb : Nat} {a0 a1 a2 v a4 v0 v1 v2 v4 : Value} {nb no r c i n : Nat} {p : List UInt8} {xs : List Value}
    (eo : A.eval (.tmp ot) = .pointer (some ⟨ob, 0, none⟩)) (ev : A.eval (.tmp vt) = .pointer (some ⟨vb, 0, none⟩)) (ei : A.eval (.tmp it) = .int .i64 (i : Int))
    (hO : VAt ob w1 a0 a1 a2 v a4) (hV : VAt vb w1 v0 v1 v2 (.slice (some ⟨nb, no, none⟩) r c) v4) (hi : i < r) (hp : w1.cell? ⟨nb, no + i, none⟩ = some (.string (S p)))
    (hown : w1.ownsRow B 9 1 v n xs) (hB : B ≤ w1.heap.size) (hob : ob < B) (hn : n + 1 ≤ 90000)
    (fin : ∀ (f : Nat → Value) v' w', VAt ob w' a0 a1 a2 v' a4 → w'.ownsRow B 9 1 v' (n + 1) (xs ++ [.string (S p)]) → Kb ob v.ownBlock w1 w' → Q .normal (putR A (pApp s) f) w') :
    (Code.region id ops true).wp Try.prog Q A w1 := by
  obtain ⟨i0, hi0, hz0, hz1, hz2⟩ := info_parts info_name
  have b1 := below_drew w1
  have b2 : Below w1.heap.size w1 (w1.drew.alloc (.cells #[.string (S p)] 9)) := b1.alloc (Nat.le_refl _) _
  have hlt : ob < w1.heap.size := (Array.getElem?_eq_some_iff.1 hO).1
  have BE : ∀ w, w = w1.drew ∨ w = w1.drew.alloc (.cells #[.string (S p)] 9) → Below w1.heap.size w1 w := fun w h => by
    rcases h with rfl | rfl
    · exact b1
    · exact b2
  have hown2 : (w1.drew.alloc (.cells #[.string (S p)] 9)).ownsRow B 9 1 v n xs := (World.ownsRow.drew hown).alloc _
  have hrow : ∀ k, v.ownBlock = some k → B ≤ k := fun k e => (hown.lt k e).1
  refine wp_region_app s ot vt it 3 22 9 25 (by kernel_rfl) hkey hlow hsz hot hvt hit
    (.pointer (some ⟨ob, 0, none⟩)) (.pointer (some ⟨vb, 0, none⟩)) (.pointer (some ⟨ob, 3, none⟩)) v (.pointer (some ⟨vb, 3, none⟩)) (.slice (some ⟨nb, no, none⟩) r c) (.int .i64 (i : Int)) (.pointer (some ⟨nb, no + i, none⟩)) (.string (S p)) (.slice (some ⟨w1.heap.size, 0, none⟩) 1 1) eo ev ei
    (w1.drew.alloc (.cells #[.string (S p)] 9)) (fld3 ob) (fld3 vb) (fun w h => ?_) (fun w h => ?_) (fun o a K w _ ho h1 h2 hk => ?_) (fun w h => ?_) (fun o a K ho h1 hk => ?_)
    (fun v' w' => w'.ownsRow B 9 1 v' (n + 1) (xs ++ [.string (S p)]) ∧ (w1.drew.alloc (.cells #[.string (S p)] 9)).grownBy w' v.ownBlock)
    (fun v' w' => VAt ob w' a0 a1 a2 v' a4 ∧ w'.ownsRow B 9 1 v' (n + 1) (xs ++ [.string (S p)]) ∧ Kb ob v.ownBlock w1 w')
    (fun o a K ho h1 h2 hk => ?_) (fun v' w' ⟨h1, h2⟩ => ?_) (fun f v' w' ⟨h1, h2, h3⟩ => fin f v' w' h1 h2 h3)
  · exact ld_one agg_names w ((hO.below (BE w h)).cells.1.2.2.2.1)
  · exact ld_one agg_names w ((hV.below (BE w h)).cells.1.2.2.2.1)
  · exact wp_val (by simp [execOp, ho, h1, h2, ix_names nb no r c i w hi]) hk
  · exact ld_one agg_str w (((BE w h).cell (World.block_lt_of_cell? w1 _ hp)).trans hp)
  · refine wp_buildSlice 22 9 1 _ ho #[.string (S p)] i0 _ Try.underlying22 hi0 hz0 (by rw [hz1]; decide) (by rw [hz1]; decide) ?_ hk
    rw [hz1, show (#[(0, Operand.tmp (s + 6))].map fun x : Nat × Operand => (x.1, a.eval x.2)).toList = [(0, Value.string (S p))] by simp [h1]]
    exact fill_str (S p)
  · refine wp_append_own _ (.tmp (s + 1)) (.tmp (s + 7)) 22 ho B 9 i0 (.string ⟨#[]⟩) 1 16 Try.underlying22 hi0 hz0 hz1 hz2 rfl (by decide) v n xs h1 hown2 ⟨w1.heap.size, 0, none⟩ 1 1 [.string (S p)] h2 rfl ?_ (by simp [Value.oneCell']) (by unfold maxLen; omega) (by omega) (by simp; omega) fun v' w' g1 g2 _ => hk v' w' ⟨g1, g2⟩
    exact World.news_of_block (cs := #[.string (S p)]) (t := 9) (fr := (0, 0)) (heap_alloc_new w1.drew _)
  · have hO' : VAt ob w' a0 a1 a2 v a4 := (h2.block ob (Nat.lt_of_lt_of_le hlt b2.size) (fun e => by have := hrow ob e.symm; omega)).trans (hO.below b2)
    obtain ⟨⟨_, _, _, q3, _⟩, qf⟩ := hO'.cells
    obtain ⟨pp, ll, kk, rfl⟩ : ∃ pp ll kk, v' = .slice pp ll kk := by
      rcases h1.2 with ⟨rfl, _⟩ | ⟨g, cap, _, rfl, _⟩
      · exact ⟨_, _, _, rfl⟩
      · exact ⟨_, _, _, rfl⟩
    refine ⟨_, st_slice (by kernel_rfl) w' q3 (qf 3), hO'.set3 _, ownsRow_setCell_below h1 hob _, ?_⟩
    exact ⟨h2.os.trans b2.os, h2.tape.trans b2.tape, h2.output.trans b2.output, Nat.le_trans b2.size (by have := h2.size; simpa using this), fun k hk hne hg => by
      rw [← b2.block k hk, ← h2.block k (Nat.lt_of_lt_of_le hk b2.size) hg]
      exact heap_setCell_other w' ⟨ob, 3, none⟩ k _ hne⟩
end Go.Proofs.Ytcmalaabggohmaa
