/-
  'out.Names = append(out.Names, v.Names[i])' and 'out.Items = append(out.Items, v.Items[i])': what such a statement leaves.
  'out.Items = append(out.Items, v.Items[i])': what such a statement leaves.
  What the document's Without comes to.
-/
import Derived.Test.YtpifbmcgadjhbaaDoorValRow
import Derived.Test.YtpifbmcgadjhbaaDoorRegApp
import Derived.Deep.MidRow
import Derived.Great.BuildSlice
import Derived.Lib.OwnKind
import Derived.Deep.AppendLies
namespace Go.Proofs.YtpifbmcgadjhbaaDoor
section
open Go.RowKit

theorem ld_one {t : TypeId} (hagg : ∀ w, (isAgg t).run Tryd.prog w = .ok false w) (w : World) {a : Addr} {c : Value} (h : w.cell? a = some c) : (Instr.loadAt t (.pointer (some a))).run Tryd.prog w = .ok c w := by
  simp [Instr.loadAt, Instr.sureAddr, loadVar, hagg, h]
theorem agg_names (w : World) : (isAgg 22).run Tryd.prog w = .ok false w := by kernel_rfl
theorem agg_items (w : World) : (isAgg 23).run Tryd.prog w = .ok false w := by kernel_rfl
theorem agg_str (w : World) : (isAgg 9).run Tryd.prog w = .ok false w := by kernel_rfl
theorem fld3 (b : Nat) (w : World) : (Instr.fieldAt 25 (.pointer (some ⟨b, 0, none⟩)) 3).run Tryd.prog w = .ok (.pointer (some ⟨b, 3, none⟩)) w := by kernel_rfl
theorem fld4 (b : Nat) (w : World) : (Instr.fieldAt 25 (.pointer (some ⟨b, 0, none⟩)) 4).run Tryd.prog w = .ok (.pointer (some ⟨b, 4, none⟩)) w := by kernel_rfl
theorem st_slice {t : TypeId} (hs : (Tryd.prog.info? t).map (·.size) = some 1) (w : World) {a : Addr} {c : Value} {p : Option Addr} {l k : Nat} (h : w.cell? a = some c) (hf : w.frozen? a = false) :
    (Instr.storeAt t (.pointer (some a)) (.slice p l k)).run Tryd.prog w = .ok () (w.setCell a (.slice p l k)) := by
  cases hq : Tryd.prog.info? t with
  | none => simp [hq] at hs
  | some i =>
    have hs : i.size = 1 := by simpa [hq] using hs
    simp [Instr.storeAt, Instr.sureAddr, storeVar, sizeOf, typeInfo, hq, hs, Value.cells, storeCells, go_sem, stored, h, hf]
theorem ix_names (b o r c i : Nat) (w : World) (hi : i < r) : (Instr.indexAt 22 (.slice (some ⟨b, o, none⟩) r c) (.int .i64 (i : Int))).run Tryd.prog w = .ok (.pointer (some ⟨b, o + i, none⟩)) w := by
  have hu := Tryd.underlying22
  simp [Instr.indexAt, asIntOf, run_underlying hu, hi, Addr.add]
theorem ix_items (b o r c i : Nat) (w : World) (hi : i < r) : (Instr.indexAt 23 (.slice (some ⟨b, o, none⟩) r c) (.int .i64 (i : Int))).run Tryd.prog w = .ok (.pointer (some ⟨b, o + i * 5, none⟩)) w := by
  have hu := Tryd.underlying23
  simp [Instr.indexAt, asIntOf, run_underlying hu, hi, Addr.add]
/-- nothing that was there has turned, but for block ob and block g -/
structure Kb (ob : Nat) (g : Option Nat) (w w' : World) : Prop where
  os : w'.os = w.os
  tape : w'.tape = w.tape
  output : w'.output = w.output
  size : w.heap.size ≤ w'.heap.size
  block : ∀ k, k < w.heap.size → k ≠ ob → some k ≠ g → w'.heap[k]? = w.heap[k]?
theorem info_name : (Tryd.prog.info? 9).map (fun i => (i.zero, i.size, i.bytes)) = some (some (.string ⟨#[]⟩), 1, 16) := by kernel_rfl
theorem VAt.set3 {b : Nat} {w : World} {a0 a1 a2 a3 a4 : Value} (h : VAt b w a0 a1 a2 a3 a4) (v : Value) : VAt b (w.setCell ⟨b, 3, none⟩ v) a0 a1 a2 v a4 := heap_setCell_same w b 3 _ _ v h
theorem VAt.set4 {b : Nat} {w : World} {a0 a1 a2 a3 a4 : Value} (h : VAt b w a0 a1 a2 a3 a4) (v : Value) : VAt b (w.setCell ⟨b, 4, none⟩ v) a0 a1 a2 a3 v := heap_setCell_same w b 4 _ _ v h
theorem fill_str (t : ByteArray) : Instr.fill (fun i => some (i * 1, 1)) ((Array.range (1 * 1)).map ((Value.string ⟨#[]⟩).cells[· % (Value.string ⟨#[]⟩).cells.size]!)) [(0, .string t)] = some #[.string t] := by kernel_rfl
theorem below_drew (w : World) : Below w.heap.size w w.drew := ⟨rfl, rfl, rfl, Nat.le_refl _, fun _ _ => rfl⟩
set_option maxHeartbeats 1000000 in
theorem region_names {ops : Array Oper} {Q : Exit → Act → World → Prop} {A : Act} {id : Nat} {w1 : World} (s ot vt it : Nat)
    (hkey : ops.toList.map keyOf = (TApp s ot vt it 3 22 9 25).map fun x => (x.1, x.2.1, true, x.2.2)) (hlow : (List.range ops.size).all (fun i => match ops[i]? with | some o => o.after.all (fun e => !Region.binds .any e || decide (e.on < i)) | none => true) = true)
    (hsz : s + 9 < A.tmps.size) (hot : ot < s) (hvt : vt < s) (hit : it < s)
    {B ob vb : Nat} {a0 a1 a2 v a4 v0 v1 v2 v4 : Value} {nb no r c i n : Nat} {p : List UInt8} {xs : List Value}
    (eo : A.eval (.tmp ot) = .pointer (some ⟨ob, 0, none⟩)) (ev : A.eval (.tmp vt) = .pointer (some ⟨vb, 0, none⟩)) (ei : A.eval (.tmp it) = .int .i64 (i : Int))
    (hO : VAt ob w1 a0 a1 a2 v a4) (hV : VAt vb w1 v0 v1 v2 (.slice (some ⟨nb, no, none⟩) r c) v4) (hi : i < r) (hp : w1.cell? ⟨nb, no + i, none⟩ = some (.string (S p)))
    (hown : w1.ownsRow B 9 1 v n xs) (hB : B ≤ w1.heap.size) (hob : ob < B) (hn : n + 1 ≤ 90000)
    (fin : ∀ (f : Nat → Value) v' w', VAt ob w' a0 a1 a2 v' a4 → w'.ownsRow B 9 1 v' (n + 1) (xs ++ [.string (S p)]) → Kb ob v.ownBlock w1 w' → Q .normal (putR A (pApp s) f) w') :
    (Code.region id ops true).wp Tryd.prog Q A w1 := by
  obtain ⟨i0, hi0, hz0, hz1, hz2⟩ := info_parts info_name
  have b1 := below_drew w1
  have b2 : Below w1.heap.size w1 (w1.drew.alloc (.cells #[.string (S p)] 9)) := b1.alloc (Nat.le_refl _) _
  have hlt : ob < w1.heap.size := (Array.getElem?_eq_some_iff.1 hO).1
  have BE : ∀ w, w = w1.drew ∨ w = w1.drew.alloc (.cells #[.string (S p)] 9) → Below w1.heap.size w1 w := fun w h => by
    rcases h with rfl | rfl
    · exact b1
    · exact b2
  have hown2 : (w1.drew.alloc (.cells #[.string (S p)] 9)).ownsRow B 9 1 v n xs := (World.ownsRow.drew hown).alloc _
  have hrow : ∀ k, v.ownBlock = some k → B ≤ k := fun k e => (hown.lt k e).1
  refine wp_region_app s ot vt it 3 22 9 25 (by kernel_rfl) hkey hlow hsz hot hvt hit
    (.pointer (some ⟨ob, 0, none⟩)) (.pointer (some ⟨vb, 0, none⟩)) (.pointer (some ⟨ob, 3, none⟩)) v (.pointer (some ⟨vb, 3, none⟩)) (.slice (some ⟨nb, no, none⟩) r c) (.int .i64 (i : Int)) (.pointer (some ⟨nb, no + i, none⟩)) (.string (S p)) (.slice (some ⟨w1.heap.size, 0, none⟩) 1 1) eo ev ei
    (w1.drew.alloc (.cells #[.string (S p)] 9)) (fld3 ob) (fld3 vb) (fun w h => ?_) (fun w h => ?_) (fun o a K w _ ho h1 h2 hk => ?_) (fun w h => ?_) (fun o a K ho h1 hk => ?_)
    (fun v' w' => w'.ownsRow B 9 1 v' (n + 1) (xs ++ [.string (S p)]) ∧ (w1.drew.alloc (.cells #[.string (S p)] 9)).grownBy w' v.ownBlock)
    (fun v' w' => VAt ob w' a0 a1 a2 v' a4 ∧ w'.ownsRow B 9 1 v' (n + 1) (xs ++ [.string (S p)]) ∧ Kb ob v.ownBlock w1 w')
    (fun o a K ho h1 h2 hk => ?_) (fun v' w' ⟨h1, h2⟩ => ?_) (fun f v' w' ⟨h1, h2, h3⟩ => fin f v' w' h1 h2 h3)
  · exact ld_one agg_names w ((hO.below (BE w h)).cells.1.2.2.2.1)
  · exact ld_one agg_names w ((hV.below (BE w h)).cells.1.2.2.2.1)
  · exact wp_val (by simp [execOp, ho, h1, h2, ix_names nb no r c i w hi]) hk
  · exact ld_one agg_str w (((BE w h).cell (World.block_lt_of_cell? w1 _ hp)).trans hp)
  · refine wp_buildSlice 22 9 1 _ ho #[.string (S p)] i0 _ Tryd.underlying22 hi0 hz0 (by rw [hz1]; decide) (by rw [hz1]; decide) ?_ hk
    rw [hz1, show (#[(0, Operand.tmp (s + 6))].map fun x : Nat × Operand => (x.1, a.eval x.2)).toList = [(0, Value.string (S p))] by simp [h1]]
    exact fill_str (S p)
  · refine wp_append_own _ (.tmp (s + 1)) (.tmp (s + 7)) 22 ho B 9 i0 (.string ⟨#[]⟩) 1 16 Tryd.underlying22 hi0 hz0 hz1 hz2 rfl (by decide) v n xs h1 hown2 ⟨w1.heap.size, 0, none⟩ 1 1 [.string (S p)] h2 rfl ?_ (by simp [Value.oneCell']) (by unfold maxLen; omega) (by omega) (by simp; omega) fun v' w' g1 g2 _ => hk v' w' ⟨g1, g2⟩
    exact World.news_of_block (cs := #[.string (S p)]) (t := 9) (fr := (0, 0)) (heap_alloc_new w1.drew _)
  · have hO' : VAt ob w' a0 a1 a2 v a4 := (h2.block ob (Nat.lt_of_lt_of_le hlt b2.size) (fun e => by have := hrow ob e.symm; omega)).trans (hO.below b2)
    obtain ⟨⟨_, _, _, q3, _⟩, qf⟩ := hO'.cells
    obtain ⟨pp, ll, kk, rfl⟩ : ∃ pp ll kk, v' = .slice pp ll kk := by
      rcases h1.2 with ⟨rfl, _⟩ | ⟨g, cap, _, rfl, _⟩
      · exact ⟨_, _, _, rfl⟩
      · exact ⟨_, _, _, rfl⟩
    refine ⟨_, st_slice (by kernel_rfl) w' q3 (qf 3), hO'.set3 _, ownsRow_setCell_below h1 hob _, ?_⟩
    exact ⟨h2.os.trans b2.os, h2.tape.trans b2.tape, h2.output.trans b2.output, Nat.le_trans b2.size (by have := h2.size; simpa using this), fun k hk hne hg => by
      rw [← b2.block k hk, ← h2.block k (Nat.lt_of_lt_of_le hk b2.size) hg]
      exact heap_setCell_other w' ⟨ob, 3, none⟩ k _ hne⟩
end

section
open Go.RowKit

def V5 : Array Value := #[.int .u8 0, .int .i64 0, .string ⟨#[]⟩, .slice none 0 0, .slice none 0 0]
theorem info_val : (Tryd.prog.info? 25).map (fun i => (i.zero, i.size, i.bytes)) = some (some (.agg V5), 5, 80) := by kernel_rfl
theorem fill_val (c0 c1 c2 c3 c4 : Value) : Instr.fill (fun i => some (i * 5, 5)) ((Array.range (1 * 5)).map ((Value.agg V5).cells[· % (Value.agg V5).cells.size]!)) [(0, .agg #[c0, c1, c2, c3, c4])] = some #[c0, c1, c2, c3, c4] := by kernel_rfl
theorem ld_val (w : World) {b o : Nat} {c0 c1 c2 c3 c4 : Value} (h : w.rangeAt b o [c0, c1, c2, c3, c4]) : (Instr.loadAt 25 (.pointer (some ⟨b, o, none⟩))).run Tryd.prog w = .ok (.agg #[c0, c1, c2, c3, c4]) w :=
  run_loadAt_mid w b o 25 _ _ h Tryd.underlying25 rfl (by kernel_rfl)
set_option maxHeartbeats 1000000 in
theorem region_items {ops : Array Oper} {Q : Exit → Act → World → Prop} {A : Act} {id : Nat} {w1 : World} (s ot vt it : Nat)
    (hkey : ops.toList.map keyOf = (TApp s ot vt it 4 23 25 25).map fun x => (x.1, x.2.1, true, x.2.2)) (hlow : (List.range ops.size).all (fun i => match ops[i]? with | some o => o.after.all (fun e => !Region.binds .any e || decide (e.on < i)) | none => true) = true)
    (hsz : s + 9 < A.tmps.size) (hot : ot < s) (hvt : vt < s) (hit : it < s)
    {B ob vb : Nat} {a0 a1 a2 a3 v v0 v1 v2 v3 : Value} {nb no r c i n : Nat} {c0 c1 c2 c3 c4 : Value} {xs : List Value}
    (eo : A.eval (.tmp ot) = .pointer (some ⟨ob, 0, none⟩)) (ev : A.eval (.tmp vt) = .pointer (some ⟨vb, 0, none⟩)) (ei : A.eval (.tmp it) = .int .i64 (i : Int))
    (hO : VAt ob w1 a0 a1 a2 a3 v) (hV : VAt vb w1 v0 v1 v2 v3 (.slice (some ⟨nb, no, none⟩) r c)) (hi : i < r) (hp : w1.rangeAt nb (no + i * 5) [c0, c1, c2, c3, c4])
    (hone : ∀ u ∈ [c0, c1, c2, c3, c4], u.oneCell' = true)
    (hown : w1.ownsRow B 25 5 v n xs) (hB : B ≤ w1.heap.size) (hob : ob < B) (hn : n + 1 ≤ 90000)
    (fin : ∀ (f : Nat → Value) v' w', VAt ob w' a0 a1 a2 a3 v' → w'.ownsRow B 25 5 v' (n + 1) (xs ++ [c0, c1, c2, c3, c4]) → Kb ob v.ownBlock w1 w' → Q .normal (putR A (pApp s) f) w') :
    (Code.region id ops true).wp Tryd.prog Q A w1 := by
  obtain ⟨i0, hi0, hz0, hz1, hz2⟩ := info_parts info_val
  have b1 := below_drew w1
  have b2 : Below w1.heap.size w1 (w1.drew.alloc (.cells #[c0, c1, c2, c3, c4] 25)) := b1.alloc (Nat.le_refl _) _
  have hlt : ob < w1.heap.size := (Array.getElem?_eq_some_iff.1 hO).1
  have BE : ∀ w, w = w1.drew ∨ w = w1.drew.alloc (.cells #[c0, c1, c2, c3, c4] 25) → Below w1.heap.size w1 w := fun w h => by
    rcases h with rfl | rfl
    · exact b1
    · exact b2
  have hown2 : (w1.drew.alloc (.cells #[c0, c1, c2, c3, c4] 25)).ownsRow B 25 5 v n xs := (World.ownsRow.drew hown).alloc _
  have hrow : ∀ k, v.ownBlock = some k → B ≤ k := fun k e => (hown.lt k e).1
  refine wp_region_app s ot vt it 4 23 25 25 (by kernel_rfl) hkey hlow hsz hot hvt hit
    (.pointer (some ⟨ob, 0, none⟩)) (.pointer (some ⟨vb, 0, none⟩)) (.pointer (some ⟨ob, 4, none⟩)) v (.pointer (some ⟨vb, 4, none⟩)) (.slice (some ⟨nb, no, none⟩) r c) (.int .i64 (i : Int)) (.pointer (some ⟨nb, no + i * 5, none⟩)) (.agg #[c0, c1, c2, c3, c4]) (.slice (some ⟨w1.heap.size, 0, none⟩) 1 1) eo ev ei
    (w1.drew.alloc (.cells #[c0, c1, c2, c3, c4] 25)) (fld4 ob) (fld4 vb) (fun w h => ?_) (fun w h => ?_) (fun o a K w _ ho h1 h2 hk => ?_) (fun w h => ?_) (fun o a K ho h1 hk => ?_)
    (fun v' w' => w'.ownsRow B 25 5 v' (n + 1) (xs ++ [c0, c1, c2, c3, c4]) ∧ (w1.drew.alloc (.cells #[c0, c1, c2, c3, c4] 25)).grownBy w' v.ownBlock)
    (fun v' w' => VAt ob w' a0 a1 a2 a3 v' ∧ w'.ownsRow B 25 5 v' (n + 1) (xs ++ [c0, c1, c2, c3, c4]) ∧ Kb ob v.ownBlock w1 w')
    (fun o a K ho h1 h2 hk => ?_) (fun v' w' ⟨h1, h2⟩ => ?_) (fun f v' w' ⟨h1, h2, h3⟩ => fin f v' w' h1 h2 h3)
  · exact ld_one agg_items w ((hO.below (BE w h)).cells.1.2.2.2.2)
  · exact ld_one agg_items w ((hV.below (BE w h)).cells.1.2.2.2.2)
  · exact wp_val (by simp [execOp, ho, h1, h2, ix_items nb no r c i w hi]) hk
  · exact ld_val w fun j u hj => ((BE w h).cell (World.block_lt_of_cell? w1 _ (hp j u hj))).trans (hp j u hj)
  · refine wp_buildSlice 23 25 1 _ ho #[c0, c1, c2, c3, c4] i0 _ Tryd.underlying23 hi0 hz0 (by rw [hz1]; decide) (by rw [hz1]; decide) ?_ hk
    rw [hz1, show (#[(0, Operand.tmp (s + 6))].map fun x : Nat × Operand => (x.1, a.eval x.2)).toList = [(0, Value.agg #[c0, c1, c2, c3, c4])] by simp [h1]]
    exact fill_val c0 c1 c2 c3 c4
  · refine wp_append_own _ (.tmp (s + 1)) (.tmp (s + 7)) 23 ho B 25 i0 (.agg V5) 5 80 Tryd.underlying23 hi0 hz0 hz1 hz2 rfl (by decide) v n xs h1 hown2 ⟨w1.heap.size, 0, none⟩ 1 1 [c0, c1, c2, c3, c4] h2 rfl ?_ hone (by unfold maxLen; omega) (by omega) (by simp; omega) fun v' w' g1 g2 _ => hk v' w' ⟨g1, g2⟩
    exact World.news_of_block (cs := #[c0, c1, c2, c3, c4]) (t := 25) (fr := (0, 0)) (heap_alloc_new w1.drew _)
  · have hO' : VAt ob w' a0 a1 a2 a3 v := (h2.block ob (Nat.lt_of_lt_of_le hlt b2.size) (fun e => by have := hrow ob e.symm; omega)).trans (hO.below b2)
    obtain ⟨⟨_, _, _, _, q4⟩, qf⟩ := hO'.cells
    obtain ⟨pp, ll, kk, rfl⟩ : ∃ pp ll kk, v' = .slice pp ll kk := by
      rcases h1.2 with ⟨rfl, _⟩ | ⟨g, cap, _, rfl, _⟩
      · exact ⟨_, _, _, rfl⟩
      · exact ⟨_, _, _, rfl⟩
    refine ⟨_, st_slice (by kernel_rfl) w' q4 (qf 4), hO'.set4 _, ownsRow_setCell_below h1 hob _, ?_⟩
    exact ⟨h2.os.trans b2.os, h2.tape.trans b2.tape, h2.output.trans b2.output, Nat.le_trans b2.size (by have := h2.size; simpa using this), fun k hk hne hg => by
      rw [← b2.block k hk, ← h2.block k (Nat.lt_of_lt_of_le hk b2.size) hg]
      exact heap_setCell_other w' ⟨ob, 4, none⟩ k _ hne⟩
end

section
open Go.RowKit

namespace JV
/-- the names, and their Items, but for one name -/
def keep : List (List UInt8) → List JV → List UInt8 → List (List UInt8) × List JV
  | n :: ns, y :: ys, l => if n = l then keep ns ys l else (n :: (keep ns ys l).1, y :: (keep ns ys l).2)
  | _, _, _ => ([], [])
theorem keep_snoc (n : List UInt8) (y : JV) (l : List UInt8) : ∀ (ns : List (List UInt8)) (ys : List JV), ns.length = ys.length →
    keep (ns ++ [n]) (ys ++ [y]) l = if n = l then keep ns ys l else ((keep ns ys l).1 ++ [n], (keep ns ys l).2 ++ [y])
  | [], [], _ => by simp [keep]
  | m :: ns, z :: ys, h => by
    have := keep_snoc n y l ns ys (by simpa using h)
    rw [List.cons_append, List.cons_append, keep, keep, this]
    by_cases h1 : m = l
    · simp [h1]
    · by_cases h2 : n = l
      · simp [h1, h2]
      · simp [h1, h2]
theorem keep_len (l : List UInt8) : ∀ (ns : List (List UInt8)) (ys : List JV), (keep ns ys l).1.length = (keep ns ys l).2.length ∧ (keep ns ys l).1.length ≤ ns.length
  | [], ys => by cases ys <;> simp [keep]
  | n :: ns, [] => by simp [keep]
  | n :: ns, y :: ys => by
    have := keep_len l ns ys
    rw [keep]
    by_cases h : n = l
    · rw [if_pos h]; exact ⟨this.1, by rw [List.length_cons]; omega⟩
    · rw [if_neg h]; simp only [List.length_cons]; omega
theorem keep_mem (l : List UInt8) : ∀ (ns : List (List UInt8)) (ys : List JV) (x : List UInt8), x ∈ (keep ns ys l).1 → x ∈ ns
  | [], ys, x, h => by cases ys <;> simp [keep] at h
  | n :: ns, [], x, h => by simp [keep] at h
  | n :: ns, y :: ys, x, h => by
    rw [keep] at h
    by_cases h1 : n = l
    · rw [if_pos h1] at h; exact List.mem_cons_of_mem _ (keep_mem l ns ys x h)
    · rw [if_neg h1] at h
      rcases List.mem_cons.1 h with h2 | h2
      · rw [h2]; exact List.mem_cons_self
      · exact List.mem_cons_of_mem _ (keep_mem l ns ys x h2)
/-- what Without gives -/
def without (x : JV) (l : List UInt8) : JV × Bool :=
  if x.k = 5 ∧ x.ns.length = x.is.length then (.mk 5 x.n x.t (keep x.ns x.is l).1 (keep x.ns x.is l).2, decide ((keep x.ns x.is l).1.length < x.ns.length)) else (x, false)
end JV
/-- what the loop keeps: nothing of what came in has turned; the new value's block; its rows are the call's own -/
structure WoI (w wr : World) (x : JV) (l : List UInt8) (nI : Int) (t : List UInt8) (i : Nat) (v0 v1 v2 v3 v4 : Value) : Prop where
  below : Below w.heap.size w wr
  hv : VAt w.heap.size wr v0 v1 v2 v3 v4
  hr : VAt (w.heap.size + 1) wr (.int .u8 0) (.int .i64 0) (.string ⟨#[]⟩) (.slice none 0 0) (.slice none 0 0)
  size : w.heap.size + 3 ≤ wr.heap.size
  own : ∃ nv xv cs, VAt (w.heap.size + 2) wr (.int .u8 5) (.int .i64 nI) (.string (S t)) nv xv ∧ wr.ownsRow (w.heap.size + 3) 9 1 nv (JV.keep (x.ns.take i) (x.is.take i) l).1.length (NC (JV.keep (x.ns.take i) (x.is.take i) l).1) ∧
    wr.ownsRow (w.heap.size + 3) 25 5 xv (JV.keep (x.ns.take i) (x.is.take i) l).2.length cs ∧ HCS w cs (JV.keep (x.ns.take i) (x.is.take i) l).2
theorem Kb.below {ob : Nat} {g : Option Nat} {w w1 w2 : World} (h : Kb ob g w1 w2) (hb : Below w.heap.size w w1) (ho : w.heap.size ≤ ob) (hg : ∀ k, g = some k → w.heap.size ≤ k) : Below w.heap.size w w2 :=
  ⟨h.os.trans hb.os, h.tape.trans hb.tape, h.output.trans hb.output, Nat.le_trans hb.size h.size, fun k hk => (h.block k (Nat.lt_of_lt_of_le hk hb.size) (by omega) (fun e => by have := hg k e.symm; omega)).trans (hb.block k hk)⟩
theorem Kb.vat {ob b : Nat} {g : Option Nat} {w1 w2 : World} {a0 a1 a2 a3 a4 : Value} (h : Kb ob g w1 w2) (hv : VAt b w1 a0 a1 a2 a3 a4) (hb : b ≠ ob) (hg : some b ≠ g) : VAt b w2 a0 a1 a2 a3 a4 :=
  (h.block b (Array.getElem?_eq_some_iff.1 hv).1 hb hg).trans hv
/-- a row of the call's own is kept, if its block is another one -/
theorem Kb.own {ob : Nat} {g : Option Nat} {w1 w2 : World} {B : Nat} {e : TypeId} {sz : Nat} {v : Value} {n : Nat} {xs : List Value} (h : Kb ob g w1 w2) (ho : w1.ownsRow B e sz v n xs) (hb : ob < B) (hne : ∀ k, v.ownBlock = some k → some k ≠ g) : w2.ownsRow B e sz v n xs := by
  obtain ⟨h1, h2⟩ := id ho
  refine ⟨h1, ?_⟩
  rcases h2 with h2 | ⟨gg, cap, cur, rfl, h3, h4, h5⟩
  · exact .inl h2
  · exact .inr ⟨gg, cap, cur, rfl, h3, (h.block gg (Array.getElem?_eq_some_iff.1 h4).1 (by omega) (hne gg rfl)).trans h4, h5⟩
/-- rows of two kinds lie on two blocks -/
theorem own_apart {w : World} {B B' : Nat} {e e' : TypeId} {sz sz' n n' : Nat} {v v' : Value} {xs xs' : List Value} (h : w.ownsRow B e sz v n xs) (h' : w.ownsRow B' e' sz' v' n' xs') (he : e ≠ e') : ∀ k, v.ownBlock = some k → some k ≠ v'.ownBlock := fun k hk e => by
  obtain ⟨c, fz, h1⟩ := Lib.ownsRow_kind h k hk
  obtain ⟨c', fz', h2⟩ := Lib.ownsRow_kind h' k e.symm
  rw [h1] at h2
  simp only [Option.some.injEq, Obj.cells.injEq] at h2
  exact he h2.2.1
end
end Go.Proofs.YtpifbmcgadjhbaaDoor
