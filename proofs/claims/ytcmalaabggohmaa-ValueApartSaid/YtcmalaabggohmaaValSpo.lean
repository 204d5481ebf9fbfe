/-
  What is written over: the shape of a value stays, whatever texts are written into it; the rest of memory is as it was.
-/
import Derived.Test.YtcmalaabggohmaaValOwn
namespace Go.Proofs.Ytcmalaabggohmaa
open Go.RowKit

mutual
/-- the five cells cs have the shape of the value; all its blocks are P's, and its texts may be written -/
def HCw (P : Nat → Prop) (w : World) (cs : List Value) : JV → Prop
  | .mk k n _ ns is => ∃ (s : ByteArray) (a b : Option Addr) (ca cb : Nat), cs = [.int .u8 (k : Int), .int .i64 n, .string s, .slice a ns.length ca, .slice b is.length cb] ∧ JB k n [] [] is.length ∧ ns.length ≤ maxLen ∧
      (ns = [] ∨ ∃ blk off, a = some ⟨blk, off, none⟩ ∧ P blk ∧ ∀ i, i < ns.length → (∃ s : ByteArray, w.cell? ⟨blk, off + i, none⟩ = some (.string s)) ∧ w.frozen? ⟨blk, off + i, none⟩ = false) ∧
      (is = [] ∨ ∃ blk off, b = some ⟨blk, off, none⟩ ∧ P blk ∧ HIw P w blk off is)
def HIw (P : Nat → Prop) (w : World) (blk : Nat) (off : Nat) : List JV → Prop
  | [] => True
  | x :: xs => (∃ c0 c1 c2 c3 c4, w.cell? ⟨blk, off, none⟩ = some c0 ∧ w.cell? ⟨blk, off + 1, none⟩ = some c1 ∧ w.cell? ⟨blk, off + 2, none⟩ = some c2 ∧ w.cell? ⟨blk, off + 3, none⟩ = some c3 ∧ w.cell? ⟨blk, off + 4, none⟩ = some c4 ∧
      w.frozen? ⟨blk, off + 2, none⟩ = false ∧ HCw P w [c0, c1, c2, c3, c4] x) ∧ HIw P w blk (off + 5) xs
end
mutual
theorem HCp.hcw {P : Nat → Prop} {w : World} : ∀ (x : JV) (cs : List Value), HCp P w cs x → HCw P w cs x
  | .mk k n t ns is, cs, h => by
    unfold HCp at h
    unfold HCw
    obtain ⟨a, b, ca, cb, h1, ⟨j1, j2, j3, j4, j5, j6⟩, h3, h4⟩ := h
    refine ⟨S t, a, b, ca, cb, h1, ⟨j1, j2, Nat.zero_le _, Nat.zero_le _, j5, fun x h => by simp at h⟩, j4, ?_, ?_⟩
    · rcases h3 with rfl | ⟨blk, off, e, hp, h3⟩
      · exact .inl rfl
      · refine .inr ⟨blk, off, e, hp, fun i hi => ?_⟩
        obtain ⟨g1, g2⟩ := h3 i _ (List.getElem?_eq_getElem hi)
        exact ⟨⟨_, g1⟩, g2⟩
    · rcases h4 with h4 | ⟨blk, off, e, hp, h4⟩
      · exact .inl h4
      · exact .inr ⟨blk, off, e, hp, HIp.hiw is blk off h4⟩
theorem HIp.hiw {P : Nat → Prop} {w : World} : ∀ (xs : List JV) (blk off : Nat), HIp P w blk off xs → HIw P w blk off xs
  | [], _, _, _ => by unfold HIw; trivial
  | x :: xs, blk, off, h => by
    unfold HIp at h
    unfold HIw
    obtain ⟨⟨c0, c1, c2, c3, c4, g0, g1, g2, g3, g4, gf, hc⟩, hr⟩ := h
    exact ⟨⟨c0, c1, c2, c3, c4, g0, g1, g2, g3, g4, gf, HCp.hcw x _ hc⟩, HIp.hiw xs blk (off + 5) hr⟩
end
/-- one cell for another: the same, or a text for a text -/
def Txt (c d : Value) : Prop := d = c ∨ ∃ s t : ByteArray, c = .string s ∧ d = .string t
theorem Txt.trans {c d e : Value} (h : Txt c d) (g : Txt d e) : Txt c e := by
  rcases h with rfl | ⟨s, t, rfl, rfl⟩
  · exact g
  · rcases g with rfl | ⟨s', t', h, rfl⟩
    · exact .inr ⟨s, t, rfl, rfl⟩
    · exact .inr ⟨s, t', rfl, rfl⟩
/-- nothing but texts in P's blocks has been written -/
structure Sp (P : Nat → Prop) (w w' : World) : Prop where
  base : Below 0 w w'
  out : ∀ b, b < w.heap.size → ¬ P b → w'.heap[b]? = w.heap[b]?
  cell : ∀ b o c, P b → w.cell? ⟨b, o, none⟩ = some c → ∃ d, w'.cell? ⟨b, o, none⟩ = some d ∧ Txt c d
  froz : ∀ b o, P b → b < w.heap.size → w'.frozen? ⟨b, o, none⟩ = w.frozen? ⟨b, o, none⟩
theorem Sp.size {P : Nat → Prop} {w w' : World} (h : Sp P w w') : w.heap.size ≤ w'.heap.size := h.base.size
theorem Sp.refl (P : Nat → Prop) (w : World) : Sp P w w := ⟨Below.refl _ _, fun _ _ _ => rfl, fun _ _ c _ h => ⟨c, h, .inl rfl⟩, fun _ _ _ _ => rfl⟩
theorem Sp.trans {P : Nat → Prop} {w w' w'' : World} (h : Sp P w w') (g : Sp P w' w'') : Sp P w w'' := by
  refine ⟨h.base.trans g.base, fun b hb hp => (g.out b (Nat.lt_of_lt_of_le hb h.size) hp).trans (h.out b hb hp), fun b o c hp hc => ?_, fun b o hp hb => (g.froz b o hp (Nat.lt_of_lt_of_le hb h.size)).trans (h.froz b o hp hb)⟩
  obtain ⟨d, h1, h2⟩ := h.cell b o c hp hc
  obtain ⟨e, h3, h4⟩ := g.cell b o d hp h1
  exact ⟨e, h3, h2.trans h4⟩
/-- more memory -/
theorem Sp.of_below {P : Nat → Prop} {w w' : World} (h : Below w.heap.size w w') : Sp P w w' :=
  ⟨h.mono (Nat.zero_le _), fun b hb _ => h.block b hb, fun _ _ c _ hc => ⟨c, (h.cell (World.block_lt_of_cell? w _ hc)).trans hc, .inl rfl⟩, fun b o _ hb => World.frozen?_of_block (a := ⟨b, o, none⟩) (h.block b hb)⟩
/-- a block that is not P's stays -/
theorem Sp.below {P : Nat → Prop} {w w' : World} {B : Nat} (h : Sp P w w') (hB : B ≤ w.heap.size) (hP : ∀ b, P b → B ≤ b) : Below B w w' := by
  refine ⟨h.base.os, h.base.tape, h.base.output, h.base.size, fun b hb => h.out b (by omega) fun hp => ?_⟩
  have := hP b hp
  omega
inductive Txts : List Value → List Value → Prop
  | nil : Txts [] []
  | cons {c d cs ds} (h : Txt c d) (hs : Txts cs ds) : Txts (c :: cs) (d :: ds)
mutual
theorem HCw.sp {P : Nat → Prop} {w w' : World} (hs : Sp P w w') : ∀ (x : JV) (cs ds : List Value), HCw P w cs x → Txts cs ds → HCw P w' ds x
  | .mk k n t ns is, cs, ds, h, hf => by
    unfold HCw at h ⊢
    obtain ⟨s, a, b, ca, cb, rfl, h2, h2', h3, h4⟩ := h
    rcases hf with _ | ⟨f0, hf⟩
    rcases hf with _ | ⟨f1, hf⟩
    rcases hf with _ | @⟨_, d2, _, _, f2, hf⟩
    rcases hf with _ | ⟨f3, hf⟩
    rcases hf with _ | ⟨f4, hf⟩
    cases hf
    have ne : ∀ {c d : Value}, Txt c d → (∀ s, c ≠ .string s) → d = c := fun h hn => by
      rcases h with h | ⟨s, t, h, _⟩
      · exact h
      · exact absurd h (hn s)
    obtain rfl := ne f0 (fun s h => by cases h)
    obtain rfl := ne f1 (fun s h => by cases h)
    obtain rfl := ne f3 (fun s h => by cases h)
    obtain rfl := ne f4 (fun s h => by cases h)
    have hs2 : ∃ s', d2 = Value.string s' := by
      rcases f2 with h | ⟨_, t, _, h⟩
      · exact ⟨s, h⟩
      · exact ⟨t, h⟩
    obtain ⟨s', rfl⟩ := hs2
    refine ⟨s', a, b, ca, cb, rfl, h2, h2', ?_, ?_⟩
    · rcases h3 with h3 | ⟨blk, off, e, hp, h3⟩
      · exact .inl h3
      · refine .inr ⟨blk, off, e, hp, fun i hi => ?_⟩
        obtain ⟨⟨s, g1⟩, g2⟩ := h3 i hi
        obtain ⟨d, g3, g4⟩ := hs.cell _ _ _ hp g1
        refine ⟨?_, (hs.froz _ _ hp (World.block_lt_of_cell? w _ g1)).trans g2⟩
        rcases g4 with rfl | ⟨_, t, _, rfl⟩
        · exact ⟨_, g3⟩
        · exact ⟨_, g3⟩
    · rcases h4 with h4 | ⟨blk, off, e, hp, h4⟩
      · exact .inl h4
      · exact .inr ⟨blk, off, e, hp, HIw.sp hs is blk off hp h4⟩
theorem HIw.sp {P : Nat → Prop} {w w' : World} (hs : Sp P w w') : ∀ (xs : List JV) (blk off : Nat), P blk → HIw P w blk off xs → HIw P w' blk off xs
  | [], _, _, _, _ => by unfold HIw; trivial
  | x :: xs, blk, off, hp, h => by
    unfold HIw at h ⊢
    obtain ⟨⟨c0, c1, c2, c3, c4, g0, g1, g2, g3, g4, gf, hc⟩, hr⟩ := h
    obtain ⟨d0, e0, t0⟩ := hs.cell _ _ _ hp g0
    obtain ⟨d1, e1, t1⟩ := hs.cell _ _ _ hp g1
    obtain ⟨d2, e2, t2⟩ := hs.cell _ _ _ hp g2
    obtain ⟨d3, e3, t3⟩ := hs.cell _ _ _ hp g3
    obtain ⟨d4, e4, t4⟩ := hs.cell _ _ _ hp g4
    exact ⟨⟨d0, d1, d2, d3, d4, e0, e1, e2, e3, e4, (hs.froz _ _ hp (World.block_lt_of_cell? w _ g2)).trans gf, HCw.sp hs x _ _ hc (.cons t0 (.cons t1 (.cons t2 (.cons t3 (.cons t4 .nil)))))⟩, HIw.sp hs xs blk (off + 5) hp hr⟩
end
theorem HIw.get {P : Nat → Prop} {w : World} {blk : Nat} : ∀ {xs : List JV} {off i : Nat} {x : JV}, HIw P w blk off xs → xs[i]? = some x →
    ∃ c0 c1 c2 c3 c4, w.cell? ⟨blk, off + i * 5, none⟩ = some c0 ∧ w.cell? ⟨blk, off + i * 5 + 1, none⟩ = some c1 ∧ w.cell? ⟨blk, off + i * 5 + 2, none⟩ = some c2 ∧ w.cell? ⟨blk, off + i * 5 + 3, none⟩ = some c3 ∧ w.cell? ⟨blk, off + i * 5 + 4, none⟩ = some c4 ∧
      w.frozen? ⟨blk, off + i * 5 + 2, none⟩ = false ∧ HCw P w [c0, c1, c2, c3, c4] x
  | [], _, i, _, _, hx => by simp at hx
  | y :: ys, off, 0, x, h, hx => by
    obtain rfl : y = x := by simpa using hx
    unfold HIw at h
    simpa using h.1
  | y :: ys, off, i + 1, x, h, hx => by
    unfold HIw at h
    have := HIw.get h.2 (show ys[i]? = some x by simpa using hx)
    rw [show off + (i + 1) * 5 = off + 5 + i * 5 by omega]
    exact this
theorem HCw.one {P : Nat → Prop} {w : World} {cs : List Value} {x : JV} (h : HCw P w cs x) : ∃ (s : ByteArray) (a b : Option Addr) (ca cb : Nat), cs = [.int .u8 (x.k : Int), .int .i64 x.n, .string s, .slice a x.ns.length ca, .slice b x.is.length cb] ∧ JB x.k x.n [] [] x.is.length ∧ x.ns.length ≤ maxLen ∧
      (x.ns = [] ∨ ∃ blk off, a = some ⟨blk, off, none⟩ ∧ P blk ∧ ∀ i, i < x.ns.length → (∃ s : ByteArray, w.cell? ⟨blk, off + i, none⟩ = some (.string s)) ∧ w.frozen? ⟨blk, off + i, none⟩ = false) ∧
      (x.is = [] ∨ ∃ blk off, b = some ⟨blk, off, none⟩ ∧ P blk ∧ HIw P w blk off x.is) := by
  match x, h with
  | .mk k n t ns is, h => unfold HCw at h; exact h
/-- a text written into P's -/
theorem Sp.set {P : Nat → Prop} {w : World} {b o : Nat} {s : ByteArray} (hp : P b) (hc : w.cell? ⟨b, o, none⟩ = some (.string s)) (t : ByteArray) : Sp P w (w.setCell ⟨b, o, none⟩ (.string t)) := by
  refine ⟨(Below.refl 0 w).setCell (Nat.zero_le _) _, fun b' _ hn => heap_setCell_other w ⟨b, o, none⟩ b' _ fun e => hn (e ▸ hp), fun b' o' c _ hc' => ?_, fun b' o' _ _ => ?_⟩
  · by_cases e : b' = b ∧ o' = o
    · obtain ⟨rfl, rfl⟩ := e
      rw [hc] at hc'
      cases hc'
      exact ⟨_, World.cell?_setCell_same w _ _ hc, .inr ⟨s, t, rfl, rfl⟩⟩
    · exact ⟨c, (World.cell?_setCell_other w _ _ _ fun h => e (by simp only [Addr.mk.injEq] at h; exact ⟨h.1.symm, h.2.1.symm⟩)).trans hc', .inl rfl⟩
  · exact World.frozen?_setCell w _ _ _
end Go.Proofs.Ytcmalaabggohmaa
