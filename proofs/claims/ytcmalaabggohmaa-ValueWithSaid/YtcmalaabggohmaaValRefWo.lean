/-
  What the document's Without comes to.
-/
import Derived.Test.YtcmalaabggohmaaValApp2
namespace Go.Proofs.Ytcmalaabggohmaa
open Go.RowKit

namespace JV
/-- the names, and their Items, but for one name -/
def keep : List (List UInt8) → List JV → List UInt8 → List (List UInt8) × List JV
  | n :: ns, y :: ys, l => if n = l then keep ns ys l else (n :: (keep ns ys l).1, y :: (keep ns ys l).2)
  | _, _, _ => ([], [])
theorem keep_snoc (n : List UInt8) (y : JV) (l : List UInt8) : ∀ (ns : List (List UInt8)) (ys : List JV), ns.length = ys.length →
    keep (ns ++ [n]) (ys ++ [y]) l = if n = l then keep ns ys l else ((keep ns ys l).1 ++ [n], (keep ns ys l).2 ++ [y])
  | [], [], _ => by simp [keep]
  | m :: ns, z :: ys, h => by
    have := keep_snoc n y l ns ys (by simpa using h)
    rw [List.cons_append, List.cons_append, keep, keep, this]
    by_cases h1 : m = l
    · simp [h1]
    · by_cases h2 : n = l
      · simp [h1, h2]
      · simp [h1, h2]
theorem keep_len (l : List UInt8) : ∀ (ns : List (List UInt8)) (ys : List JV), (keep ns ys l).1.length = (keep ns ys l).2.length ∧ (keep ns ys l).1.length ≤ ns.length
  | [], ys => by cases ys <;> simp [keep]
  | n :: ns, [] => by simp [keep]
  | n :: ns, y :: ys => by
    have := keep_len l ns ys
    rw [keep]
    by_cases h : n = l
    · rw [if_pos h]; exact ⟨this.1, by rw [List.length_cons]; omega⟩
    · rw [if_neg h]; simp only [List.length_cons]; omega
theorem keep_mem (l : List UInt8) : ∀ (ns : List (List UInt8)) (ys : List JV) (x : List UInt8), x ∈ (keep ns ys l).1 → x ∈ ns
  | [], ys, x, h => by cases ys <;> simp [keep] at h
  | n :: ns, [], x, h => by simp [keep] at h
  | n :: ns, y :: ys, x, h => by
    rw [keep] at h
    by_cases h1 : n = l
    · rw [if_pos h1] at h; exact List.mem_cons_of_mem _ (keep_mem l ns ys x h)
    · rw [if_neg h1] at h
      rcases List.mem_cons.1 h with h2 | h2
      · rw [h2]; exact List.mem_cons_self
      · exact List.mem_cons_of_mem _ (keep_mem l ns ys x h2)
/-- what Without gives -/
def without (x : JV) (l : List UInt8) : JV × Bool :=
  if x.k = 5 ∧ x.ns.length = x.is.length then (.mk 5 x.n x.t (keep x.ns x.is l).1 (keep x.ns x.is l).2, decide ((keep x.ns x.is l).1.length < x.ns.length)) else (x, false)
end JV
/-- what the loop keeps: nothing of what came in has turned; the new value's block; its rows are the call's own -/
structure WoI (w wr : World) (x : JV) (l : List UInt8) (nI : Int) (t : List UInt8) (i : Nat) (v0 v1 v2 v3 v4 : Value) : Prop where
  below : Below w.heap.size w wr
  hv : VAt w.heap.size wr v0 v1 v2 v3 v4
  hr : VAt (w.heap.size + 1) wr (.int .u8 0) (.int .i64 0) (.string ⟨#[]⟩) (.slice none 0 0) (.slice none 0 0)
  size : w.heap.size + 3 ≤ wr.heap.size
  own : ∃ nv xv cs, VAt (w.heap.size + 2) wr (.int .u8 5) (.int .i64 nI) (.string (S t)) nv xv ∧ wr.ownsRow (w.heap.size + 3) 9 1 nv (JV.keep (x.ns.take i) (x.is.take i) l).1.length (NC (JV.keep (x.ns.take i) (x.is.take i) l).1) ∧
    wr.ownsRow (w.heap.size + 3) 25 5 xv (JV.keep (x.ns.take i) (x.is.take i) l).2.length cs ∧ HCS w cs (JV.keep (x.ns.take i) (x.is.take i) l).2
theorem Kb.below {ob : Nat} {g : Option Nat} {w w1 w2 : World} (h : Kb ob g w1 w2) (hb : Below w.heap.size w w1) (ho : w.heap.size ≤ ob) (hg : ∀ k, g = some k → w.heap.size ≤ k) : Below w.heap.size w w2 :=
  ⟨h.os.trans hb.os, h.tape.trans hb.tape, h.output.trans hb.output, Nat.le_trans hb.size h.size, fun k hk => (h.block k (Nat.lt_of_lt_of_le hk hb.size) (by omega) (fun e => by have := hg k e.symm; omega)).trans (hb.block k hk)⟩
theorem Kb.vat {ob b : Nat} {g : Option Nat} {w1 w2 : World} {a0 a1 a2 a3 a4 : Value} (h : Kb ob g w1 w2) (hv : VAt b w1 a0 a1 a2 a3 a4) (hb : b ≠ ob) (hg : some b ≠ g) : VAt b w2 a0 a1 a2 a3 a4 :=
  (h.block b (Array.getElem?_eq_some_iff.1 hv).1 hb hg).trans hv
/-- a row of the call's own is kept, if its block is another one -/
theorem Kb.own {ob : Nat} {g : Option Nat} {w1 w2 : World} {B : Nat} {e : TypeId} {sz : Nat} {v : Value} {n : Nat} {xs : List Value} (h : Kb ob g w1 w2) (ho : w1.ownsRow B e sz v n xs) (hb : ob < B) (hne : ∀ k, v.ownBlock = some k → some k ≠ g) : w2.ownsRow B e sz v n xs := by
  obtain ⟨h1, h2⟩ := id ho
  refine ⟨h1, ?_⟩
  rcases h2 with h2 | ⟨gg, cap, cur, rfl, h3, h4, h5⟩
  · exact .inl h2
  · exact .inr ⟨gg, cap, cur, rfl, h3, (h.block gg (Array.getElem?_eq_some_iff.1 h4).1 (by omega) (hne gg rfl)).trans h4, h5⟩
/-- rows of two kinds lie on two blocks -/
theorem own_apart {w : World} {B B' : Nat} {e e' : TypeId} {sz sz' n n' : Nat} {v v' : Value} {xs xs' : List Value} (h : w.ownsRow B e sz v n xs) (h' : w.ownsRow B' e' sz' v' n' xs') (he : e ≠ e') : ∀ k, v.ownBlock = some k → some k ≠ v'.ownBlock := fun k hk e => by
  obtain ⟨c, fz, h1⟩ := Lib.ownsRow_kind h k hk
  obtain ⟨c', fz', h2⟩ := Lib.ownsRow_kind h' k e.symm
  rw [h1] at h2
  simp only [Option.some.injEq, Obj.cells.injEq] at h2
  exact he h2.2.1
end Go.Proofs.Ytcmalaabggohmaa
