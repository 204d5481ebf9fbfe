/-
  Values (api.Value): as trees, and as they lie in memory (5 cells a value: Kind, N, T, Names, Items).
-/
import Derived.Test.YtpifbmcgadjhbaaGreatDoorBase
namespace Go.Proofs.YtpifbmcgadjhbaaGreatDoor
open Go.RowKit

/-- a value -/
inductive JV where
  | mk (k : Nat) (n : Int) (t : List UInt8) (ns : List (List UInt8)) (is : List JV)
namespace JV
def k : JV → Nat | .mk k _ _ _ _ => k
def n : JV → Int | .mk _ n _ _ _ => n
def t : JV → List UInt8 | .mk _ _ t _ _ => t
def ns : JV → List (List UInt8) | .mk _ _ _ ns _ => ns
def is : JV → List JV | .mk _ _ _ _ is => is
end JV
/-- the slice at a holds the texts ns -/
def NS (w : World) (a : Option Addr) (ns : List (List UInt8)) : Prop := ∀ i x, ns[i]? = some x → ∃ b o, a = some ⟨b, o, none⟩ ∧ w.cell? ⟨b, o + i, none⟩ = some (.string (S x))
theorem NS.below {w w' : World} {a : Option Addr} {ns : List (List UInt8)} (h : NS w a ns) (hb : Below w.heap.size w w') : NS w' a ns := fun i x hx => by
  obtain ⟨b, o, h1, h2⟩ := h i x hx
  exact ⟨b, o, h1, (hb.cell (World.block_lt_of_cell? w _ h2)).trans h2⟩
/-- what bounds a value that lies in memory -/
def JB (k : Nat) (n : Int) (t : List UInt8) (ns : List (List UInt8)) (m : Nat) : Prop :=
  k < 256 ∧ (-9223372036854775808 ≤ n ∧ n ≤ 9223372036854775807) ∧ t.length ≤ maxLen ∧ ns.length ≤ maxLen ∧ m ≤ maxLen ∧ ∀ x ∈ ns, x.length ≤ maxLen
mutual
/-- the five cells cs are the value -/
def HC (w : World) (cs : List Value) : JV → Prop
  | .mk k n t ns is => ∃ (a b : Option Addr) (ca cb : Nat), cs = [.int .u8 (k : Int), .int .i64 n, .string (S t), .slice a ns.length ca, .slice b is.length cb] ∧ JB k n t ns is.length ∧ NS w a ns ∧
      (is = [] ∨ ∃ blk off, b = some ⟨blk, off, none⟩ ∧ HI w blk off is)
/-- from off on block blk holds the values -/
def HI (w : World) (blk : Nat) (off : Nat) : List JV → Prop
  | [] => True
  | x :: xs => (∃ c0 c1 c2 c3 c4, w.cell? ⟨blk, off, none⟩ = some c0 ∧ w.cell? ⟨blk, off + 1, none⟩ = some c1 ∧ w.cell? ⟨blk, off + 2, none⟩ = some c2 ∧ w.cell? ⟨blk, off + 3, none⟩ = some c3 ∧ w.cell? ⟨blk, off + 4, none⟩ = some c4 ∧ HC w [c0, c1, c2, c3, c4] x) ∧ HI w blk (off + 5) xs
end
mutual
theorem HC.below {w w' : World} (hb : Below w.heap.size w w') : ∀ (x : JV) (cs : List Value), HC w cs x → HC w' cs x
  | .mk k n t ns is, cs, h => by
    unfold HC at h ⊢
    obtain ⟨a, b, ca, cb, h1, h2, h3, h4⟩ := h
    refine ⟨a, b, ca, cb, h1, h2, h3.below hb, ?_⟩
    rcases h4 with h4 | ⟨blk, off, h5, h6⟩
    · exact .inl h4
    · exact .inr ⟨blk, off, h5, HI.below hb is blk off h6⟩
theorem HI.below {w w' : World} (hb : Below w.heap.size w w') : ∀ (xs : List JV) (blk off : Nat), HI w blk off xs → HI w' blk off xs
  | [], _, _, _ => by unfold HI; trivial
  | x :: xs, blk, off, h => by
    unfold HI at h ⊢
    obtain ⟨⟨c0, c1, c2, c3, c4, g0, g1, g2, g3, g4, hc⟩, hr⟩ := h
    have hk : ∀ {o : Nat} {c : Value}, w.cell? ⟨blk, o, none⟩ = some c → w'.cell? ⟨blk, o, none⟩ = some c := fun hg => (hb.cell (World.block_lt_of_cell? w _ hg)).trans hg
    exact ⟨⟨c0, c1, c2, c3, c4, hk g0, hk g1, hk g2, hk g3, hk g4, HC.below hb x _ hc⟩, HI.below hb xs blk (off + 5) hr⟩
end
theorem HI.get {w : World} {blk : Nat} : ∀ {xs : List JV} {off i : Nat} {x : JV}, HI w blk off xs → xs[i]? = some x →
    ∃ c0 c1 c2 c3 c4, w.cell? ⟨blk, off + i * 5, none⟩ = some c0 ∧ w.cell? ⟨blk, off + i * 5 + 1, none⟩ = some c1 ∧ w.cell? ⟨blk, off + i * 5 + 2, none⟩ = some c2 ∧ w.cell? ⟨blk, off + i * 5 + 3, none⟩ = some c3 ∧ w.cell? ⟨blk, off + i * 5 + 4, none⟩ = some c4 ∧ HC w [c0, c1, c2, c3, c4] x
  | [], _, i, _, _, hx => by simp at hx
  | y :: ys, off, 0, x, h, hx => by
    obtain rfl : y = x := by simpa using hx
    unfold HI at h
    simpa using h.1
  | y :: ys, off, i + 1, x, h, hx => by
    unfold HI at h
    have := HI.get h.2 (show ys[i]? = some x by simpa using hx)
    rw [show off + (i + 1) * 5 = off + 5 + i * 5 by omega]
    exact this
/-- the cells of a value, as a walk wants them -/
theorem HC.form {w : World} {cs : List Value} {x : JV} (h : HC w cs x) : ∃ (a b : Option Addr) (ca cb : Nat), cs = [.int .u8 (x.k : Int), .int .i64 x.n, .string (S x.t), .slice a x.ns.length ca, .slice b x.is.length cb] ∧ JB x.k x.n x.t x.ns x.is.length ∧ NS w a x.ns ∧
      (x.is = [] ∨ ∃ blk off, b = some ⟨blk, off, none⟩ ∧ HI w blk off x.is) := by
  match x, h with
  | .mk k n t ns is, h => unfold HC at h; exact h
/-- v is the value x -/
def HV (w : World) (v : Value) (x : JV) : Prop := ∃ cs, v = .agg cs.toArray ∧ HC w cs x
theorem HV.below {w w' : World} {v : Value} {x : JV} (h : HV w v x) (hb : Below w.heap.size w w') : HV w' v x := by
  obtain ⟨cs, h1, h2⟩ := h
  exact ⟨cs, h1, HC.below hb x cs h2⟩
namespace JV
mutual
/-- of how many values it consists -/
def cnt : JV → Nat
  | .mk _ _ _ _ is => 1 + cnts is
def cnts : List JV → Nat
  | [] => 0
  | x :: xs => cnt x + cnts xs
end
mutual
def dep : JV → Nat
  | .mk k _ _ _ is => if k = 4 ∨ k = 5 then deps is + 1 else 0
def deps : List JV → Nat
  | [] => 0
  | x :: xs => max (dep x) (deps xs)
end
theorem cnt_pos : ∀ x : JV, 1 ≤ cnt x
  | .mk _ _ _ _ is => by unfold cnt; omega
theorem cnts_get : ∀ {xs : List JV} {i : Nat} {x : JV}, xs[i]? = some x → cnt x ≤ cnts xs
  | [], i, x, h => by simp at h
  | y :: ys, 0, x, h => by
    obtain rfl : y = x := by simpa using h
    unfold cnts
    omega
  | y :: ys, i + 1, x, h => by
    have := cnts_get (show ys[i]? = some x by simpa using h)
    unfold cnts
    omega
theorem cnt_item {v x : JV} {i : Nat} (h : v.is[i]? = some x) : cnt x < cnt v := by
  match v, h with
  | .mk k n t ns is, h =>
    have h2 : cnt x ≤ cnts is := cnts_get h
    rw [show cnt (.mk k n t ns is) = 1 + cnts is by rw [cnt]]
    omega
theorem cnts_snoc : ∀ (xs : List JV) (x : JV), cnts (xs ++ [x]) = cnts xs + cnt x
  | [], x => by simp [cnts]
  | y :: ys, x => by
    rw [List.cons_append, cnts, cnts, cnts_snoc ys x]
    omega
theorem deps_snoc : ∀ (xs : List JV) (x : JV), deps (xs ++ [x]) = max (deps xs) (dep x)
  | [], x => by simp [deps]
  | y :: ys, x => by
    rw [List.cons_append, deps, deps, deps_snoc ys x]
    omega
end JV
end Go.Proofs.YtpifbmcgadjhbaaGreatDoor
