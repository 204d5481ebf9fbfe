/-
  What the laws' num, text, yes, list and obj come to.
  Rows of values, and of names, as literals and appends lay them.
-/
import Derived.Test.YtpifbmcgadjhbaaDoorValRefGet
import Derived.Laws.AppendOwn
namespace Go.Proofs.YtpifbmcgadjhbaaDoor
section
open Go.RowKit

theorem results_one {fn : Func} {t : Tmp} (h : fn.results = #[.cell t 25]) (tmps : Array Value) (w : World) {b : Nat} {m : Array Value} {fr : Nat × Nat}
    (ht : tmps.getD t undef = .pointer (some ⟨b, 0, none⟩)) (hg : w.heap[b]? = some (.cells m 25 fr)) (hm : m.size = 5) :
    (results fn tmps).run Tryd.prog w = .ok (.agg m) w := by
  have hl := run_loadVar_row (P := Tryd.prog) w b 25 25 m fr _ hg Tryd.underlying25 rfl (by rw [hm]; exact value_size)
  have ht' : tmps[t]?.getD undef = .pointer (some ⟨b, 0, none⟩) := by rw [← Array.getD_eq_getD_getElem?]; exact ht
  simp [results, h, ht', asAddr, hl]
/-- a value of whose slices it is known where they lie -/
theorem HV.of (w : World) (k : Nat) (n : Int) (t : List UInt8) (ns : List (List UInt8)) (is : List JV) (a b : Option Addr) (ca cb : Nat) (hB : JB k n t ns is.length) (hN : NS w a ns) (hI : is = [] ∨ ∃ blk off, b = some ⟨blk, off, none⟩ ∧ HI w blk off is) :
    HV w (.agg #[.int .u8 (k : Int), .int .i64 n, .string (S t), .slice a ns.length ca, .slice b is.length cb]) (.mk k n t ns is) := by
  refine ⟨_, rfl, ?_⟩
  unfold HC
  exact ⟨a, b, ca, cb, rfl, hB, hN, hI⟩
theorem NS.nil (w : World) (a : Option Addr) : NS w a [] := fun i x h => by simp at h
namespace JV
def num (n : Int) : JV := .mk 2 n [] [] []
def text (t : List UInt8) : JV := .mk 3 0 t [] []
def yes : JV := .mk 1 1 [] [] []
def list (is : List JV) : JV := .mk 4 0 [] [] is
def obj (ns : List (List UInt8)) (is : List JV) : JV := .mk 5 0 [] ns is
end JV
end

section
open Go.RowKit

/-- cs are the cells of the values -/
def HCS (w : World) : List Value → List JV → Prop
  | cs, [] => cs = []
  | cs, x :: xs => ∃ c0 c1 c2 c3 c4 r, cs = c0 :: c1 :: c2 :: c3 :: c4 :: r ∧ HC w [c0, c1, c2, c3, c4] x ∧ HCS w r xs
theorem HCS.below {w w' : World} (hb : Below w.heap.size w w') : ∀ (xs : List JV) (cs : List Value), HCS w cs xs → HCS w' cs xs
  | [], _, h => h
  | x :: xs, _, ⟨c0, c1, c2, c3, c4, r, h1, h2, h3⟩ => ⟨c0, c1, c2, c3, c4, r, h1, HC.below hb x _ h2, HCS.below hb xs r h3⟩
theorem HCS.len {w : World} : ∀ {xs : List JV} {cs : List Value}, HCS w cs xs → cs.length = xs.length * 5
  | [], _, h => by rw [show _ = [] from h]; rfl
  | x :: xs, _, ⟨c0, c1, c2, c3, c4, r, h1, _, h3⟩ => by
    rw [h1]
    simp only [List.length_cons, HCS.len h3]
    omega
theorem HCS.nil (w : World) : HCS w [] [] := rfl
theorem HCS.snoc {w : World} {x : JV} {c0 c1 c2 c3 c4 : Value} (hx : HC w [c0, c1, c2, c3, c4] x) : ∀ {xs : List JV} {cs : List Value}, HCS w cs xs → HCS w (cs ++ [c0, c1, c2, c3, c4]) (xs ++ [x])
  | [], _, h => by
    rw [show _ = [] from h]
    exact ⟨c0, c1, c2, c3, c4, [], rfl, hx, rfl⟩
  | y :: ys, _, ⟨d0, d1, d2, d3, d4, r, h1, h2, h3⟩ => by
    rw [h1]
    exact ⟨d0, d1, d2, d3, d4, r ++ [c0, c1, c2, c3, c4], rfl, h2, HCS.snoc hx h3⟩
theorem HCS.one {w : World} {x : JV} {c0 c1 c2 c3 c4 : Value} (hx : HC w [c0, c1, c2, c3, c4] x) : HCS w [c0, c1, c2, c3, c4] [x] := HCS.snoc hx (HCS.nil w)
/-- cells that lie in a row are the values that lie there -/
theorem HI.of_cells {w : World} {blk : Nat} : ∀ {xs : List JV} {cs : List Value} {off : Nat}, HCS w cs xs → (∀ j c, cs[j]? = some c → w.cell? ⟨blk, off + j, none⟩ = some c) → HI w blk off xs
  | [], _, _, _, _ => by unfold HI; trivial
  | x :: xs, _, off, ⟨c0, c1, c2, c3, c4, r, h1, h2, h3⟩, h => by
    subst h1
    unfold HI
    refine ⟨⟨c0, c1, c2, c3, c4, h 0 c0 rfl, h 1 c1 rfl, h 2 c2 rfl, h 3 c3 rfl, h 4 c4 rfl, h2⟩, HI.of_cells h3 fun j c hj => ?_⟩
    have := h (j + 5) c (by simpa using hj)
    rw [show off + (j + 5) = off + 5 + j by omega] at this
    exact this
/-- the cells of names -/
def NC (ns : List (List UInt8)) : List Value := ns.map fun l => .string (S l)
theorem NC_snoc (ns : List (List UInt8)) (l : List UInt8) : NC (ns ++ [l]) = NC ns ++ [.string (S l)] := by simp [NC]
theorem NS.of_cells {w : World} {blk off : Nat} {ns : List (List UInt8)} (h : ∀ j c, (NC ns)[j]? = some c → w.cell? ⟨blk, off + j, none⟩ = some c) : NS w (some ⟨blk, off, none⟩) ns := fun i x hx =>
  ⟨blk, off, rfl, h i _ (by simp [NC, hx])⟩
/-- a row of the call's own, of names -/
theorem NS.of_own {w : World} {B : Nat} {e : TypeId} {v : Value} {ns : List (List UInt8)} (h : w.ownsRow B e 1 v ns.length (NC ns)) : ∃ a ca, v = .slice a ns.length ca ∧ NS w a ns := by
  obtain ⟨hc, hv⟩ := id h
  rcases ns with _ | ⟨n, ns⟩
  · rcases hv with ⟨rfl, _⟩ | ⟨g, cap, _, rfl, _⟩
    · exact ⟨none, 0, rfl, NS.nil _ _⟩
    · exact ⟨_, cap, rfl, NS.nil _ _⟩
  · rcases hv with ⟨_, h0⟩ | ⟨g, cap, _, rfl, _⟩
    · simp at h0
    · refine ⟨_, cap, rfl, NS.of_cells fun j c hj => ?_⟩
      have := h.cells (g := g) rfl j c hj
      rw [Nat.zero_add]
      rw [show ((⟨g, 0, none⟩ : Addr).add j) = ⟨g, j, none⟩ by simp [Addr.add]; omega] at this
      exact this
/-- a row of the call's own, of values -/
theorem HI.of_own {w : World} {B : Nat} {e : TypeId} {v : Value} {is : List JV} {cs : List Value} (h : w.ownsRow B e 5 v is.length cs) (hh : HCS w cs is) : ∃ b cb, v = .slice b is.length cb ∧ (is = [] ∨ ∃ blk off, b = some ⟨blk, off, none⟩ ∧ HI w blk off is) := by
  obtain ⟨hc, hv⟩ := id h
  rcases is with _ | ⟨n, ns⟩
  · rcases hv with ⟨rfl, _⟩ | ⟨g, cap, _, rfl, _⟩
    · exact ⟨none, 0, rfl, .inl rfl⟩
    · exact ⟨_, cap, rfl, .inl rfl⟩
  · rcases hv with ⟨_, h0⟩ | ⟨g, cap, _, rfl, _⟩
    · simp at h0
    · refine ⟨_, cap, rfl, .inr ⟨g, 0, rfl, HI.of_cells hh fun j c hj => ?_⟩⟩
      have := h.cells (g := g) rfl j c hj
      rw [Nat.zero_add]
      rw [show ((⟨g, 0, none⟩ : Addr).add j) = ⟨g, j, none⟩ by simp [Addr.add]; omega] at this
      exact this
/-- values on a block just laid -/
theorem HI.of_block {w : World} {b : Nat} {cs : List Value} {e : TypeId} {fr : Nat × Nat} {is : List JV} (hb : w.heap[b]? = some (.cells cs.toArray e fr)) (hh : HCS w cs is) : HI w b 0 is :=
  HI.of_cells hh fun j c hj => by
    rw [Nat.zero_add]
    rw [cell_of_row w b j _ _ _ hb]
    simpa using hj
theorem NS.of_block {w : World} {b : Nat} {e : TypeId} {fr : Nat × Nat} {ns : List (List UInt8)} (hb : w.heap[b]? = some (.cells (NC ns).toArray e fr)) : NS w (some ⟨b, 0, none⟩) ns :=
  NS.of_cells fun j c hj => by
    rw [Nat.zero_add]
    rw [cell_of_row w b j _ _ _ hb]
    simpa using hj
end
end Go.Proofs.YtpifbmcgadjhbaaDoor
