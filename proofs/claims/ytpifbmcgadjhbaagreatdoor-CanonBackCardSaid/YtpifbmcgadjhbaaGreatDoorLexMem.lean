/-
  Rows of marks in memory (5 cells a mark).
-/
import Derived.Test.YtpifbmcgadjhbaaGreatDoorLexAll
import Derived.Deep.AppendLies
import Derived.Deep.MidRow
namespace Go.Proofs.YtpifbmcgadjhbaaGreatDoor
open Go.RowKit

/-- the program's All's answer: the row is the call's own -/
def PAt (B : Nat) (w0 : World) (r : List Lm.Mark × Nat × Nat) (e : Ending) (w : World) : Prop :=
  ∃ v, e = .returned (.tuple #[v, .int .i64 (r.2.1 : Int), .int .i64 (r.2.2 : Int)]) ∧ w.ownsRow B 85 5 v r.1.length (Lm.MC r.1) ∧ Below B w0 w
/-- block g holds the marks ms -/
def RowAt (w : World) (g : Nat) (ms : List Lm.Mark) : Prop := g < w.heap.size ∧ ∀ j u, (Lm.MC ms)[j]? = some u → w.cell? ⟨g, j, none⟩ = some u
theorem RowAt.below {w w' : World} {g : Nat} {ms : List Lm.Mark} (h : RowAt w g ms) (hb : Below w.heap.size w w') : RowAt w' g ms :=
  ⟨Nat.lt_of_lt_of_le h.1 hb.size, fun j u hu => (World.cell?_of_block (a := ⟨g, j, none⟩) (hb.block g h.1)).trans (h.2 j u hu)⟩
theorem RowAt.drew {w : World} {g : Nat} {ms : List Lm.Mark} (h : RowAt w g ms) : RowAt w.drew g ms := h
theorem row_form {w : World} {B : Nat} {v : Value} {n : Nat} {ms : List Lm.Mark} {e : TypeId} (h : w.ownsRow B e 5 v n (Lm.MC ms)) (hn : 0 < n) : ∃ g cap, v = .slice (some ⟨g, 0, none⟩) n cap ∧ B ≤ g ∧ RowAt w g ms := by
  obtain ⟨g, cap, rfl, hb, hl⟩ := h.form hn
  refine ⟨g, cap, rfl, hb, hl, fun j u hu => ?_⟩
  have := h.cells (g := g) rfl j u hu
  rwa [Addr.add_mid, Nat.zero_add] at this
theorem row_none {w : World} {B : Nat} {v : Value} {n : Nat} {xs : List Value} {e : TypeId} (h : w.ownsRow B e 5 v n xs) : ∃ p c, v = .slice p n c := by
  rcases h.2 with ⟨rfl, rfl⟩ | ⟨g, c, cur, rfl, _⟩
  · exact ⟨none, 0, rfl⟩
  · exact ⟨_, c, rfl⟩
/-- a mark's cells -/
def MC1 (m : Lm.Mark) : List Value := [.int .u8 (m.k : Int), .int .i64 (m.a : Int), .int .i64 (m.b : Int), .int .i64 m.n, .string (S m.t)]
theorem MC_get : ∀ (ms : List Lm.Mark) (i : Nat) (m : Lm.Mark), ms[i]? = some m → ∀ (j : Nat) (u : Value), (MC1 m)[j]? = some u → (Lm.MC ms)[5 * i + j]? = some u
  | [], i, m, h, _, _, _ => by simp at h
  | x :: xs, 0, m, h, j, u, hj => by
    obtain rfl : x = m := by simpa using h
    show (MC1 x ++ Lm.MC xs)[5 * 0 + j]? = some u
    rw [Nat.mul_zero, Nat.zero_add, List.getElem?_append_left (List.getElem?_eq_some_iff.1 hj).1]
    exact hj
  | x :: xs, i + 1, m, h, j, u, hj => by
    show (MC1 x ++ Lm.MC xs)[5 * (i + 1) + j]? = some u
    rw [List.getElem?_append_right (show (MC1 x).length ≤ _ by show 5 ≤ _; omega), show 5 * (i + 1) + j - (MC1 x).length = 5 * i + j by show 5 * (i + 1) + j - 5 = _; omega]
    exact MC_get xs i m (by simpa using h) j u hj
theorem RowAt.range {w : World} {g : Nat} {ms : List Lm.Mark} (h : RowAt w g ms) {i : Nat} {m : Lm.Mark} (hm : ms[i]? = some m) : w.rangeAt g (5 * i) (MC1 m) :=
  fun j u hu => h.2 _ u (MC_get ms i m hm j u hu)
theorem RowAt.five {w : World} {g : Nat} {ms : List Lm.Mark} (h : RowAt w g ms) {i : Nat} {m : Lm.Mark} (hm : ms[i]? = some m) {k a b : Int} (hk : k = (m.k : Int)) (ha : a = (m.a : Int)) (hb : b = (m.b : Int)) :
    w.cell? ⟨g, i * 5, none⟩ = some (.int .u8 k) ∧ w.cell? ⟨g, i * 5 + 1, none⟩ = some (.int .i64 a) ∧ w.cell? ⟨g, i * 5 + 2, none⟩ = some (.int .i64 b) ∧ w.cell? ⟨g, i * 5 + 3, none⟩ = some (.int .i64 m.n) ∧ w.cell? ⟨g, i * 5 + 4, none⟩ = some (.string (S m.t)) := by
  subst hk ha hb
  have hr := h.range hm
  rw [Nat.mul_comm 5 i] at hr
  exact ⟨hr 0 _ rfl, hr 1 _ rfl, hr 2 _ rfl, hr 3 _ rfl, hr 4 _ rfl⟩
/-- block b holds one mark -/
def MkAt (b : Nat) (w : World) (a0 a1 a2 a3 a4 : Value) : Prop := w.heap[b]? = some (.cells #[a0, a1, a2, a3, a4] 85 (0, 0))
theorem MkAt.below {b : Nat} {w w' : World} {a0 a1 a2 a3 a4 : Value} (h : MkAt b w a0 a1 a2 a3 a4) (hb : Below w.heap.size w w') : MkAt b w' a0 a1 a2 a3 a4 := (hb.block b (Array.getElem?_eq_some_iff.1 h).1).trans h
theorem MkAt.cells {b : Nat} {w : World} {a0 a1 a2 a3 a4 : Value} (h : MkAt b w a0 a1 a2 a3 a4) : (w.cell? ⟨b, 0, none⟩ = some a0 ∧ w.cell? ⟨b, 1, none⟩ = some a1 ∧ w.cell? ⟨b, 2, none⟩ = some a2 ∧ w.cell? ⟨b, 3, none⟩ = some a3 ∧ w.cell? ⟨b, 4, none⟩ = some a4)
    ∧ ∀ o, w.frozen? ⟨b, o, none⟩ = false := by
  refine ⟨⟨?_, ?_, ?_, ?_, ?_⟩, fun o => ?_⟩
  all_goals first | (rw [cell_of_row w b _ _ _ _ h]; rfl) | (unfold World.frozen?; rw [show w.heap[b]? = _ from h]; simp)
theorem MkAt.new (w : World) (a0 a1 a2 a3 a4 : Value) : MkAt w.heap.size (w.alloc (.cells #[a0, a1, a2, a3, a4] 85)) a0 a1 a2 a3 a4 := heap_alloc_new w _
theorem RowAt.set {w : World} {g b i : Nat} {ms : List Lm.Mark} (h : RowAt w g ms) (hne : g ≠ b) (v : Value) : RowAt (w.setCell ⟨b, i, none⟩ v) g ms :=
  ⟨by rw [World.size_setCell]; exact h.1, fun j u hu => (World.cell?_of_block (a := ⟨g, j, none⟩) (Below.heap_setCell w ⟨b, i, none⟩ v g hne)).trans (h.2 j u hu)⟩
theorem MkAt.move {b : Nat} {w : World} {a0 a1 a2 a3 a4 : Value} (h : MkAt b w a0 a1 a2 a3 a4) (x y : Value) : MkAt b ((w.setCell ⟨b, 1, none⟩ x).setCell ⟨b, 2, none⟩ y) a0 x y a3 a4 :=
  heap_setCell_same _ b 2 _ _ y (heap_setCell_same w b 1 _ _ x h)
end Go.Proofs.YtpifbmcgadjhbaaGreatDoor
