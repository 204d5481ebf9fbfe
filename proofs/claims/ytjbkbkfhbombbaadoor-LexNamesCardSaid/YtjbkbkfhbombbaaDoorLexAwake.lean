/-
  What the program's lex tells, as the laws ask it; the laws' awake.
-/
import Derived.Test.YtjbkbkfhbombbaaDoorLexProg
namespace Go.Proofs.YtjbkbkfhbombbaaDoor
open Go.RowKit

theorem all_ok {l : List UInt8} {m : Lm.Mark} {ms : List Lm.Mark} (w : World) (hT : TabL w) (hl : l.length ≤ 50000000) (h : Lm.ALL l = (m :: ms, 0, 0)) :
    Calls Tryd.prog 9 #[.string (S l)] w fun e w' => ∃ g cap, e = .returned (.tuple #[.slice (some ⟨g, 0, none⟩) (ms.length + 1) cap, .int .i64 0, .int .i64 0]) ∧ w.heap.size ≤ g ∧ RowAt w' g (m :: ms) ∧ Below w.heap.size w w' := by
  refine (lexAll_any l w hT hl).mono ?_
  rintro e w' ⟨v, rfl, ho, hb⟩
  rw [h] at ho ⊢
  obtain ⟨g, cap, rfl, h1, h2⟩ := row_form ho (Nat.succ_pos _)
  exact ⟨g, cap, rfl, h1, h2, hb⟩
theorem all_no {l : List UInt8} {q c : Nat} {qI cI : Int} (w : World) (hT : TabL w) (hl : l.length ≤ 50000000) (h : Lm.ALL l = ([], q, c)) (hq : qI = (q : Int)) (hc : cI = (c : Int)) :
    Calls Tryd.prog 9 #[.string (S l)] w fun e w' => ∃ p k, e = .returned (.tuple #[.slice p 0 k, .int .i64 qI, .int .i64 cI]) ∧ Below w.heap.size w w' := by
  subst hq hc
  refine (lexAll_any l w hT hl).mono ?_
  rintro e w' ⟨v, rfl, ho, hb⟩
  rw [h] at ho ⊢
  obtain ⟨p, k, rfl⟩ := row_none ho
  exact ⟨p, k, rfl, hb⟩
theorem next_is {l : List UInt8} {a : Int} {k x y : Nat} {n : Int} {t : List UInt8} {c : Nat} {kI xI yI cI : Int} (w : World) (hT : TabL w) (hl : l.length ≤ 50000000) (h : Lm.NEXT l a = (⟨k, x, y, n, t⟩, c)) (hk : kI = (k : Int)) (hx : xI = (x : Int)) (hy : yI = (y : Int)) (hc : cI = (c : Int)) :
    Calls Tryd.prog 10 #[.string (S l), .int .i64 a] w fun e w' => e = .returned (.tuple #[.agg #[.int .u8 kI, .int .i64 xI, .int .i64 yI, .int .i64 n, .string (S t)], .int .i64 cI]) ∧ Below w.heap.size w w' := by
  subst hk hx hy hc
  refine (lexNext_any l a w hT hl).mono ?_
  rintro e w' ⟨rfl, hb⟩
  rw [h]
  exact ⟨rfl, hb⟩
namespace Lm
theorem ex1 : ALL [123, 32, 34, 97, 34, 32, 58, 49, 125] = ([⟨1, 0, 1, 0, []⟩, ⟨10, 2, 5, 0, [97]⟩, ⟨6, 6, 7, 0, []⟩, ⟨9, 7, 8, 1, []⟩, ⟨2, 8, 9, 0, []⟩, ⟨11, 9, 9, 0, []⟩], 0, 0) := by kernel_rfl
theorem ex2 : NEXT [116, 114, 117, 101, 120] 0 = (⟨0, 0, 0, 0, []⟩, 3) := by kernel_rfl
theorem ex3 : ALL [91, 49, 46, 53, 93] = ([], 1, 3) := by kernel_rfl
theorem ex4 : ALL [32] = ([⟨11, 1, 1, 0, []⟩], 0, 0) := by kernel_rfl
end Lm
set_option maxHeartbeats 4000000 in
set_option maxRecDepth 3000 in
theorem awake_any (w : World) (hT : TabL w) :
    Calls Tryd.prog 8 #[] w fun e w' => e = .returned (.bool true) ∧ Below w.heap.size w w' := by
  go_enter Tryd.func8, Tryd.ntmps8
  go_wp2_with fail
  refine (all_ok _ hT (by decide) Lm.ex1).mono ?_; rintro e w1 ⟨g, cap, rfl, _, R1, b1⟩
  have T1 := hT.below b1
  go_wp2_with fail
  refine (next_is _ T1 (by decide) Lm.ex2 rfl rfl rfl rfl).mono ?_; rintro e w2 ⟨rfl, b2⟩
  have R2 := R1.below b2
  have T2 := T1.below b2
  have c2 := b1.trans (b2.mono b1.size)
  clear R1 T1 b1 b2
  go_wp2_with fail
  have c3 : Below w2.heap.size w2 (w2.alloc (.cells #[.int .u8 0, .int .i64 0, .int .i64 0, .int .i64 0, .string (S [])] 28)) := (Below.refl _ _).alloc (Nat.le_refl _) _
  generalize w2.alloc (.cells #[.int .u8 0, .int .i64 0, .int .i64 0, .int .i64 0, .string (S [])] 28) = W2 at c3 ⊢
  have R3 := R2.below c3
  have T3 := T2.below c3
  have c4 := c2.trans (c3.mono c2.size)
  clear R2 T2 c2 c3
  refine (all_no _ T3 (by decide) Lm.ex3 (qI := 1) (cI := 3) rfl rfl).mono ?_; rintro e w3 ⟨p, k, rfl, b3⟩
  have R4 := R3.below b3
  have T4 := T3.below b3
  have c5 := c4.trans (b3.mono c4.size)
  clear R3 T3 c4 b3
  go_wp2_with fail
  refine (all_ok _ T4 (by decide) Lm.ex4).mono ?_; rintro e w4 ⟨g4, cap4, rfl, _, _, b4⟩
  have R5 := R4.below b4
  have c6 := c5.trans (b4.mono c5.size)
  clear R4 T4 c5 b4
  have f0 : w4.cell? ⟨g, 0, none⟩ = some (.int .u8 1) := R5.2 0 _ rfl
  have f5 : w4.cell? ⟨g, 5, none⟩ = some (.int .u8 10) := R5.2 5 _ rfl
  have f6 : w4.cell? ⟨g, 6, none⟩ = some (.int .i64 2) := R5.2 6 _ rfl
  have f7 : w4.cell? ⟨g, 7, none⟩ = some (.int .i64 5) := R5.2 7 _ rfl
  have f9 : w4.cell? ⟨g, 9, none⟩ = some (.string ⟨#[97]⟩) := R5.2 9 _ rfl
  have f10 : w4.cell? ⟨g, 10, none⟩ = some (.int .u8 6) := R5.2 10 _ rfl
  have f15 : w4.cell? ⟨g, 15, none⟩ = some (.int .u8 9) := R5.2 15 _ rfl
  have f18 : w4.cell? ⟨g, 18, none⟩ = some (.int .i64 1) := R5.2 18 _ rfl
  have f20 : w4.cell? ⟨g, 20, none⟩ = some (.int .u8 2) := R5.2 20 _ rfl
  have f25 : w4.cell? ⟨g, 25, none⟩ = some (.int .u8 11) := R5.2 25 _ rfl
  clear R5
  go_wp2_with fail
  go_ret
  exact ⟨rfl, c6⟩
theorem awake_from {w0 : World} (w : World) (hT : TabL w) (h : Below w0.heap.size w0 w) :
    Calls Tryd.prog 8 #[] w fun e w' => e = .returned (.bool true) ∧ Below w0.heap.size w0 w' := from_ h (awake_any w hT)
end Go.Proofs.YtjbkbkfhbombbaaDoor
