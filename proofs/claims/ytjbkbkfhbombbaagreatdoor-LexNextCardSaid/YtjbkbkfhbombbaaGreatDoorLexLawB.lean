/-
  The law LexNext.
-/
import Derived.Test.YtjbkbkfhbombbaaGreatDoorLexAwake
import Derived.Test.YtjbkbkfhbombbaaGreatDoorLexRefNext
namespace Go.Proofs.YtjbkbkfhbombbaaGreatDoor
open Go.RowKit

theorem new_cells (w : World) (T : TypeId) (a0 a1 a2 a3 a4 : Value) : (w.alloc (.cells #[a0, a1, a2, a3, a4] T)).cell? ⟨w.heap.size, 0, none⟩ = some a0 ∧ (w.alloc (.cells #[a0, a1, a2, a3, a4] T)).cell? ⟨w.heap.size, 1, none⟩ = some a1 ∧ (w.alloc (.cells #[a0, a1, a2, a3, a4] T)).cell? ⟨w.heap.size, 2, none⟩ = some a2
    ∧ (w.alloc (.cells #[a0, a1, a2, a3, a4] T)).cell? ⟨w.heap.size, 3, none⟩ = some a3 ∧ (w.alloc (.cells #[a0, a1, a2, a3, a4] T)).cell? ⟨w.heap.size, 4, none⟩ = some a4 := by
  have h := heap_alloc_new w (.cells #[a0, a1, a2, a3, a4] T)
  refine ⟨?_, ?_, ?_, ?_, ?_⟩ <;> (rw [cell_of_row _ _ _ _ _ _ h]; rfl)
set_option maxHeartbeats 4000000 in
set_option maxRecDepth 3000 in
theorem law_LexNext (s : ByteArray) (k : Int) (w : World) (hs : s.size ≤ maxLen) (hT : TabL w) :
    Calls Tryz.prog 3 #[.string s, .int .i64 k] w fun e w' => e = .returned (.bool true) ∧ Below w.heap.size w w' := by
  obtain ⟨l, rfl⟩ := as_S s
  have z1 := S_size l
  by_cases hL : (3000 : Int) < (l.length : Int)
  · go_enter Tryz.func3, Tryz.ntmps3
    go_wp2_with fail
    refine (awake_any _ hT).mono ?_; rintro e w1 ⟨rfl, b1⟩
    go_wp2_with fail
    go_ret
    exact ⟨rfl, b1⟩
  obtain ⟨⟨K, a, b, n, t⟩, y, hm⟩ : ∃ m y, Lm.NEXT l k = (m, y) := ⟨_, _, rfl⟩
  obtain ⟨kI, hkI⟩ : ∃ x : Int, x = (K : Int) := ⟨_, rfl⟩
  obtain ⟨aI, haI⟩ : ∃ x : Int, x = (a : Int) := ⟨_, rfl⟩
  obtain ⟨bI, hbI⟩ : ∃ x : Int, x = (b : Int) := ⟨_, rfl⟩
  obtain ⟨yI, hyI⟩ : ∃ x : Int, x = (y : Int) := ⟨_, rfl⟩
  have cN := fun w hT => next_is (l := l) w hT (by omega) hm hkI haI hbI hyI
  have cR : ∀ w, Calls Tryz.prog 7 #[.string (S l), .int .i64 k] w fun e w' => e = .returned (.tuple #[.agg #[.int .u8 kI, .int .i64 aI, .int .i64 bI, .int .i64 n, .string (S t)], .int .i64 yI]) ∧ Below w.heap.size w w' := fun w => by
    have h := refLexNext_any l k w (by omega)
    rw [hm] at h
    rw [hkI, haI, hbI, hyI]
    exact h
  clear hm hkI haI hbI hyI
  go_enter Tryz.func3, Tryz.ntmps3
  go_wp2_with fail
  refine (cN _ hT).mono ?_; rintro e w1 ⟨rfl, b1⟩
  obtain ⟨W1, hW1⟩ : ∃ W, W = w1.alloc (.cells #[.int .u8 kI, .int .i64 aI, .int .i64 bI, .int .i64 n, .string (S t)] 24) := ⟨_, rfl⟩
  have M1 : MkAt w1.heap.size W1 (.int .u8 kI) (.int .i64 aI) (.int .i64 bI) (.int .i64 n) (.string (S t)) := by rw [hW1]; exact MkAt.new ..
  have c1 : Below w.heap.size w W1 := by rw [hW1]; exact b1.alloc b1.size _
  go_wp2_with fail
  rw [← hW1]
  clear hW1 b1
  refine (cR _).mono ?_; rintro e w2 ⟨rfl, b2⟩
  have d2 : Below w2.heap.size w2 (w2.alloc (.cells #[.int .u8 kI, .int .i64 aI, .int .i64 bI, .int .i64 n, .string (S t)] 28)) := (Below.refl _ _).alloc (Nat.le_refl _) _
  have c2 := c1.trans (b2.mono c1.size)
  have c3 := c2.trans (d2.mono c2.size)
  obtain ⟨⟨q0, q1, q2, q3, q4⟩, _⟩ := ((M1.below b2).below d2).cells
  obtain ⟨r0, r1, r2, r3, r4⟩ := new_cells w2 28 (.int .u8 kI) (.int .i64 aI) (.int .i64 bI) (.int .i64 n) (.string (S t))
  have T3 := hT.below c3
  clear b2 d2 c1 c2 M1
  go_wp2_with fail
  refine (awake_any _ T3).mono ?_; rintro e w4 ⟨rfl, b4⟩
  have c4 := c3.trans (b4.mono c3.size)
  go_wp2_with fail
  go_ret
  exact ⟨rfl, c4⟩
end Go.Proofs.YtjbkbkfhbombbaaGreatDoor
