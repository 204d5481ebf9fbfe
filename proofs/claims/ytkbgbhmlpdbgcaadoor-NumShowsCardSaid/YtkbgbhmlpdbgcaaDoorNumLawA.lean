/-
  NumReads, NumShows, NumOther.
-/
import Derived.Test.YtkbgbhmlpdbgcaaDoorNumAwake
namespace Go.Proofs.YtkbgbhmlpdbgcaaDoor
open Go.RowKit
open Go.Lib (itoa)

set_option maxHeartbeats 1000000 in
theorem law_NumReads (t : ByteArray) (a : Int) (w : World) (_ : t.size ≤ maxLen) (hT : TabN w) :
    Calls Tryd.prog 3 #[.string t, .int .i64 a] w fun e w' => e = .returned (.bool true) ∧ Below w.heap.size w w' := by
  obtain ⟨l, rfl⟩ := as_S t
  have z := S_size l
  by_cases hl : (20000 : Int) < (l.length : Int)
  · go_enter Tryd.func3, Tryd.ntmps3
    go_wp2_with fail
    refine (awake_any w hT).mono ?_; rintro e w1 ⟨rfl, hb⟩
    go_wp2_with fail
    go_ret
    exact ⟨rfl, hb⟩
  · have c := Read_any l a w hT (by omega)
    have d := fun w => refRead_any l a w (by omega)
    generalize Nm.READ l a = R at *
    obtain ⟨n, p, x⟩ := R
    go_enter Tryd.func3, Tryd.ntmps3
    go_wp2_with fail
    refine c.mono ?_; rintro e w1 ⟨rfl, b1⟩
    go_wp2_with fail
    refine (d w1).mono ?_; rintro e w2 ⟨rfl, b2⟩
    have c2 := b1.trans (b2.mono b1.size)
    clear b1 b2
    go_wp2_with fail
    refine (awake_any w2 (hT.below c2)).mono ?_; rintro e w3 ⟨rfl, b3⟩
    go_wp2_with fail
    go_ret
    exact ⟨ret_bool (by simp), c2.trans (b3.mono c2.size)⟩
set_option maxHeartbeats 1000000 in
theorem law_NumShows (n : Int) (w : World) (h : -9223372036854775808 ≤ n ∧ n ≤ 9223372036854775807) (hT : TabN w) :
    Calls Tryd.prog 4 #[.int .i64 n] w fun e w' => e = .returned (.bool true) ∧ Below w.heap.size w w' := by
  have c := Show_any n w hT h.1 h.2
  have d := fun w => refShow_any n w h.1 h.2
  generalize itoa n = I at *
  go_enter Tryd.func4, Tryd.ntmps4
  go_wp2_with fail
  refine c.mono ?_; rintro e w1 ⟨rfl, b1⟩
  go_wp2_with fail
  refine (d w1).mono ?_; rintro e w2 ⟨rfl, b2⟩
  have c2 := b1.trans (b2.mono b1.size)
  clear b1 b2
  go_wp2_with fail
  refine (awake_any w2 (hT.below c2)).mono ?_; rintro e w3 ⟨rfl, b3⟩
  go_wp2_with fail
  go_ret
  exact ⟨ret_bool (by simp), c2.trans (b3.mono c2.size)⟩
end Go.Proofs.YtkbgbhmlpdbgcaaDoor
