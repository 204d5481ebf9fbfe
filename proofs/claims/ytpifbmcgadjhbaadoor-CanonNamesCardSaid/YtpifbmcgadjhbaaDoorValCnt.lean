/-
  What the program's Count, nests and Depth come to.
-/
import Derived.Test.YtpifbmcgadjhbaaDoorValRefDep
namespace Go.Proofs.YtpifbmcgadjhbaaDoor
open Go.RowKit

theorem five {w : World} {c0 c1 c2 c3 c4 : Value} {y : JV} (h : HC w [c0, c1, c2, c3, c4] y) : ∃ a b ca cb, c0 = .int .u8 (y.k : Int) ∧ c1 = .int .i64 y.n ∧ c2 = .string (S y.t) ∧ c3 = .slice a y.ns.length ca ∧ c4 = .slice b y.is.length cb := by
  obtain ⟨a, b, ca, cb, hcs, _⟩ := h.form
  simp only [List.cons.injEq, and_true] at hcs
  exact ⟨a, b, ca, cb, hcs.1, hcs.2.1, hcs.2.2.1, hcs.2.2.2.1, hcs.2.2.2.2⟩
theorem nests_any (w : World) (x : JV) (a b : Option Addr) (ca cb : Nat) (l m : Nat) (kI n : Int) (t : List UInt8) (hk : kI = (x.k : Int)) {c : Bool} (hcc : c = decide (x.k = 4 ∨ x.k = 5)) :
    Calls Tryd.prog 34 #[.agg #[.int .u8 kI, .int .i64 n, .string (S t), .slice a l ca, .slice b m cb]] w fun e w' => e = .returned (.bool c) ∧ Below w.heap.size w w' := by
  have b1 : Below w.heap.size w (w.alloc (.cells #[.int .u8 kI, .int .i64 n, .string (S t), .slice a l ca, .slice b m cb] 25)) := (Below.refl _ _).alloc (Nat.le_refl _) _
  have HK := Lib.hid hk
  have HC := Lib.hid hcc
  clear hk hcc
  by_cases h4 : kI = 4
  · subst h4
    go_enter Tryd.func34, Tryd.ntmps34
    go_wp2_with fail
    go_ret
    refine ⟨ret_bool ?_, b1⟩
    rw [HC.out, eq_comm, decide_eq_true_iff]
    have := HK.out
    omega
  · have hb : (kI == 4) = false := beq_eq_false_iff_ne.2 h4
    by_cases h5 : kI = 5
    · subst h5
      clear hb h4
      go_enter Tryd.func34, Tryd.ntmps34
      go_wp2_with fail
      go_ret
      refine ⟨ret_bool ?_, b1⟩
      rw [HC.out, eq_comm, decide_eq_true_iff]
      have := HK.out
      omega
    · have hb : (kI == 5) = false := beq_eq_false_iff_ne.2 h5
      go_enter Tryd.func34, Tryd.ntmps34
      go_wp2_with fail
      go_ret
      refine ⟨ret_bool ?_, b1⟩
      rw [HC.out, eq_comm, decide_eq_false_iff_not]
      have := HK.out
      omega
end Go.Proofs.YtpifbmcgadjhbaaDoor
