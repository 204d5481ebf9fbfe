/-
  Rotations: what math/bits.RotateLeft32 and sha.turn come to.
-/
import Derived.Test.YtnlkmbbgcellfaaDoorShaMath
namespace Go.Proofs.YtnlkmbbgcellfaaDoor
open Go.RowKit

theorem neg31 (n m : Nat) (h : n + m = 32) (hm : m ≤ 31) : bits .and .u64 (IntKind.u64.wrap (-(n : Int))) 31 = (m : Int) := by
  obtain rfl : n = 32 - m := by omega
  have h : ∀ m, m ≤ 31 → bits .and .u64 (IntKind.u64.wrap (-((32 - m : Nat) : Int))) 31 = (m : Int) := by decide +kernel
  exact h m hm

set_option maxHeartbeats 400000 in
theorem rotl_any (x n m : Nat) (w : World) (h : n + m = 32) (hm : m ≤ 31) :
    Calls Tryd.prog 37 #[.int .u32 (x : Int), .int .i64 (-(n : Int))] w fun e w' => e = .returned (.int .u32 (Sm.rot x n : Int)) ∧ w = w' := by
  have e1 := neg31 n m h hm
  have e2 : IntKind.u64.wrap (32 - (m : Int)) = (n : Int) := by
    have : IntKind.u64.wrap (32 - (m : Int)) = (32 - (m : Int)) % 18446744073709551616 := by simp [IntKind.wrap, IntKind.bits, IntKind.signed]
    omega
  have hn : n ≤ 32 := by omega
  go_enter Tryd.func37, Tryd.ntmps37
  go_wp2
  go_ret
  refine ⟨ret_int ?_, rfl⟩
  have a1 : (x : Int) * 2 ^ m % 4294967296 = ((x * 2 ^ m % 4294967296 : Nat) : Int) := by simp
  have a2 : (x : Int) / 2 ^ n = ((x / 2 ^ n : Nat) : Int) := by simp
  rw [a1, a2, Sm.or_eq, Nat.mod_mod]
  unfold Sm.rot
  rw [show 32 - n = m by omega]

set_option maxHeartbeats 400000 in
theorem turn_any (x n : Nat) (w : World) (h1 : 1 ≤ n) (h2 : n ≤ 32) :
    Calls Tryd.prog 35 #[.int .u32 (x : Int), .int .i64 (n : Int)] w fun e w' => e = .returned (.int .u32 (Sm.rot x n : Int)) ∧ w = w' := by
  go_enter Tryd.func35, Tryd.ntmps35
  go_wp2_with (go_at_call 37; refine (rotl_any x n (32 - n) _ (by omega) (by omega)).mono ?_; rintro e w' ⟨rfl, rfl⟩)
  go_ret
  exact ⟨rfl, rfl⟩
theorem turn_q (x n : Nat) (i : Int) (w : World) (hi : i = (n : Int)) (h1 : 1 ≤ n) (h2 : n ≤ 32) :
    Calls Tryd.prog 35 #[.int .u32 (x : Int), .int .i64 i] w fun e w' => e = .returned (.int .u32 (Sm.rot x n : Int)) ∧ w' = w := by
  subst hi
  exact (turn_any x n w h1 h2).mono fun _ _ ⟨a, b⟩ => ⟨a, b.symm⟩
end Go.Proofs.YtnlkmbbgcellfaaDoor
