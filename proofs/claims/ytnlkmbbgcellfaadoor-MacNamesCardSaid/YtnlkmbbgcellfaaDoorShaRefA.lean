/-
  The document's rotations and shifts, and its constants.
-/
import Derived.Test.YtnlkmbbgcellfaaDoorShaExp
namespace Go.Proofs.YtnlkmbbgcellfaaDoor
open Go.RowKit

namespace Sm
theorem rot_sum (x n : Nat) (hx : x < 4294967296) (hn : n ≤ 32) : rot x n = x / 2 ^ n + x % 2 ^ n * 2 ^ (32 - n) := by
  have hp : 2 ^ n * 2 ^ (32 - n) = 4294967296 := by rw [← Nat.pow_add, show n + (32 - n) = 32 by omega]
  have h1 : x * 2 ^ (32 - n) % 4294967296 = x % 2 ^ n * 2 ^ (32 - n) := by rw [← hp, Nat.mul_mod_mul_right]
  have hq : x / 2 ^ n < 2 ^ (32 - n) := by
    rw [Nat.div_lt_iff_lt_mul (Nat.two_pow_pos n), Nat.mul_comm, hp]; exact hx
  have h2 : x / 2 ^ n % 4294967296 = x / 2 ^ n := Nat.mod_eq_of_lt (Nat.lt_of_le_of_lt (Nat.div_le_self _ _) hx)
  unfold rot
  rw [h1, h2, ← Nat.shiftLeft_eq, ← Nat.shiftLeft_add_eq_or_of_lt hq, Nat.shiftLeft_eq, Nat.add_comm]
theorem rot_zero (x : Nat) (hx : x < 4294967296) : rot x 0 = x := by rw [rot_sum x 0 hx (by omega)]; simp [Nat.mod_one]
theorem rot_succ (x n : Nat) (hx : x < 4294967296) (hn : n < 32) : rot x (n + 1) = rot x n / 2 + rot x n % 2 * 2147483648 := by
  rw [rot_sum x (n + 1) hx (by omega), rot_sum x n hx (by omega)]
  obtain ⟨c, hc⟩ : ∃ c, c = 2 ^ (31 - n) := ⟨_, rfl⟩
  have e1 : 2 ^ (32 - n) = 2 * c := by rw [hc, ← Nat.pow_succ', show (31 - n).succ = 32 - n by omega]
  have e2 : 2 ^ (32 - (n + 1)) = c := by rw [hc, show 32 - (n + 1) = 31 - n by omega]
  have e3 : 2 ^ n * c = 2147483648 := by rw [hc, ← Nat.pow_add, show n + (31 - n) = 31 by omega]
  have e4 : x % 2 ^ (n + 1) = x % 2 ^ n + 2 ^ n * (x / 2 ^ n % 2) := by rw [Nat.pow_succ, Nat.mod_mul]
  have e5 : x / 2 ^ (n + 1) = x / 2 ^ n / 2 := by rw [Nat.pow_succ, Nat.div_div_eq_div_mul]
  rw [e1, e2, e4, e5]
  obtain ⟨q, hq⟩ : ∃ q, q = x / 2 ^ n := ⟨_, rfl⟩
  obtain ⟨r, hr⟩ : ∃ r, r = x % 2 ^ n := ⟨_, rfl⟩
  rw [← hq, ← hr]
  have e6 : r * (2 * c) = 2 * (r * c) := by rw [Nat.mul_left_comm]
  have e7 : (r + 2 ^ n * (q % 2)) * c = r * c + q % 2 * 2147483648 := by rw [Nat.add_mul, ← e3, Nat.mul_right_comm, Nat.mul_comm (2 ^ n * c)]
  rw [e6, e7]
  omega
theorem shr_succ (x n : Nat) : shr x (n + 1) = shr x n / 2 := by unfold shr; rw [Nat.pow_succ, Nat.div_div_eq_div_mul]
theorem shr_zero (x : Nat) : shr x 0 = x := by unfold shr; simp
theorem shr_le (x n : Nat) : shr x n ≤ x := Nat.div_le_self _ _
end Sm

set_option maxHeartbeats 400000 in
theorem turned_any (x n : Nat) (w : World) (hx : x < 4294967296) (hn : n ≤ 32) :
    Calls Tryd.prog 34 #[.int .u32 (x : Int), .int .i64 (n : Int)] w fun e w' => e = .returned (.int .u32 (Sm.rot x n : Int)) ∧ w = w' := by
  go_enter Tryd.func34, Tryd.ntmps34
  go_wp2
  go_loop [0, 5] (fun v i => ∃ k : Nat, k ≤ n ∧ i = .int .i64 k ∧ v = .int .u32 (Sm.rot x k : Int)) (fun _ i => n - (intOf i).toNat)
  case atStart => exact ⟨0, by omega, rfl, by rw [Sm.rot_zero x hx]⟩
  case round =>
    obtain ⟨k, hk, rfl, rfl⟩ := hrel
    have hb := Sm.rot_lt x k
    by_cases hlt : k < n
    · have hs := Lib.hid (Sm.rot_succ x k hx (by omega))
      obtain ⟨y, hy⟩ : ∃ y, y = Sm.rot x k := ⟨_, rfl⟩
      rw [← hy] at hb hs
      rw [← hy]
      clear hy
      have m1 : IntKind.u32.wrap ((y : Int) % 2 * 2147483648) = (y : Int) % 2 * 2147483648 := Sm.wrap_in _ (by omega)
      have m2 : IntKind.u32.wrap ((y : Int) / 2 + (y : Int) % 2 * 2147483648) = (y : Int) / 2 + (y : Int) % 2 * 2147483648 := Sm.wrap_in _ (by omega)
      have m3 : (y : Int).tmod 2 = (y : Int) % 2 := Int.tmod_eq_emod_of_nonneg (by omega)
      have m4 : (y : Int).tdiv 2 = (y : Int) / 2 := Int.tdiv_eq_ediv_of_nonneg (by omega)
      go_wp2
      go_round
      case rel =>
        refine ⟨k + 1, by omega, by go_num, ?_⟩
        rw [hs.out]
        refine congrArg (Value.int IntKind.u32) ?_
        omega
      case measure => simp [intOf]; omega
    · obtain rfl : k = n := by omega
      go_wp2
      go_ret
      exact ⟨rfl, rfl⟩
set_option maxHeartbeats 400000 in
theorem low_any (x n : Nat) (w : World) (hx : x < 4294967296) (hn : n ≤ 32) :
    Calls Tryd.prog 36 #[.int .u32 (x : Int), .int .i64 (n : Int)] w fun e w' => e = .returned (.int .u32 (Sm.shr x n : Int)) ∧ w = w' := by
  go_enter Tryd.func36, Tryd.ntmps36
  go_wp2
  go_loop [0, 5] (fun v i => ∃ k : Nat, k ≤ n ∧ i = .int .i64 k ∧ v = .int .u32 (Sm.shr x k : Int)) (fun _ i => n - (intOf i).toNat)
  case atStart => exact ⟨0, by omega, rfl, by rw [Sm.shr_zero x]⟩
  case round =>
    obtain ⟨k, hk, rfl, rfl⟩ := hrel
    have hb := Sm.shr_le x k
    by_cases hlt : k < n
    · have hs := Lib.hid (Sm.shr_succ x k)
      obtain ⟨y, hy⟩ : ∃ y, y = Sm.shr x k := ⟨_, rfl⟩
      rw [← hy] at hb hs
      rw [← hy]
      clear hy
      have m4 : (y : Int).tdiv 2 = (y : Int) / 2 := Int.tdiv_eq_ediv_of_nonneg (by omega)
      go_wp2
      go_round
      case rel =>
        refine ⟨k + 1, by omega, by go_num, ?_⟩
        rw [hs.out]
        refine congrArg (Value.int IntKind.u32) ?_
        omega
      case measure => simp [intOf]; omega
    · obtain rfl : k = n := by omega
      go_wp2
      go_ret
      exact ⟨rfl, rfl⟩
theorem turned_q (x n : Nat) (i : Int) (w : World) (hi : i = (n : Int)) (hx : x < 4294967296) (hn : n ≤ 32) :
    Calls Tryd.prog 34 #[.int .u32 (x : Int), .int .i64 i] w fun e w' => e = .returned (.int .u32 (Sm.rot x n : Int)) ∧ w' = w := by
  subst hi
  exact (turned_any x n w hx hn).mono fun _ _ ⟨a, b⟩ => ⟨a, b.symm⟩
theorem low_q (x n : Nat) (i : Int) (w : World) (hi : i = (n : Int)) (hx : x < 4294967296) (hn : n ≤ 32) :
    Calls Tryd.prog 36 #[.int .u32 (x : Int), .int .i64 i] w fun e w' => e = .returned (.int .u32 (Sm.shr x n : Int)) ∧ w' = w := by
  subst hi
  exact (low_any x n w hx hn).mono fun _ _ ⟨a, b⟩ => ⟨a, b.symm⟩
theorem wpList_build_to {P : Program} {ops : Array Oper} {rest : List Oper} {o : Oper} {a : Act} {w : World} {Q : Exit → Act → World → Prop} (hg : o.guard = none) (t : TypeId) (parts : Array (Nat × Operand)) (ho : o.op = .build t parts)
    (cells : Array Value) (hf : P.built t (parts.map fun (i, x) => (i, a.eval x)).toList = some cells) (h : wpList P ops Q rest (a.put o.dst (.agg cells)) w) : wpList P ops Q (o :: rest) a w :=
  wpList_build hg t parts ho (by rw [hf]; rfl) (by rw [hf]; exact h)
set_option maxRecDepth 100000 in
set_option maxHeartbeats 400000 in
theorem keys_any (w : World) :
    Calls Tryd.prog 33 #[] w fun e w' => e = .returned (.agg (AR Sm.K)) ∧ Below w.heap.size w w' := by
  have hz : ∀ w, (zeroValue 51).run Tryd.prog w = .ok (.agg (AR Sm.Z64)) w := fun _ => by kernel_rfl
  go_enter Tryd.func33, Tryd.ntmps33
  have HZ : Hid ((w.alloc (.cells (AR Sm.Z64) 51)).heap[w.heap.size]? = some (.cells (AR Sm.Z64) 51 (0, 0))) := heap_alloc_new w _
  go_wp2_with (first | (refine wpList_build_to (by rfl) 51 _ (by rfl) (AR Sm.K) (by kernel_rfl) ?_) | (refine wpList_store_row (by rfl) 51 _ _ (by rfl) w.heap.size _ (by rfl) (by rfl) 51 _ HZ.out (by rw [AR_size]; kernel_rfl) (by rw [AR_size, AR_size]; rfl) (AR_one _) ?_))
  refine bodyPost_ret (results_cell_row (by rfl) _ _ w.heap.size 51 _ (0, 0) _ (by rfl) (setRow_heap _ _ _ _ _ _ HZ.out) Tryd.underlying51 (by rfl) (by rw [AR_size]; kernel_rfl)) rfl ?_
  exact ⟨rfl, below_setRow ((Below.refl _ _).alloc (Nat.le_refl _) _) (Nat.le_refl _) _⟩
end Go.Proofs.YtnlkmbbgcellfaaDoor
