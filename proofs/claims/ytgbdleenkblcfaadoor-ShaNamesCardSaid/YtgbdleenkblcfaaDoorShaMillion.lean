/-
  The SHA-256 of 1,000,000 times the letter a.
-/
import Derived.Test.YtgbdleenkblcfaaDoorShaMill
import Derived.Test.YtgbdleenkblcfaaDoorHexMath
namespace Go.Proofs.YtgbdleenkblcfaaDoor

namespace Fa
theorem blk_rep (N n : Nat) (r : List UInt8) (h : 64 * (n + 1) ≤ N) : Sm.blk (List.replicate N 97 ++ r) n = A64 := by
  unfold Sm.blk A64
  rw [List.drop_append_of_le_length (by rw [List.length_replicate]; omega), List.drop_replicate, List.take_append_of_le_length (by rw [List.length_replicate]; omega), List.take_replicate, Nat.min_eq_left (by omega)]
theorem chain_rep (N : Nat) (r : List UInt8) (n : Nat) (h : 64 * n ≤ N) : Sm.chain (List.replicate N 97 ++ r) n = it WA n Sm.H0 := by
  induction n with
  | zero => rw [it_zero]; rfl
  | succ n ih => rw [Sm.chain, ih (by omega), blk_rep N n r h, it_succ]; rfl
theorem blk_end (n : Nat) (r : List UInt8) (h : r.length = 64) : Sm.blk (List.replicate (64 * n) 97 ++ r) n = r := by
  unfold Sm.blk
  rw [List.drop_append, List.length_replicate, Nat.sub_self, List.drop_eq_nil_of_le (by rw [List.length_replicate]; omega), List.nil_append, List.drop_zero, List.take_of_length_le (by omega)]
theorem sha_rep (n : Nat) : Sm.sha (List.replicate (64 * n) 97) = Sm.out (Sm.mix (it WA n Sm.H0) (Sm.words (Sm.pad (64 * n)))) := by
  have hp : (Sm.pad (64 * n)).length = 64 := by
    rw [Sm.pad_length]
    unfold Sm.plen
    rw [show 64 * n % 64 = 0 by omega]
    rfl
  unfold Sm.sha Sm.state
  rw [List.length_replicate, List.length_append, List.length_replicate, hp, show (64 * n + 64) / 64 = n + 1 by omega, Sm.chain, chain_rep _ _ _ (Nat.le_refl _), blk_end _ _ hp]
def A1M : List UInt8 := List.replicate 1000000 97
theorem A1M_eq : A1M = List.replicate (64 * 15625) 97 := by unfold A1M; rfl
set_option maxRecDepth 100000 in
theorem dig_last : Hm.enc (Sm.out (Sm.mix S25 (Sm.words (Sm.pad 1000000)))) = [99, 100, 99, 55, 54, 101, 53, 99, 57, 57, 49, 52, 102, 98, 57, 50, 56, 49, 97, 49, 99, 55, 101, 50, 56, 52, 100, 55, 51, 101, 54, 55, 102, 49, 56, 48, 57, 97, 52, 56, 97, 52, 57, 55, 50, 48, 48, 101, 48, 52, 54, 100, 51, 57, 99, 99, 99, 55, 49, 49, 50, 99, 100, 48] := by decide +kernel
theorem dig_1M : Hm.enc (Sm.sha A1M) = [99, 100, 99, 55, 54, 101, 53, 99, 57, 57, 49, 52, 102, 98, 57, 50, 56, 49, 97, 49, 99, 55, 101, 50, 56, 52, 100, 55, 51, 101, 54, 55, 102, 49, 56, 48, 57, 97, 52, 56, 97, 52, 57, 55, 50, 48, 48, 101, 48, 52, 54, 100, 51, 57, 99, 99, 99, 55, 49, 49, 50, 99, 100, 48] := by
  rw [A1M_eq, sha_rep, m25, show 64 * 15625 = 1000000 from rfl]
  exact dig_last
end Fa
end Go.Proofs.YtgbdleenkblcfaaDoor
