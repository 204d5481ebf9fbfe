/-
  What utf.Len and Valid come to.
-/
import Derived.Test.YtjbkbkfhbombbaaDoorUtfProg
namespace Go.Proofs.YtjbkbkfhbombbaaDoor
open Go.RowKit

def LEN (l : List UInt8) : Nat × Bool := match Um.cnt l with | some n => (n, true) | none => (0, false)
theorem LEN_some {l : List UInt8} {n : Nat} (h : Um.cnt l = some n) : LEN l = (n, true) := by unfold LEN; rw [h]
theorem LEN_none {l : List UInt8} (h : Um.cnt l = none) : LEN l = (0, false) := by unfold LEN; rw [h]
theorem drop_end (l : List UInt8) (p : Nat) (h : ¬ p < l.length) : Um.cnt (l.drop p) = some 0 := by
  rw [List.drop_of_length_le (by omega)]
  rfl
theorem below_iter {w0 w : World} (h : Below w0.heap.size w0 w) (s : ByteArray) (p : Nat) : Below w0.heap.size w0 (w.iter s p) := h.alloc h.size _
theorem ret_len {l : List UInt8} {n : Nat} {b : Bool} (h : LEN l = (n, b)) : Ending.returned (.tuple #[.int .i64 (n : Int), .bool b]) = .returned (.tuple #[.int .i64 ((LEN l).1 : Int), .bool (LEN l).2]) := by rw [h]
end Go.Proofs.YtjbkbkfhbombbaaDoor
