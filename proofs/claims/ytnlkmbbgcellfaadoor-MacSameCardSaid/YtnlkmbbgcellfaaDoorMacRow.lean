/-
  Rows of bytes: made, out of a text, and back into one.
-/
import Derived.Test.YtnlkmbbgcellfaaDoorShaPad
import Derived.Laws.MakeOwn
import Derived.Laws.IdiomStrings
namespace Go.Proofs.YtnlkmbbgcellfaaDoor
open Go.RowKit

theorem frozen_past (w : World) (b k n : Nat) (cs : Array Value) (t : TypeId) (h : w.heap[b]? = some (.cells cs t (n, n + 1))) (hk : k < n) : w.frozen? ⟨b, k, none⟩ = false := by
  simp [World.frozen?, h]; omega
/-- string(row[:n]) -/
theorem conv_rowp (w : World) (b N : Nat) (l : List UInt8) (n : Nat) (t : TypeId) (fr : Nat × Nat) (h : w.heap[b]? = some (.cells (AB l) t fr)) (hn : n ≤ l.length) (r : List UInt8) (hr : l.take n = r) :
    (convert 31 9 (.slice (some ⟨b, 0, none⟩) n N)).run Tryd.prog w = .ok (.string (S r)) w := by
  subst hr
  have hl : (l.take n).length = n := by simp; omega
  have := run_convert_bytes_back (P := Tryd.prog) w 31 9 5 ⟨b, 0, none⟩ N (l.take n) Tryd.underlying31 Tryd.underlying5 Tryd.underlying9 (by
    intro j hj
    rw [hl] at hj
    have ha : (⟨b, 0, none⟩ : Addr).add j = ⟨b, j, none⟩ := by unfold Addr.add; split <;> simp_all
    rw [ha, cell_of_row w b j _ _ _ h]
    simp [AB, V, List.getElem?_eq_getElem (show j < l.length by omega)])
  rw [hl] at this
  exact this
/-- k bytes c, zeros behind them, n in all -/
def Rp (c : UInt8) (n k : Nat) : List UInt8 := List.replicate k c ++ List.replicate (n - k) 0
theorem Rp_length (c : UInt8) (n k : Nat) (h : k ≤ n) : (Rp c n k).length = n := by simp [Rp]; omega
theorem Rp_zero (c : UInt8) (n : Nat) : Rp c n 0 = List.replicate n 0 := by simp [Rp]
theorem Rp_full (c : UInt8) (n : Nat) : Rp c n n = List.replicate n c := by simp [Rp]
theorem Rp_set (c : UInt8) (n k : Nat) (h : k < n) : (Rp c n k).set k c = Rp c n (k + 1) := by
  unfold Rp
  rw [List.set_append_right _ _ (by simp), List.length_replicate, Nat.sub_self, show n - k = (n - (k + 1)) + 1 by omega, List.replicate_succ, List.set_cons_zero, List.replicate_succ', List.append_assoc]
  rfl
theorem made_zero (n : Nat) : madeCells (Value.int .u8 0).cells (n * 1) = AB (List.replicate n 0) := by
  rw [Nat.mul_one]
  apply Array.ext
  · rw [size_madeCells, AB_size, List.length_replicate]
  · intro i h1 h2
    simp [madeCells, AB, V, Value.cells, Nat.mod_one]
theorem run_make_zero (n : Nat) (c : Int) (hc : c = (n : Int)) (hn : n ≤ 100000000) (w : World) :
    (Instr.makeSlice 31 (.int .i64 c) (.int .i64 c)).run Tryd.prog w = .ok (.slice (some ⟨w.heap.size, 0, none⟩) n n) (w.alloc (.cells (AB (List.replicate n 0)) 5)) := by
  subst hc
  obtain ⟨i0, hi, hz, hs, hb⟩ := info_parts info5
  have h := run_make (P := Tryd.prog) w 31 5 i0 _ Tryd.underlying31 hi hz .i64 .i64 (n : Int) (n : Int) (by omega) (by omega) (by rw [hb]; omega) (by omega)
  rw [h, Int.toNat_natCast, hs, made_zero]
/-- []byte(s): the bytes, and zeros up to the capacity -/
theorem run_bytes (w : World) (l : List UInt8) : ∃ C m : Nat, (convert 9 31 (.string (S l))).run Tryd.prog w = .ok (.slice (some ⟨w.heap.size, 0, none⟩) l.length C)
      (w.drew.alloc (.cells (AB (l ++ List.replicate m 0)) 5 (l.length + m, l.length + m + 1))) := by
  refine ⟨grownCap w (S l).size 0 5, grownCap w (S l).size 0 5 - l.length, ?_⟩
  have h := run_bytes_of_string (P := Tryd.prog) w 9 31 5 (S l) Tryd.underlying9 Tryd.underlying31 Tryd.underlying5
  have e : bytesRow (S l) (grownCap w (S l).size 0 5) = AB (l ++ List.replicate (grownCap w (S l).size 0 5 - l.length) 0) := by
    apply Array.toList_inj.1
    have hz : (⟨l.toArray⟩ : ByteArray).size = l.length := S_size l
    simp [bytesRow, AB, V, S, hz]
  rw [h, e, AB_size, List.length_append, List.length_replicate]
  simp only [S_size]

namespace Mm
/-- each byte of l with x -/
def xr (l : List UInt8) (x : UInt8) : List UInt8 := l.map fun c => c ^^^ x
theorem xr_length (l : List UInt8) (x : UInt8) : (xr l x).length = l.length := List.length_map _
/-- behind k rounds -/
def mid (l : List UInt8) (x : UInt8) (k : Nat) : List UInt8 := xr (l.take k) x ++ l.drop k
theorem mid_length (l : List UInt8) (x : UInt8) (k : Nat) : (mid l x k).length = l.length := by simp [mid, xr]; omega
theorem mid_zero (l : List UInt8) (x : UInt8) : mid l x 0 = l := by simp [mid, xr]
theorem mid_full (l : List UInt8) (x : UInt8) : mid l x l.length = xr l x := by simp [mid]
theorem mid_at (l : List UInt8) (x : UInt8) (k : Nat) (h : k < l.length) : Sm.byte (mid l x k) k = (l.getD k 0).toNat := by
  unfold Sm.byte mid
  rw [List.getD_eq_getElem?_getD, List.getElem?_append_right (by simp [xr]; omega)]
  simp [xr, Nat.min_eq_left (Nat.le_of_lt h), List.getD_eq_getElem?_getD]
theorem mid_set (l : List UInt8) (x : UInt8) (k : Nat) (h : k < l.length) : (mid l x k).set k (l.getD k 0 ^^^ x) = mid l x (k + 1) := by
  unfold mid
  have h1 : (xr (l.take k) x).length = k := by simp [xr]; omega
  rw [List.set_append_right _ _ (by omega), h1, Nat.sub_self, List.drop_eq_getElem_cons h, List.set_cons_zero, List.take_succ_eq_append_getElem h]
  unfold xr
  rw [List.map_append, List.append_assoc]
  simp [List.getD_eq_getElem?_getD, List.getElem?_eq_getElem h]
theorem xor_byte (c x : UInt8) : bits .xor .u8 (c.toNat : Int) (x.toNat : Int) = ((c ^^^ x).toNat : Int) := by
  rw [u8_xor_nat _ _ c.toNat_lt x.toNat_lt, UInt8.toNat_xor]
/-- a round: the byte, and what it comes to, each by a name -/
theorem mid_round (l : List UInt8) (x : UInt8) (k : Nat) (h : k < l.length) : ∃ c v : UInt8, l.getD k 0 = c ∧ bits .xor .u8 (c.toNat : Int) (x.toNat : Int) = (v.toNat : Int) ∧ (mid l x k).set k v = mid l x (k + 1) :=
  ⟨_, _, rfl, xor_byte _ _, mid_set l x k h⟩
end Mm
theorem cell_app (w : World) (b : Nat) (l r : List UInt8) (t : TypeId) (fr : Nat × Nat) (h : w.heap[b]? = some (.cells (AB (l ++ r)) t fr)) (k : Nat) (hk : k < l.length) :
    w.cell? ⟨b, k, none⟩ = some (.int .u8 ((Sm.byte l k : Nat) : Int)) := by
  rw [cell_AB w b _ t fr h k (by simp; omega)]
  unfold Sm.byte
  rw [List.getD_eq_getElem?_getD, List.getElem?_append_left hk, ← List.getD_eq_getElem?_getD]
theorem set_app (w : World) (b : Nat) (l r : List UInt8) (t : TypeId) (fr : Nat × Nat) (h : w.heap[b]? = some (.cells (AB (l ++ r)) t fr)) (k : Nat) (hk : k < l.length) (x : UInt8) :
    (w.setCell ⟨b, k, none⟩ (.int .u8 (x.toNat : Int))).heap[b]? = some (.cells (AB (l.set k x ++ r)) t fr) := by
  have := set_AB w b _ t fr h k x
  rwa [List.set_append_left _ _ hk] at this
end Go.Proofs.YtnlkmbbgcellfaaDoor
