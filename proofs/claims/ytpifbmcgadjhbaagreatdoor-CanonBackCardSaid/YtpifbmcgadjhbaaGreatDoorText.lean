/-
  Texts as lists of bytes: a byte, a front, a rest, a part of one.
-/
import Derived.Test.YtpifbmcgadjhbaaGreatDoorBase
namespace Go.Proofs.YtpifbmcgadjhbaaGreatDoor
open Go.RowKit

namespace Tx
def bt (l : List UInt8) (k : Nat) : Nat := (l.getD k 0).toNat
theorem bt_lt (l : List UInt8) (k : Nat) : bt l k < 256 := (l.getD k 0).toNat_lt
theorem bt_get {l : List UInt8} {k : Nat} (h : k < l.length) : bt l k = l[k].toNat := by
  unfold bt
  rw [List.getD_eq_getElem?_getD, List.getElem?_eq_getElem h, Option.getD_some]
theorem bt_drop (l : List UInt8) (p k : Nat) : bt (l.drop p) k = bt l (p + k) := by
  unfold bt
  rw [List.getD_eq_getElem?_getD, List.getD_eq_getElem?_getD, List.getElem?_drop]
theorem drop_cons {l : List UInt8} {p : Nat} (h : p < l.length) : ∃ d, d.toNat = bt l p ∧ l.drop p = d :: l.drop (p + 1) :=
  ⟨l[p], (bt_get h).symm, List.drop_eq_getElem_cons h⟩
end Tx
theorem Tx_at (l : List UInt8) (k : Nat) (h : k < (S l).size) : ((S l)[k]'h).toNat = Tx.bt l k := by
  have h' : k < l.length := by rw [S_size] at h; exact h
  rw [Tx.bt_get h']
  rfl
theorem Tx_take (R : List UInt8) (c : Nat) : (S R).extract 0 c = S (R.take c) := by
  apply ByteArray.ext
  apply Array.toList_inj.1
  simp only [S, ByteArray.data_extract, Array.toList_extract, List.extract_eq_take_drop]
  simp
theorem Tx_drop (R : List UInt8) (c : Nat) : (S R).extract c R.length = S (R.drop c) := by
  apply ByteArray.ext
  apply Array.toList_inj.1
  simp only [S, ByteArray.data_extract, Array.toList_extract, List.extract_eq_take_drop]
  rw [List.take_of_length_le (by simp)]
theorem Tx_mid (R : List UInt8) (a c : Nat) : (S R).extract a (a + c) = S ((R.drop a).take c) := by
  apply ByteArray.ext
  apply Array.toList_inj.1
  simp only [S, ByteArray.data_extract, Array.toList_extract, List.extract_eq_take_drop]
  congr 1
  omega
theorem Tx_eq (a b : List UInt8) : ((S a).toList == (S b).toList) = (a == b) := by rw [S_toList, S_toList]
/-- string([]byte{..}) of a block just laid -/
theorem Tx_conv (w : World) (l : List UInt8) (n : Nat) (cs : Array Value) (hc : cs = (V l).toArray) (hn : n = l.length) :
    (convert 36 9 (.slice (some ⟨w.heap.size, 0, none⟩) n n)).run Tryz.prog (w.alloc (.cells cs 5)) = .ok (.string (S l)) (w.alloc (.cells cs 5)) := by
  subst hc
  subst hn
  refine run_convert_bytes_back (P := Tryz.prog) (w.alloc (.cells (V l).toArray 5)) 36 9 5 ⟨w.heap.size, 0, none⟩ l.length l Tryz.underlying36 Tryz.underlying5 Tryz.underlying9 ?_
  intro j hj
  have ha : (⟨w.heap.size, 0, none⟩ : Addr).add j = ⟨w.heap.size, j, none⟩ := by unfold Addr.add; split <;> simp_all
  rw [ha, cell_of_row _ w.heap.size j _ _ _ (heap_alloc_new w _)]
  simp [V, List.getElem?_eq_getElem hj]
/-- a row of texts, as it lies -/
def RowT (L : List (List UInt8)) : Array Value := (L.map fun l => .string (S l)).toArray
theorem rowT_at {w w' : World} {L : List (List UInt8)} {t : TypeId} (h : Below (w.alloc (.cells (RowT L) t)).heap.size (w.alloc (.cells (RowT L) t)) w') (j : Nat) (hj : j < L.length) : ∃ l ∈ L, w'.cell? ⟨w.heap.size, j, none⟩ = some (.string (S l)) := by
  refine ⟨L[j], List.getElem_mem hj, ?_⟩
  have hc : (w.alloc (.cells (RowT L) t)).cell? ⟨w.heap.size, j, none⟩ = some (.string (S L[j])) := by
    rw [cell_of_row _ w.heap.size j _ _ _ (heap_alloc_new w _)]
    simp [RowT, List.getElem?_eq_getElem hj]
  exact (h.cell (World.block_lt_of_cell? _ _ hc)).trans hc
end Go.Proofs.YtpifbmcgadjhbaaGreatDoor
