/-
  What the document's Rune and Put come to.
-/
import Derived.Test.YtpifbmcgadjhbaaDoorUtfLen
namespace Go.Proofs.YtpifbmcgadjhbaaDoor
open Go.RowKit

/-- string([]byte{..}) of a block just laid -/
theorem conv_new (w : World) (l : List UInt8) (n : Nat) (cs : Array Value) (hc : cs = (V l).toArray) (hn : n = l.length) :
    (convert 37 9 (.slice (some ⟨w.heap.size, 0, none⟩) n n)).run Tryd.prog (w.alloc (.cells cs 5)) = .ok (.string (S l)) (w.alloc (.cells cs 5)) := by
  subst hc
  subst hn
  refine run_convert_bytes_back (P := Tryd.prog) (w.alloc (.cells (V l).toArray 5)) 37 9 5 ⟨w.heap.size, 0, none⟩ l.length l Tryd.underlying37 Tryd.underlying5 Tryd.underlying9 ?_
  intro j hj
  have ha : (⟨w.heap.size, 0, none⟩ : Addr).add j = ⟨w.heap.size, j, none⟩ := by unfold Addr.add; split <;> simp_all
  rw [ha, cell_of_row _ w.heap.size j _ _ _ (heap_alloc_new w _)]
  simp [V, List.getElem?_eq_getElem hj]
end Go.Proofs.YtpifbmcgadjhbaaDoor
