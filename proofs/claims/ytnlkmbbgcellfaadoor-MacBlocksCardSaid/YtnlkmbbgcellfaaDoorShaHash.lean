/-
  A Hash as it lies in memory, and what New, Len and Copy come to.
-/
import Derived.Test.YtnlkmbbgcellfaaDoorShaExp
import Derived.Laws.CopyRow
namespace Go.Proofs.YtnlkmbbgcellfaaDoor
open Go.RowKit

namespace Sm
def blk (l : List UInt8) (i : Nat) : List UInt8 := (l.drop (64 * i)).take 64
/-- behind n blocks -/
def chain (l : List UInt8) : Nat → St
  | 0 => H0
  | n + 1 => mix (chain l n) (words (blk l n))
def state (l : List UInt8) : St := chain l (l.length / 64)
def tail (l : List UInt8) : List UInt8 := l.drop (64 * (l.length / 64))
theorem tail_length (l : List UInt8) : (tail l).length = l.length % 64 := by unfold tail; simp; omega
theorem chain_append (l r : List UInt8) : ∀ n, 64 * n ≤ l.length → chain (l ++ r) n = chain l n
  | 0, _ => rfl
  | n + 1, h => by
    have e : blk (l ++ r) n = blk l n := by
      unfold blk
      rw [List.drop_append_of_le_length (by omega), List.take_append_of_le_length (by simp; omega)]
    rw [chain, chain, chain_append l r n (by omega), e]
end Sm

/-- the cells of a Hash: eight words, 64 bytes, how many were written -/
def HC (s : Sm.St) (rest : List UInt8) (n : Nat) : Array Value := (WV s.list ++ V rest ++ [Value.int .i64 (n : Int)]).toArray
theorem HC_size (s : Sm.St) (rest : List UInt8) (n : Nat) (h : rest.length = 64) : (HC s rest n).size = 73 := by simp [HC, WV_length, V_length, Sm.list_length, h]
theorem HC_n (s : Sm.St) (rest : List UInt8) (n : Nat) (h : rest.length = 64) : (HC s rest n)[72]? = some (.int .i64 (n : Int)) := by
  simp [HC, WV_length, V_length, Sm.list_length, h]
theorem HC_set_n (s : Sm.St) (rest : List UInt8) (n m : Nat) (h : rest.length = 64) : (HC s rest n).setIfInBounds 72 (.int .i64 (m : Int)) = HC s rest m := by
  unfold HC
  rw [List.setIfInBounds_toArray, List.set_append_right _ _ (by simp [WV_length, V_length, Sm.list_length, h])]
  simp [WV_length, V_length, Sm.list_length, h]
/-- block b holds a hash of the bytes l -/
def Hs (w : World) (b : Nat) (l : List UInt8) : Prop :=
  ∃ s rest, w.heap[b]? = some (.cells (HC s rest l.length) 49 (0, 0)) ∧ rest.length = 64 ∧ rest.take (l.length % 64) = Sm.tail l ∧ (l ≠ [] → s = Sm.state l)
theorem Hs.lt {w : World} {b : Nat} {l : List UInt8} (h : Hs w b l) : b < w.heap.size := by
  obtain ⟨s, rest, h, _⟩ := h
  exact (Array.getElem?_eq_some_iff.1 h).1
theorem Hs.kept {w w' : World} {b : Nat} {l : List UInt8} (h : Hs w b l) (hb : w'.heap[b]? = w.heap[b]?) : Hs w' b l := by
  obtain ⟨s, rest, h, h2⟩ := h
  exact ⟨s, rest, hb.trans h, h2⟩
theorem Hs.below {B : Nat} {w w' : World} {b : Nat} {l : List UInt8} (h : Hs w b l) (hb : Below B w w') (hB : b < B) : Hs w' b l := h.kept (hb.block _ hB)

def HC0 : Array Value := HC ⟨0, 0, 0, 0, 0, 0, 0, 0⟩ (List.replicate 64 0) 0
theorem HC0_size : HC0.size = 73 := by kernel_rfl
theorem zero_hash (w : World) : (zeroValue 49).run Tryd.prog w = .ok (.agg HC0) w := by kernel_rfl
theorem built_hash : Tryd.prog.built 49 [] = some HC0 := by kernel_rfl
/-- a new zero Hash -/
theorem Hs.zero (w : World) : Hs (w.alloc (.cells HC0 49)) w.heap.size [] :=
  ⟨⟨0, 0, 0, 0, 0, 0, 0, 0⟩, List.replicate 64 0, heap_alloc_new w _, rfl, rfl, fun h => absurd rfl h⟩
set_option maxRecDepth 100000 in
set_option maxHeartbeats 400000 in
theorem new_any (w : World) :
    Calls Tryd.prog 23 #[] w fun e w' => e = .returned (.pointer (some ⟨w.heap.size, 0, none⟩)) ∧ Hs w' w.heap.size [] ∧ Below w.heap.size w w' := by
  go_enter Tryd.func23, Tryd.ntmps23
  go_wp2_with (refine wpList_build (by rfl) 49 _ (by rfl) (by kernel_rfl) ?_)
  go_ret
  rw [show (Tryd.prog.built 49 []).getD #[] = HC0 by rw [built_hash]; rfl]
  exact ⟨rfl, Hs.zero w, (Below.refl _ _).alloc (Nat.le_refl _) _⟩

set_option maxRecDepth 100000 in
set_option maxHeartbeats 400000 in
theorem copy_any (b : Nat) (l : List UInt8) (w : World) (h : Hs w b l) :
    Calls Tryd.prog 30 #[.pointer (some ⟨b, 0, none⟩)] w fun e w' => e = .returned (.pointer (some ⟨w.heap.size, 0, none⟩)) ∧ Hs w' w.heap.size l ∧ Below w.heap.size w w' := by
  obtain ⟨s, rest, h1, h2, h3, h4⟩ := h
  have hz := zero_hash
  have H1 := Lib.hid h1
  have H4 := Lib.hid h4
  clear h1 h4
  go_enter Tryd.func30, Tryd.ntmps30
  go_wp2_with (first | (refine wpList_load_row (by rfl) 49 _ (by rfl) b (by rfl) 49 _ (0, 0) _ H1.out Tryd.underlying49 (by rfl) (by rw [HC_size _ _ _ h2]; kernel_rfl) ?_) | (refine wpList_store_row (by rfl) 49 _ _ (by rfl) w.heap.size _ (by rfl) (by rfl) 49 _ (heap_alloc_new w _) (by rw [HC_size _ _ _ h2]; kernel_rfl) (by rw [HC_size _ _ _ h2]; exact HC0_size) (by simp [HC, WV, V, Value.oneCell']) ?_))
  go_ret
  exact ⟨rfl, ⟨s, rest, setRow_heap _ _ _ _ _ _ (heap_alloc_new w _), h2, h3, H4.out⟩, below_setRow ((Below.refl _ _).alloc (Nat.le_refl _) _) (Nat.le_refl _) _⟩
end Go.Proofs.YtnlkmbbgcellfaaDoor
