/-
  A long region that draws its order and whose operations only read: the check of its order over numbers alone.
-/
import Derived.Test.YtjbkbkfhbombbaaDoorBase
import Derived.Deep.QuietTactic
import Derived.BigQuiet
namespace Go.Proofs.YtjbkbkfhbombbaaDoor
open Go.RowKit

namespace Rq
/-- what an operation writes, what it looks at, for which it waits -/
def key (ops : Array Oper) (o : Oper) : Option Nat × List Nat × List Nat := (o.dst, o.looksAt ops, (o.after.toList.filter fun e => Region.binds .any e).map (·.on))
def sep (x y : Option Nat × List Nat × List Nat) : Bool :=
  (match x.1 with | some d => !y.2.1.contains d && y.1 != some d | none => true) && (match y.1 with | some d => !x.2.1.contains d | none => true)
def row (i : Nat) (x : Option Nat × List Nat × List Nat) : List (Option Nat × List Nat × List Nat) → Bool
  | [] => true
  | y :: r => (y.2.2.contains i || sep x y) && row i x r
def chk : Nat → List (Option Nat × List Nat × List Nat) → Bool
  | _, [] => true
  | i, x :: r => x.2.2.all (fun e => decide (e < i)) && row i x r && chk (i + 1) r
theorem row_mem {i : Nat} {x : Option Nat × List Nat × List Nat} : ∀ {l : List (Option Nat × List Nat × List Nat)}, row i x l = true → ∀ y ∈ l, y.2.2.contains i = true ∨ sep x y = true
  | [], _, y, hy => by simp at hy
  | z :: r, h, y, hy => by
    unfold row at h
    rw [Bool.and_eq_true, Bool.or_eq_true] at h
    rcases List.mem_cons.1 hy with rfl | hy
    · exact h.1
    · exact row_mem h.2 y hy
theorem lexFrom_of {ops : Array Oper} : ∀ (r : List Oper) (k : Nat) (listed : Array Bool), ops.toList.drop k = r → k + r.length = ops.size → listed.size = ops.size → (∀ j, j < ops.size → listed[j]? = some (decide (j < k))) →
    chk k (r.map (key ops)) = true → Region.lexFrom .any ops r.length k listed = true
  | [], k, listed, _, hk, hs, hl, _ => by
    show (Region.ready .any ops listed).isEmpty = true
    unfold Region.ready
    rw [List.isEmpty_iff, List.filter_eq_nil_iff]
    intro j hj
    rw [List.mem_range] at hj
    have h1 := hl j hj
    have h2 : decide (j < k) = true := by simp at hk ⊢; omega
    rw [h2] at h1
    simp [Array.getD_eq_getD_getElem?, h1]
  | o :: r, k, listed, hd, hk, hs, hl, hc => by
    have hkn : k < ops.size := by simp at hk; omega
    have h0 : ops[k]? = some o := by
      have : ops.toList[k]? = some o := by rw [← Nat.add_zero k, ← List.getElem?_drop, hd]; rfl
      simpa using this
    have hr : ops.toList.drop (k + 1) = r := by rw [← List.drop_drop, hd]; rfl
    simp only [List.map_cons, chk, Bool.and_eq_true] at hc
    obtain ⟨⟨hc1, hc2⟩, hc3⟩ := hc
    have hlk : listed[k]? = some false := by rw [hl k hkn]; simp
    show ((Region.ready .any ops listed).contains k && Region.free .any ops listed k && Region.lexFrom .any ops r.length (k + 1) (listed.setIfInBounds k true)) = true
    rw [Bool.and_eq_true, Bool.and_eq_true]
    refine ⟨⟨?_, ?_⟩, ?_⟩
    · rw [List.contains_iff_mem]
      unfold Region.ready
      rw [List.mem_filter, List.mem_range]
      refine ⟨hkn, ?_⟩
      simp only [h0, Option.map_some, Option.getD_some, Bool.and_eq_true, Array.getD_eq_getD_getElem?, hlk, Bool.not_false, true_and]
      rw [Array.all_eq_true_iff_forall_mem]
      intro e he
      rw [Bool.or_eq_true]
      by_cases hb : Region.binds .any e = true
      · refine .inr ?_
        have h3 : decide (e.on < k) = true := List.all_eq_true.1 hc1 e.on (List.mem_map.2 ⟨e, List.mem_filter.2 ⟨by simpa using he, hb⟩, rfl⟩)
        rw [hl e.on (by have := of_decide_eq_true h3; omega), h3]
        rfl
      · exact .inl (by simpa using hb)
    · unfold Region.free
      rw [h0]
      show ((List.range ops.size).all _) = true
      rw [List.all_eq_true]
      intro j hj
      rw [List.mem_range] at hj
      by_cases hjk : j = k
      · simp [hjk]
      by_cases hlt : j < k
      · have : listed[j]? = some true := by rw [hl j hj]; simp [hlt]
        simp [Array.getD_eq_getD_getElem?, this]
      obtain ⟨oj, hoj⟩ : ∃ oj, ops[j]? = some oj := ⟨_, Array.getElem?_eq_getElem hj⟩
      have hmem : oj ∈ r := by
        rw [← hr]
        refine List.mem_iff_getElem?.2 ⟨j - (k + 1), ?_⟩
        rw [List.getElem?_drop, show k + 1 + (j - (k + 1)) = j by omega]
        simpa using hoj
      rw [Bool.or_eq_true]
      refine .inr ?_
      simp only [hoj]
      rw [Bool.or_eq_true]
      rcases row_mem hc2 (key ops oj) (List.mem_map.2 ⟨oj, hmem, rfl⟩) with h | h
      · refine .inl ?_
        rw [List.contains_iff_mem] at h
        obtain ⟨e, he, hon⟩ := List.mem_map.1 h
        obtain ⟨he1, he2⟩ := List.mem_filter.1 he
        rw [← Array.any_toList, List.any_eq_true]
        exact ⟨e, by simpa using he1, by rw [he2, hon]; simp⟩
      · exact .inr h
    · refine lexFrom_of r (k + 1) _ hr (by simp at hk; omega) (by simpa using hs) (fun j hj => ?_) hc3
      rw [Array.getElem?_setIfInBounds]
      by_cases hjk : k = j
      · subst hjk
        simp [hs, hkn]
      · rw [if_neg hjk, hl j hj]
        congr 1
        rw [decide_eq_decide]
        omega
theorem lexB_of {l : List Oper} (T : List (Option Nat × List Nat × List Nat)) (hsel : Region.noSelect l.toArray = true) (hT : l.map (key l.toArray) = T) (hc : chk 0 T = true) : Region.lexB .any l.toArray = true := by
  unfold Region.lexB
  rw [hsel, Bool.true_and]
  have := lexFrom_of (ops := l.toArray) l 0 (Array.replicate l.toArray.size false) (by simp) (by simp) (by simp) (fun j hj => by simp at hj; simp [hj]) (by rw [hT]; exact hc)
  simpa using this
end Rq
end Go.Proofs.YtjbkbkfhbombbaaDoor
