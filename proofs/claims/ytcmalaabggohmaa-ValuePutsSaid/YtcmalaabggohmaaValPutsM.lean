/-
  What the document's With gathers, name by name, is what With gives.
-/
import Derived.Test.YtcmalaabggohmaaValWitG
namespace Go.Proofs.Ytcmalaabggohmaa

namespace JV
/-- one name, with its Item: the new one ahead of it, if it is its turn; then itself, unless it is the new one's -/
def stp (l : List UInt8) (y : JV) (s : Bool × List (List UInt8) × List JV) (p : List UInt8) (z : JV) : Bool × List (List UInt8) × List JV :=
  (s.1 || (!s.1 && !Jn.lt p l), (if (!s.1 && !Jn.lt p l) = true then s.2.1 ++ [l] else s.2.1) ++ (if p = l then [] else [p]), (if (!s.1 && !Jn.lt p l) = true then s.2.2 ++ [y] else s.2.2) ++ (if p = l then [] else [z]))
def run (l : List UInt8) (y : JV) : Bool × List (List UInt8) × List JV → List (List UInt8) → List JV → Bool × List (List UInt8) × List JV
  | s, n :: ns, i :: is => run l y (stp l y s n i) ns is
  | s, _, _ => s
/-- behind the last name -/
def fin (l : List UInt8) (y : JV) (s : Bool × List (List UInt8) × List JV) : List (List UInt8) × List JV := if s.1 = true then s.2 else (s.2.1 ++ [l], s.2.2 ++ [y])
theorem run_snoc (l : List UInt8) (y : JV) (n : List UInt8) (i : JV) : ∀ (ns : List (List UInt8)) (is : List JV) (s : Bool × List (List UInt8) × List JV), ns.length = is.length → run l y s (ns ++ [n]) (is ++ [i]) = stp l y (run l y s ns is) n i
  | [], [], s, _ => rfl
  | m :: ns, j :: is, s, h => by
    rw [List.cons_append, List.cons_append, run, run]
    exact run_snoc l y n i ns is _ (by simpa using h)
theorem run_done (l : List UInt8) (y : JV) : ∀ (ns : List (List UInt8)) (is : List JV) (N : List (List UInt8)) (I : List JV), ns.length = is.length → (∀ n ∈ ns, n ≠ l) → run l y (true, N, I) ns is = (true, N ++ ns, I ++ is)
  | [], [], N, I, _, _ => by simp [run]
  | n :: ns, i :: is, N, I, h, hn => by
    have h1 := hn n List.mem_cons_self
    rw [run, show stp l y (true, N, I) n i = (true, N ++ [n], I ++ [i]) by simp [stp, h1], run_done l y ns is _ _ (by simpa using h) fun m hm => hn m (List.mem_cons_of_mem _ hm)]
    simp
theorem run_put (l : List UInt8) (y : JV) : ∀ (ns : List (List UInt8)) (is : List JV) (N : List (List UInt8)) (I : List JV), ns.length = is.length → Jn.rise ns = true → fin l y (run l y (false, N, I) ns is) = (N ++ putN ns l, I ++ putI ns l is y)
  | [], [], N, I, _, _ => by rw [putN_nil, putI_nil]; simp [run, fin]
  | n :: ns, i :: is, N, I, h, hr => by
    have hl : ns.length = is.length := by simpa using h
    cases hlt : Jn.lt n l with
    | true =>
      rw [run, show stp l y (false, N, I) n i = (false, N ++ [n], I ++ [i]) by simp [stp, hlt, ne_of_lt hlt], run_put l y ns is _ _ hl (Jn.rise_tail hr), putN_lt hlt, putI_lt hlt]
      simp
    | false =>
      by_cases e : n = l
      · subst e
        rw [run, show stp n y (false, N, I) n i = (true, N ++ [n], I ++ [y]) by simp [stp, hlt], run_done n y ns is _ _ hl fun m hm => (ne_of_lt (rise_above hr hm)).symm, putN_eq, putI_eq]
        simp [fin]
      · have hno : ∀ m ∈ ns, m ≠ l := fun m hm h2 => by
          have := rise_above hr hm
          rw [h2, hlt] at this
          cases this
        rw [run, show stp l y (false, N, I) n i = (true, N ++ [l] ++ [n], I ++ [y] ++ [i]) by simp [stp, hlt, e], run_done l y ns is _ _ hl hno, putN_gt hlt e, putI_gt hlt e]
        simp [fin]
theorem stp_len (l : List UInt8) (y : JV) (s : Bool × List (List UInt8) × List JV) (p : List UInt8) (z : JV) (h : s.2.1.length = s.2.2.length) : (stp l y s p z).2.1.length = (stp l y s p z).2.2.length ∧ (stp l y s p z).2.1.length ≤ s.2.1.length + 2 := by
  unfold stp
  constructor
  · repeat' split
    all_goals simp [h]
  · repeat' split
    all_goals simp
theorem run_len (l : List UInt8) (y : JV) : ∀ (ns : List (List UInt8)) (is : List JV) (s : Bool × List (List UInt8) × List JV), s.2.1.length = s.2.2.length → (run l y s ns is).2.1.length = (run l y s ns is).2.2.length ∧ (run l y s ns is).2.1.length ≤ s.2.1.length + 2 * ns.length
  | [], is, s, h => by cases is <;> exact ⟨h, by simp [run]⟩
  | n :: ns, [], s, h => ⟨h, by simp [run]⟩
  | n :: ns, i :: is, s, h => by
    have h1 := stp_len l y s n i h
    have h2 := run_len l y ns is _ h1.1
    rw [run]
    refine ⟨h2.1, ?_⟩
    rw [List.length_cons]
    omega
theorem putN_mem {ns : List (List UInt8)} {l x : List UInt8} (h : x ∈ putN ns l) : x = l ∨ x ∈ ns := by
  unfold putN at h
  split at h
  · exact .inr h
  · simp only [List.mem_append, List.mem_singleton] at h
    rcases h with (h | h) | h
    · exact .inr (List.mem_of_mem_take h)
    · exact .inl h
    · exact .inr (List.mem_of_mem_drop h)
end JV
end Go.Proofs.Ytcmalaabggohmaa
