/-
  append([]T{}, row...) of a row that came in: the empty literal's block, then a row of the call's own.
-/
import Derived.Test.YtcmalaabggohmaaValElsG
import Derived.Test.YtcmalaabggohmaaValCopy
namespace Go.Proofs.Ytcmalaabggohmaa
open Go.RowKit

/-- the cells of a row of values that lies in memory -/
theorem HI.cells {w : World} {blk : Nat} : ∀ {is : List JV} {off : Nat}, HI w blk off is → ∃ cs : List Value, HCS w cs is ∧ ∀ j u, cs[j]? = some u → w.cell? ⟨blk, off + j, none⟩ = some u
  | [], off, _ => ⟨[], HCS.nil w, fun j u h => by simp at h⟩
  | x :: is, off, h => by
    unfold HI at h
    obtain ⟨⟨c0, c1, c2, c3, c4, g0, g1, g2, g3, g4, hc⟩, h2⟩ := h
    obtain ⟨cs, h3, h4⟩ := HI.cells h2
    refine ⟨c0 :: c1 :: c2 :: c3 :: c4 :: cs, ⟨c0, c1, c2, c3, c4, cs, rfl, hc, h3⟩, fun j u hj => ?_⟩
    rcases j with _ | _ | _ | _ | _ | j
    · simp at hj; subst hj; exact g0
    · simp at hj; subst hj; exact g1
    · simp at hj; subst hj; exact g2
    · simp at hj; subst hj; exact g3
    · simp at hj; subst hj; exact g4
    · have := h4 j u (by simpa using hj)
      rw [show off + (j + 1 + 1 + 1 + 1 + 1) = off + 5 + j by omega]
      exact this
theorem HCS.ones {w : World} : ∀ {xs : List JV} {cs : List Value}, HCS w cs xs → ∀ u ∈ cs, u.oneCell' = true
  | [], cs, h, u, hu => by
    rw [show cs = [] from h] at hu
    simp at hu
  | x :: xs, cs, ⟨c0, c1, c2, c3, c4, r, h1, h2, h3⟩, u, hu => by
    obtain ⟨a, b, ca, cb, hf, _⟩ := h2.form
    simp only [List.cons.injEq, and_true] at hf
    obtain ⟨rfl, rfl, rfl, rfl, rfl⟩ := hf
    subst h1
    simp only [List.mem_cons] at hu
    rcases hu with rfl | rfl | rfl | rfl | rfl | hu
    · rfl
    · rfl
    · rfl
    · rfl
    · rfl
    · exact HCS.ones h3 u hu
theorem own0 (W : World) (e : TypeId) (sz : Nat) : (W.alloc (.cells #[] e)).ownsRow W.heap.size e sz (.slice (some ⟨W.heap.size, 0, none⟩) 0 0) 0 [] :=
  ⟨by simp, .inr ⟨W.heap.size, 0, #[], rfl, Nat.le_refl _, heap_alloc_new W _, Nat.le_refl _, Nat.zero_le _, by simp, by simp⟩⟩
theorem run_append_nil (W : World) (ty : TypeId) (g c : Nat) : (Builtin.append_ #[22, 22] ty #[.slice (some ⟨g, 0, none⟩) 0 0, .slice none 0 c]).run Try.prog W = .ok (.slice (some ⟨g, 0, none⟩) 0 0) W := by
  have hu := Try.underlying22
  obtain ⟨i0, hi0, hz0, hz1, hz2⟩ := info_parts info_name
  simp [Builtin.append_, run_underlying hu, sizeOf, typeInfo, hi0, Builtin.lenOf, Builtin.firstCells, storeCells]
theorem run_append_nil2 (W : World) (ty : TypeId) (g c : Nat) : (Builtin.append_ #[23, 23] ty #[.slice (some ⟨g, 0, none⟩) 0 0, .slice none 0 c]).run Try.prog W = .ok (.slice (some ⟨g, 0, none⟩) 0 0) W := by
  have hu := Try.underlying23
  obtain ⟨i0, hi0, hz0, hz1, hz2⟩ := info_parts info_val
  simp [Builtin.append_, run_underlying hu, sizeOf, typeInfo, hi0, Builtin.lenOf, Builtin.firstCells, storeCells]
/-- append([]string{}, names...) -/
theorem run_names0 (W : World) (ty : TypeId) (a : Option Addr) (ca : Nat) (ns : List (List UInt8)) (hN : NS W a ns) (hl : ns.length ≤ 90000) :
    ∃ p l k w', (Builtin.append_ #[22, 22] ty #[.slice (some ⟨W.heap.size, 0, none⟩) 0 0, .slice a ns.length ca]).run Try.prog (W.alloc (.cells #[] 9)) = .ok (.slice p l k) w' ∧ w'.ownsRow W.heap.size 9 1 (.slice p l k) ns.length (NC ns) ∧ Below W.heap.size W w' := by
  obtain ⟨i0, hi0, hz0, hz1, hz2⟩ := info_parts info_name
  have ba : Below W.heap.size W (W.alloc (.cells #[] 9)) := (Below.refl _ _).alloc (Nat.le_refl _) _
  have hN := hN.below ba
  cases a with
  | none =>
    have h0 : ns = [] := by
      rcases ns with _ | ⟨n, r⟩
      · rfl
      · obtain ⟨b, o, h, _⟩ := hN 0 n rfl
        cases h
    subst h0
    exact ⟨_, _, _, _, run_append_nil _ ty _ ca, own0 W _ 1, ba⟩
  | some ad =>
    obtain ⟨v', w', hr, g1, g2, _⟩ := run_append_own (P := Try.prog) (W.alloc (.cells #[] 9)) W.heap.size 22 ty 9 i0 (.string ⟨#[]⟩) 1 16 Try.underlying22 hi0 hz0 hz1 hz2 rfl (by decide) _ 0 [] (own0 W _ 1) ad ns.length ca (NC ns) (by simp [NC]) (fun j u hj => by
      have hx : ∃ x, ns[j]? = some x ∧ u = .string (S x) := by
        simp only [NC, List.getElem?_map, Option.map_eq_some_iff] at hj
        obtain ⟨x, h1, h2⟩ := hj
        exact ⟨x, h1, h2.symm⟩
      obtain ⟨x, h1, rfl⟩ := hx
      obtain ⟨b, o, h2, h3⟩ := hN j x h1
      obtain rfl : ad = ⟨b, o, none⟩ := by simpa using h2
      rw [show (⟨b, o, none⟩ : Addr).add j = ⟨b, o + j, none⟩ by unfold Addr.add; split <;> simp_all]
      exact h3) (fun u hu => by
      simp only [NC, List.mem_map] at hu
      obtain ⟨x, _, rfl⟩ := hu
      rfl) (by unfold maxLen; omega) (by omega) (by simp)
    rw [Nat.zero_add, List.nil_append] at g1
    obtain ⟨p, l, k, rfl⟩ : ∃ pp ll kk, v' = .slice pp ll kk := by
      rcases g1.2 with ⟨rfl, _⟩ | ⟨g, cap, _, rfl, _⟩
      · exact ⟨_, _, _, rfl⟩
      · exact ⟨_, _, _, rfl⟩
    exact ⟨p, l, k, w', hr, g1, ba.grown g2 (by simp) (fun k e => by simp [Value.ownBlock] at e; omega)⟩
/-- append([]api.Value{}, Items...) -/
theorem run_items0 (W0 W : World) (h0 : Below W0.heap.size W0 W) (ty : TypeId) (a : Option Addr) (ca : Nat) (is : List JV) (hI : is = [] ∨ ∃ blk off, a = some ⟨blk, off, none⟩ ∧ HI W0 blk off is) (hl : is.length ≤ 90000) :
    ∃ p l k w' cs, (Builtin.append_ #[23, 23] ty #[.slice (some ⟨W.heap.size, 0, none⟩) 0 0, .slice a is.length ca]).run Try.prog (W.alloc (.cells #[] 25)) = .ok (.slice p l k) w' ∧ w'.ownsRow W.heap.size 25 5 (.slice p l k) is.length cs ∧ HCS W0 cs is ∧ Below W.heap.size W w' := by
  obtain ⟨i0, hi0, hz0, hz1, hz2⟩ := info_parts info_val
  have ba : Below W.heap.size W (W.alloc (.cells #[] 25)) := (Below.refl _ _).alloc (Nat.le_refl _) _
  have hcs : ∃ cs, HCS W0 cs is ∧ ∀ ad, a = some ad → ∀ j u, cs[j]? = some u → W.cell? (ad.add j) = some u := by
    rcases hI with rfl | ⟨blk, off, rfl, h⟩
    · exact ⟨[], HCS.nil W0, fun _ _ j u h => by simp at h⟩
    · obtain ⟨cs, h1, h2⟩ := HI.cells h
      refine ⟨cs, h1, fun ad e j u hj => ?_⟩
      obtain rfl : ad = ⟨blk, off, none⟩ := by simpa using e.symm
      rw [show (⟨blk, off, none⟩ : Addr).add j = ⟨blk, off + j, none⟩ by unfold Addr.add; split <;> simp_all]
      exact (h0.cell (World.block_lt_of_cell? W0 _ (h2 j u hj))).trans (h2 j u hj)
  obtain ⟨cs, hH, hc⟩ := hcs
  cases a with
  | none =>
    have h00 : is = [] := by
      rcases hI with h | ⟨_, _, h, _⟩
      · exact h
      · cases h
    subst h00
    obtain rfl : cs = [] := hH
    exact ⟨_, _, _, _, [], run_append_nil2 _ ty _ ca, own0 W _ 5, HCS.nil W0, ba⟩
  | some ad =>
    obtain ⟨v', w', hr, g1, g2, _⟩ := run_append_own (P := Try.prog) (W.alloc (.cells #[] 25)) W.heap.size 23 ty 25 i0 (.agg V5) 5 80 Try.underlying23 hi0 hz0 hz1 hz2 rfl (by decide) _ 0 [] (own0 W _ 5) ad is.length ca cs (by rw [hH.len]) (fun j u hj => by
      have := hc ad rfl j u hj
      exact (ba.cell (World.block_lt_of_cell? W _ this)).trans this) (HCS.ones hH) (by unfold maxLen; omega) (by omega) (by simp)
    rw [Nat.zero_add, List.nil_append] at g1
    obtain ⟨p, l, k, rfl⟩ : ∃ pp ll kk, v' = .slice pp ll kk := by
      rcases g1.2 with ⟨rfl, _⟩ | ⟨g, cap, _, rfl, _⟩
      · exact ⟨_, _, _, rfl⟩
      · exact ⟨_, _, _, rfl⟩
    exact ⟨p, l, k, w', cs, hr, g1, hH, ba.grown g2 (by simp) (fun k e => by simp [Value.ownBlock] at e; omega)⟩
end Go.Proofs.Ytcmalaabggohmaa
