/-
  'a, b, c, d := v, v, v, v' of ValueElse and 'was, then := value.Copy(v), value.Copy(x)' of ValueApart, which draw their order.
-/
import Derived.Test.YtcmalaabggohmaaValVars
namespace Go.Proofs.Ytcmalaabggohmaa
open Go.RowKit

/-! A value that may be, with anything more. -/
namespace JV
theorem not_may {x : JV} (h : x.part = false) : x.may = false := by
  unfold may
  rw [h, Bool.false_and]
theorem part_of_may {x : JV} (h : x.may = true) : x.part = true := by
  unfold may at h
  rw [Bool.and_eq_true] at h
  exact h.1
theorem more_n {k : Nat} {n m : Int} {t : List UInt8} {ns : List (List UInt8)} {is : List JV} (h : part (.mk k n t ns is) = true) (hk : k ≠ 2) (hn : m ≠ n) (hb : k ≠ 1 ∨ (m ≠ 0 ∧ m ≠ 1)) : part (.mk k m t ns is) = false := by
  rw [part] at h ⊢
  by_cases h1 : k = 1
  · rw [if_pos h1]
    rcases hb with hb | hb
    · exact absurd h1 hb
    · simp [hb.1, hb.2]
  · rw [if_neg h1, if_neg hk] at h ⊢
    by_cases h3 : k = 3
    · rw [if_pos h3] at h ⊢
      simp at h
      have : m ≠ 0 := fun e => hn (by rw [e, h.1])
      simp [this]
    · rw [if_neg h3] at h ⊢
      by_cases h4 : k = 4 ∨ k = 5
      · rw [if_pos h4] at h ⊢
        simp at h
        have : m ≠ 0 := fun e => hn (by rw [e, h.1.1])
        simp [this]
      · rw [if_neg h4]
theorem more_t {k : Nat} {n : Int} {u : List UInt8} {ns : List (List UInt8)} {is : List JV} (hk : k ≠ 3) (hu : u ≠ []) : part (.mk k n u ns is) = false := by
  rw [part]
  have hl : (u.length == 0) = false := beq_eq_false_iff_ne.2 fun e => hu (List.length_eq_zero_iff.1 e)
  rw [hl, if_neg hk]
  simp
theorem more_ns {k : Nat} {n : Int} {t l : List UInt8} {ns : List (List UInt8)} {is : List JV} (h : part (.mk k n t ns is) = true) : part (.mk k n t (ns ++ [l]) is) = false := by
  rw [part] at h ⊢
  have hl : ((ns ++ [l]).length == 0) = false := beq_eq_false_iff_ne.2 (by simp)
  rw [hl]
  by_cases h5 : k = 5
  · subst h5
    simp at h
    have hne : ((ns ++ [l]).length == is.length) = false := beq_eq_false_iff_ne.2 (by rw [List.length_append, List.length_singleton]; omega)
    rw [hne]
    simp
  · by_cases h4 : k = 4
    · subst h4
      simp
    · rw [if_neg (show ¬ (k = 4 ∨ k = 5) by omega)]
      simp
theorem more_is {k : Nat} {n : Int} {t : List UInt8} {ns : List (List UInt8)} {is : List JV} {y : JV} (h : part (.mk k n t ns is) = true) (hk : k ≠ 4) : part (.mk k n t ns (is ++ [y])) = false := by
  rw [part] at h ⊢
  have hl : ((is ++ [y]).length == 0) = false := beq_eq_false_iff_ne.2 (by simp)
  rw [hl]
  by_cases h5 : k = 5
  · subst h5
    simp at h
    have hne : (ns.length == (is ++ [y]).length) = false := beq_eq_false_iff_ne.2 (by rw [List.length_append, List.length_singleton]; omega)
    rw [hne]
    simp
  · rw [if_neg (show ¬ (k = 4 ∨ k = 5) by omega)]
    simp
end JV
def Tel : List (Option Tmp × Op × List Nat) :=
  [(some 29, Op.load 25 (Operand.tmp 3), []),
   (some 30, Op.load 25 (Operand.tmp 3), []),
   (some 31, Op.load 25 (Operand.tmp 3), []),
   (some 32, Op.load 25 (Operand.tmp 3), []),
   (some 7, Op.alloc 25, []),
   (some 8, Op.alloc 25, []),
   (some 9, Op.alloc 25, []),
   (some 10, Op.alloc 25, []),
   (none, Op.store 25 (Operand.tmp 7) (Operand.tmp 29), [4, 0, 0, 4, 5, 6, 7]),
   (none, Op.store 25 (Operand.tmp 8) (Operand.tmp 30), [5, 1, 8, 0, 1, 4, 5, 6, 7, 8]),
   (none, Op.store 25 (Operand.tmp 9) (Operand.tmp 31), [6, 2, 9, 0, 1, 2, 4, 5, 6, 7, 8, 9]),
   (none, Op.store 25 (Operand.tmp 10) (Operand.tmp 32), [7, 3, 10, 0, 1, 2, 3, 4, 5, 6, 7, 8, 9, 10])]
def Del (k : Nat) : Nat := [29, 30, 31, 32, 7, 8, 9, 10].getD k 0
def pel (i : Nat) : Bool := [29, 30, 31, 32, 7, 8, 9, 10].contains i
def kel (k : Nat) : Kd := if k < 4 then .grow else if k < 8 then .var else .put (k - 4) (k - 8)
theorem kel_put {i a s : Nat} (h : kel i = .put a s) : 8 ≤ i ∧ a = i - 4 ∧ s = i - 8 := by
  unfold kel at h
  split at h
  · cases h
  · split at h
    · cases h
    · simp only [Kd.put.injEq] at h
      omega
set_option maxHeartbeats 1000000 in
set_option maxRecDepth 10000 in
theorem region_el {ops : Array Oper} {Q : Exit → Act → World → Prop} {A : Act} {id : Nat} {w : World}
    (hkey : ops.toList.map keyOf = Tel.map fun x => (x.1, x.2.1, true, x.2.2)) (hlow : (List.range ops.size).all (fun i => match ops[i]? with | some o => o.after.all (fun e => !Region.binds .any e || decide (e.on < i)) | none => true) = true)
    (hsz : 32 < A.tmps.size) {xb : Nat} {c0 c1 c2 c3 c4 : Value} (e3 : A.eval (.tmp 3) = .pointer (some ⟨xb, 0, none⟩)) (V3 : VAt xb w c0 c1 c2 c3 c4) (hone : ∀ z ∈ [c0, c1, c2, c3, c4], z.oneCell' = true)
    (fin : ∀ (f : Nat → Value) u b7 b8 b9 b10, f 7 = .pointer (some ⟨b7, 0, none⟩) → f 8 = .pointer (some ⟨b8, 0, none⟩) → f 9 = .pointer (some ⟨b9, 0, none⟩) → f 10 = .pointer (some ⟨b10, 0, none⟩) →
      VAt b7 u c0 c1 c2 c3 c4 → VAt b8 u c0 c1 c2 c3 c4 → VAt b9 u c0 c1 c2 c3 c4 → VAt b10 u c0 c1 c2 c3 c4 → (w.heap.size ≤ b7 ∧ w.heap.size ≤ b8 ∧ w.heap.size ≤ b9 ∧ w.heap.size ≤ b10) →
      (b7 ≠ b8 ∧ b7 ≠ b9 ∧ b7 ≠ b10 ∧ b8 ≠ b9 ∧ b8 ≠ b10 ∧ b9 ≠ b10) → Below w.heap.size w u → Q .normal (putR A pel f) u) : (Code.region id ops true).wp Try.prog Q A w := by
  refine wp_region_vars Tel hkey hlow pel Del kel ?_ ?_ (fun _ _ _ v => v = .agg #[c0, c1, c2, c3, c4]) (fun _ _ _ _ _ _ _ _ _ h => h) (fun _ _ _ _ h _ _ _ => ⟨c0, c1, c2, c3, c4, h, hone⟩) ?_ ?_ ?_ ?_ ?_
  · intro k x hx hk
    rcases k with _ | _ | _ | _ | _ | _ | _ | _ | _ | _ | _ | _ | k
    all_goals simp only [Tel, List.getElem?_cons_zero, List.getElem?_cons_succ, List.getElem?_nil, Option.some.injEq, reduceCtorEq] at hx
    all_goals subst hx
    all_goals first | exact ⟨rfl, rfl, Nat.lt_of_le_of_lt (by show (_ : Nat) ≤ 32; decide) hsz⟩ | (exfalso; revert hk; decide) | (exfalso; rcases hk with hk | hk <;> cases hk)
  · intro i hi j hj hni hnj h
    have hi8 : i < 8 := Nat.lt_of_not_le fun h8 => hni (i - 4) (i - 8) (by unfold kel; rw [if_neg (by omega), if_neg (by omega)])
    have hj8 : j < 8 := Nat.lt_of_not_le fun h8 => hnj (j - 4) (j - 8) (by unfold kel; rw [if_neg (by omega), if_neg (by omega)])
    revert h
    exact (show ∀ i, i < 8 → ∀ j, j < 8 → Del i = Del j → i = j by decide) i hi8 j hj8
  · intro k x hx hk
    rcases k with _ | _ | _ | _ | _ | _ | _ | _ | _ | _ | _ | _ | k
    all_goals simp only [Tel, List.getElem?_cons_zero, List.getElem?_cons_succ, List.getElem?_nil, Option.some.injEq, reduceCtorEq] at hx
    all_goals subst hx
    all_goals first | rfl | (exfalso; cases hk)
  · intro k x a s hx hk
    obtain ⟨h1, rfl, rfl⟩ := kel_put hk
    rcases k with _ | _ | _ | _ | _ | _ | _ | _ | _ | _ | _ | _ | k
    all_goals simp only [Tel, List.getElem?_cons_zero, List.getElem?_cons_succ, List.getElem?_nil, Option.some.injEq, reduceCtorEq] at hx
    all_goals subst hx
    all_goals first | (exfalso; omega) | exact ⟨rfl, rfl, by simp, by simp, rfl, rfl, by decide, by decide⟩
  · intro i j a s s' hi hj h1 h2
    have := kel_put h1
    have := kel_put h2
    omega
  · intro k x a u O hx hk hb hO hout hdep o hd hop
    rcases k with _ | _ | _ | _ | _ | _ | _ | _ | _ | _ | _ | _ | k
    all_goals simp only [Tel, List.getElem?_cons_zero, List.getElem?_cons_succ, List.getElem?_nil, Option.some.injEq, reduceCtorEq] at hx
    all_goals subst hx
    all_goals first | (exfalso; cases hk; done) | exact op_load hop ((hout 3 rfl).trans e3) (ld_box (V3.below hb)) ⟨_, rfl, rfl, Below.refl _ _⟩
  · intro listed f u hall hI
    have get (k s : Nat) (hk : kel k = .var) (hkl : k < 12) (hp : kel (k + 4) = .put k s) (hl : k + 4 < 12) (hs : kel s = .grow) (hsl : s < 12) : ∃ b, f (Del k) = .pointer (some ⟨b, 0, none⟩) ∧ VAt b u c0 c1 c2 c3 c4 ∧ w.heap.size ≤ b := by
      obtain ⟨b, h1, h2, _, h4⟩ := hI.var k (hall k hkl) hk
      obtain ⟨d0, d1, d2, d3, d4, h5, h6⟩ := (h4 (k + 4) s hl hp).2 (hall _ hl)
      have h7 := hI.grow s (hall s hsl) hs
      rw [h5] at h7
      simp only [Value.agg.injEq, Array.mk.injEq, List.cons.injEq, and_true] at h7
      obtain ⟨rfl, rfl, rfl, rfl, rfl⟩ := h7
      exact ⟨b, h1, h6, h2⟩
    obtain ⟨b7, f7, v7, s7⟩ := get 4 0 rfl (by decide) rfl (by decide) rfl (by decide)
    obtain ⟨b8, f8, v8, s8⟩ := get 5 1 rfl (by decide) rfl (by decide) rfl (by decide)
    obtain ⟨b9, f9, v9, s9⟩ := get 6 2 rfl (by decide) rfl (by decide) rfl (by decide)
    obtain ⟨b10, f10, v10, s10⟩ := get 7 3 rfl (by decide) rfl (by decide) rfl (by decide)
    have ne (k k' b b' : Nat) (h1 : k < 12) (h2 : k' < 12) (h3 : kel k = .var) (h4 : kel k' = .var) (h5 : f (Del k) = .pointer (some ⟨b, 0, none⟩)) (h6 : f (Del k') = .pointer (some ⟨b', 0, none⟩)) (hne : k ≠ k') : b ≠ b' := fun e => hne (hI.inj k k' b (hall k h1) (hall k' h2) h3 h4 h5 (by rw [h6, e]))
    exact fin f u b7 b8 b9 b10 f7 f8 f9 f10 v7 v8 v9 v10 ⟨s7, s8, s9, s10⟩ ⟨ne 4 5 _ _ (by decide) (by decide) rfl rfl f7 f8 (by decide), ne 4 6 _ _ (by decide) (by decide) rfl rfl f7 f9 (by decide), ne 4 7 _ _ (by decide) (by decide) rfl rfl f7 f10 (by decide), ne 5 6 _ _ (by decide) (by decide) rfl rfl f8 f9 (by decide), ne 5 7 _ _ (by decide) (by decide) rfl rfl f8 f10 (by decide), ne 6 7 _ _ (by decide) (by decide) rfl rfl f9 f10 (by decide)⟩ hI.below
end Go.Proofs.Ytcmalaabggohmaa
