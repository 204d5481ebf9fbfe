/-
  The walks of QuoteUnlike, QuoteWithin and QuoteCut: each comes to true.
-/
import Derived.Test.YtbeliommhligcaaDoorQuoteRef
namespace Go.Proofs.YtbeliommhligcaaDoor
open Go.RowKit

namespace Qm
/-- a form that begins another one is that form -/
theorem esc_free : ∀ (s t u v : List UInt8), esc s ++ 34 :: u = esc t ++ 34 :: v → s = t
  | [], [], _, _, _ => rfl
  | [], d :: t, u, v, h => by
    rw [esc_nil, List.nil_append, esc_cons] at h
    by_cases hd : d = 34 ∨ d = 92
    · rw [if_pos hd] at h
      simp at h
    · rw [if_neg hd] at h
      simp only [List.cons_append, List.nil_append, List.cons.injEq] at h
      exact absurd (.inl h.1.symm) hd
  | c :: s, [], u, v, h => by
    rw [esc_nil, List.nil_append, esc_cons] at h
    by_cases hc : c = 34 ∨ c = 92
    · rw [if_pos hc] at h
      simp at h
    · rw [if_neg hc] at h
      simp only [List.cons_append, List.nil_append, List.cons.injEq] at h
      exact absurd (.inl h.1) hc
  | c :: s, d :: t, u, v, h => by
    rw [esc_cons, esc_cons] at h
    by_cases hc : c = 34 ∨ c = 92
    · rw [if_pos hc] at h
      by_cases hd : d = 34 ∨ d = 92
      · rw [if_pos hd] at h
        simp only [List.cons_append, List.nil_append, List.cons.injEq, true_and] at h
        rw [h.1, esc_free s t u v h.2]
      · rw [if_neg hd] at h
        simp only [List.cons_append, List.nil_append, List.cons.injEq] at h
        exact absurd (.inr h.1.symm) hd
    · rw [if_neg hc] at h
      by_cases hd : d = 34 ∨ d = 92
      · rw [if_pos hd] at h
        simp only [List.cons_append, List.nil_append, List.cons.injEq] at h
        exact absurd (.inr h.1) hc
      · rw [if_neg hd] at h
        simp only [List.cons_append, List.nil_append, List.cons.injEq] at h
        rw [h.1, esc_free s t u v h.2]
theorem quo_free (s t u v : List UInt8) (h : quo s ++ u = quo t ++ v) : s = t := by
  unfold quo at h
  simp only [List.cons_append, List.append_assoc, List.cons.injEq, true_and, List.nil_append] at h
  exact esc_free s t u v h
theorem quo_take {s t : List UInt8} (hne : s ≠ t) {n : Nat} (hn : n = min (quo s).length (quo t).length) : (quo s).take n ≠ (quo t).take n := by
  intro h
  rcases Nat.le_total (quo s).length (quo t).length with h1 | h1
  · rw [Nat.min_eq_left h1] at hn
    subst hn
    rw [List.take_length] at h
    apply hne
    have h2 := List.take_append_drop (quo s).length (quo t)
    rw [← h] at h2
    exact quo_free s t ((quo t).drop (quo s).length) [] (by rw [h2, List.append_nil])
  · rw [Nat.min_eq_right h1] at hn
    subst hn
    rw [List.take_length] at h
    apply hne
    have h2 := List.take_append_drop (quo t).length (quo s)
    rw [h] at h2
    exact quo_free s t [] ((quo s).drop (quo t).length) (by rw [h2, List.append_nil])
theorem quo_len (s : List UInt8) : (quo s).length ≤ 2 * s.length + 2 ∧ 2 ≤ (quo s).length := by
  have := (esc_len s).2
  unfold quo
  rw [List.length_cons, List.length_append, List.length_singleton]
  omega
end Qm
theorem S_ne {a b : List UInt8} (h : a ≠ b) : ((S a).toList == (S b).toList) = false := by rw [S_eq, beq_eq_false_iff_ne]; exact h
set_option maxRecDepth 100000 in
set_option maxHeartbeats 1600000 in
theorem law_QuoteUnlike (s t : ByteArray) (w : World) (hs : s.size ≤ maxLen) (ht : t.size ≤ maxLen) (hT : Tab w) :
    Calls Tryd.prog 5 #[.string s, .string t] w fun e w' => e = .returned (.bool true) ∧ Below w.heap.size w w' := by
  unfold maxLen at hs ht
  obtain ⟨l, rfl⟩ := as_S s
  obtain ⟨t, rfl⟩ := as_S t
  by_cases h1 : (3000 : Int) < ((S l).size : Int)
  · go_enter Tryd.func5, Tryd.ntmps5
    go_wp2_with fail
    refine (awake_any _ hT).mono ?_; rintro e w3 ⟨rfl, h3⟩
    go_wp2_with fail
    go_ret
    exact ⟨rfl, h3⟩
  by_cases h2 : (3000 : Int) < ((S t).size : Int)
  · go_enter Tryd.func5, Tryd.ntmps5
    go_wp2_with fail
    refine (awake_any _ hT).mono ?_; rintro e w3 ⟨rfl, h3⟩
    go_wp2_with fail
    go_ret
    exact ⟨rfl, h3⟩
  have z1 := S_size l
  have z2 := S_size t
  have hl : l.length ≤ 3000 := by omega
  have ht' : t.length ≤ 3000 := by omega
  cases hv : (LEN l).2
  · have HX := Lib.hid (QUO_no (l := l) (by omega) hv)
    obtain ⟨b, d, hy⟩ : ∃ b d, QUO t = (b, d) := ⟨_, _, rfl⟩
    have HY := Lib.hid hy
    clear hv hy
    go_enter Tryd.func5, Tryd.ntmps5
    go_wp2_with fail
    refine (awake_any _ hT).mono ?_; rintro e w1 ⟨rfl, h1⟩
    go_wp2_with fail
    refine (Quote_at h1 l (by omega) HX.out).mono ?_; rintro e w2 ⟨rfl, h2⟩
    go_wp2_with fail
    refine (Quote_at h2 t (by omega) HY.out).mono ?_; rintro e w3 ⟨rfl, h3⟩
    go_wp2_with fail
    go_ret
    exact ⟨rfl, h3⟩
  cases hu : (LEN t).2
  · have HX := Lib.hid (QUO_ok (l := l) (by omega) hv)
    have HY := Lib.hid (QUO_no (l := t) (by omega) hu)
    clear hv hu
    go_enter Tryd.func5, Tryd.ntmps5
    go_wp2_with fail
    refine (awake_any _ hT).mono ?_; rintro e w1 ⟨rfl, h1⟩
    go_wp2_with fail
    refine (Quote_at h1 l (by omega) HX.out).mono ?_; rintro e w2 ⟨rfl, h2⟩
    go_wp2_with fail
    refine (Quote_at h2 t (by omega) HY.out).mono ?_; rintro e w3 ⟨rfl, h3⟩
    go_wp2_with fail
    go_ret
    exact ⟨rfl, h3⟩
  have HX := QUO_ok (l := l) (by omega) hv
  have HY := QUO_ok (l := t) (by omega) hu
  have q1 := Qm.quo_len l
  have q2 := Qm.quo_len t
  have q3 : Hid (∀ n, l ≠ t → n = min (Qm.quo l).length (Qm.quo t).length → (Qm.quo l).take n ≠ (Qm.quo t).take n) := fun n h => Qm.quo_take h
  have q4 : Hid (l ≠ t → Qm.quo l ≠ Qm.quo t) := fun h e => h (Qm.quo_free l t [] [] (by rw [e]))
  have q5 : Hid (l = t → Qm.quo l = Qm.quo t) := fun h => by rw [h]
  generalize Qm.quo l = a at *
  generalize Qm.quo t = b at *
  have HX := Lib.hid HX
  have HY := Lib.hid HY
  clear hv hu
  have za := S_size a
  have zb := S_size b
  by_cases hlt : l = t
  · have e1 := q5.out hlt
    subst hlt
    subst e1
    go_enter Tryd.func5, Tryd.ntmps5
    go_wp2_with fail
    refine (awake_any _ hT).mono ?_; rintro e w1 ⟨rfl, h1⟩
    go_wp2_with fail
    refine (Quote_at h1 l (by omega) HX.out).mono ?_; rintro e w2 ⟨rfl, h2⟩
    go_wp2_with fail
    refine (Quote_at h2 l (by omega) HX.out).mono ?_; rintro e w3 ⟨rfl, h3⟩
    go_wp2_with fail
    go_region
    all_goals
      go_wp2_with fail
      go_ret
      exact ⟨rfl, h3.drew⟩
  · have f0 := S_ne hlt
    have f1 := S_ne (q4.out hlt)
    rcases Nat.lt_or_ge b.length a.length with hmin | hmin
    · have f2 := q3.out b.length hlt (by omega)
      have ta := S_take' a b.length
      have tb := S_take' b b.length
      rw [List.take_length] at tb f2
      generalize a.take b.length = x at *
      have f2 := S_ne f2
      clear hlt
      go_enter Tryd.func5, Tryd.ntmps5
      go_wp2_with fail
      refine (awake_any _ hT).mono ?_; rintro e w1 ⟨rfl, h1⟩
      go_wp2_with fail
      refine (Quote_at h1 l (by omega) HX.out).mono ?_; rintro e w2 ⟨rfl, h2⟩
      go_wp2_with fail
      refine (Quote_at h2 t (by omega) HY.out).mono ?_; rintro e w3 ⟨rfl, h3⟩
      go_wp2_with fail
      go_region
      all_goals
        go_wp2_with fail
        go_ret
        exact ⟨rfl, h3.drew⟩
    · have f2 := q3.out a.length hlt (by omega)
      have ta := S_take' a a.length
      have tb := S_take' b a.length
      rw [List.take_length] at ta f2
      generalize b.take a.length = x at *
      have f2 := S_ne f2
      clear hlt
      go_enter Tryd.func5, Tryd.ntmps5
      go_wp2_with fail
      refine (awake_any _ hT).mono ?_; rintro e w1 ⟨rfl, h1⟩
      go_wp2_with fail
      refine (Quote_at h1 l (by omega) HX.out).mono ?_; rintro e w2 ⟨rfl, h2⟩
      go_wp2_with fail
      refine (Quote_at h2 t (by omega) HY.out).mono ?_; rintro e w3 ⟨rfl, h3⟩
      go_wp2_with fail
      go_region
      all_goals
        go_wp2_with fail
        go_ret
        exact ⟨rfl, h3.drew⟩
end Go.Proofs.YtbeliommhligcaaDoor
