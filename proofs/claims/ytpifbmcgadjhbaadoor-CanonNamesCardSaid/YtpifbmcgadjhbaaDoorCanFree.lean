/-
  The one form of a value tells the value, wherever it ends (no program).
-/
import Derived.Test.YtpifbmcgadjhbaaDoorCanMath
namespace Go.Proofs.YtpifbmcgadjhbaaDoor
open Go.RowKit
namespace Cn

theorem cat_cons (b : Bool) (x : JV) (xs : List JV) : cat b (x :: xs) = hd b ++ (form x ++ cat true xs) := by rw [cat]
theorem mem_cons (b : Bool) (n : List UInt8) (ns : List (List UInt8)) (x : JV) (xs : List JV) : mem b (n :: ns) (x :: xs) = hd b ++ (Qm.quo n ++ 58 :: (form x ++ mem true ns xs)) := by rw [mem]
/-- what ends a list is not what an Item begins with -/
theorem no_end {x : JV} (h : x.part = true) (b : Bool) {c : UInt8} (hc : c = 93 ∨ c = 125) {u v : List UInt8} : c :: u ≠ hd b ++ (form x ++ v) := by
  intro e
  cases b with
  | true =>
    have : c = 44 := by have := List.cons.inj e; exact this.1
    rcases hc with rfl | rfl <;> exact absurd this (by decide)
  | false =>
    obtain ⟨d, r, e1, k1⟩ := form_kd h
    rw [e1] at e
    have h2 : c = d := (List.cons.inj e).1
    subst h2
    have h3 := part_k h
    rw [← k1] at h3
    rcases hc with rfl | rfl <;> exact absurd h3 (by decide)
theorem no_end2 (n : List UInt8) (b : Bool) {c : UInt8} (hc : c = 93 ∨ c = 125) {u v : List UInt8} : c :: u ≠ hd b ++ (Qm.quo n ++ v) := by
  intro e
  cases b with
  | true =>
    have : c = 44 := (List.cons.inj e).1
    rcases hc with rfl | rfl <;> exact absurd this (by decide)
  | false =>
    have : c = 34 := (List.cons.inj e).1
    rcases hc with rfl | rfl <;> exact absurd this (by decide)
theorem form_1 (n : Int) (t : List UInt8) (ns : List (List UInt8)) (is : List JV) : form (.mk 1 n t ns is) = if n = 1 then TRUE else FALSE := by
  rw [form, if_neg (by decide), if_neg (by decide), if_neg (by decide), if_neg (by decide)]
theorem form_2 (n : Int) (t : List UInt8) (ns : List (List UInt8)) (is : List JV) : form (.mk 2 n t ns is) = Lib.itoa n := by
  rw [form, if_neg (by decide), if_neg (by decide), if_pos rfl]
theorem form_3 (n : Int) (t : List UInt8) (ns : List (List UInt8)) (is : List JV) : form (.mk 3 n t ns is) = Qm.quo t := by
  rw [form, if_neg (by decide), if_neg (by decide), if_neg (by decide), if_pos rfl]
theorem form_4 (n : Int) (t : List UInt8) (ns : List (List UInt8)) (is : List JV) : form (.mk 4 n t ns is) = 91 :: (cat false is ++ [93]) := by
  rw [form, if_pos rfl]
theorem form_5 (n : Int) (t : List UInt8) (ns : List (List UInt8)) (is : List JV) : form (.mk 5 n t ns is) = 123 :: (mem false ns is ++ [125]) := by
  rw [form, if_neg (by decide), if_pos rfl]
set_option maxHeartbeats 1000000 in
mutual
theorem form_free : ∀ (x y : JV), x.part = true → y.part = true → ∀ u v : List UInt8, form x ++ u = form y ++ v → (x.k = 2 → Dst u ∧ Dst v) → x = y ∧ u = v
  | .mk k n t ns is, .mk k' n' t' ns' is', hx, hy, u, v, h, hdst => by
    obtain ⟨c, r, e1, k1⟩ := form_kd hx
    obtain ⟨d, s, e2, k2⟩ := form_kd hy
    have hcd : c = d := by rw [e1, e2] at h; exact (List.cons.inj h).1
    have hk : k = k' := by
      have h3 : kd c = kd d := by rw [hcd]
      rw [k1, k2] at h3
      exact h3
    subst hk
    clear e1 e2 k1 k2 hcd
    obtain ⟨p1, p2, p3, p4, p5⟩ := part_bare hx
    obtain ⟨q1, q2, q3, q4, q5⟩ := part_bare hy
    have hk5 : k = 1 ∨ k = 2 ∨ k = 3 ∨ k = 4 ∨ k = 5 := part_k hx
    rcases hk5 with e | e | e | e | e
    · obtain ⟨a1, rfl, rfl, rfl⟩ := p1 e
      obtain ⟨b1, rfl, rfl, rfl⟩ := q1 e
      subst e
      rw [form_1, form_1] at h
      rcases a1 with rfl | rfl <;> rcases b1 with rfl | rfl
      · exact ⟨rfl, List.append_cancel_left h⟩
      · exact absurd (List.cons.inj h).1 (by decide)
      · exact absurd (List.cons.inj h).1 (by decide)
      · exact ⟨rfl, List.append_cancel_left h⟩
    · obtain ⟨rfl, rfl, rfl⟩ := p2 e
      obtain ⟨rfl, rfl, rfl⟩ := q2 e
      obtain ⟨hu, hv⟩ := hdst e
      subst e
      rw [form_2, form_2] at h
      obtain ⟨rfl, rfl⟩ := itoa_free hu hv h
      exact ⟨rfl, rfl⟩
    · obtain ⟨rfl, rfl, rfl, _⟩ := p3 e
      obtain ⟨rfl, rfl, rfl, _⟩ := q3 e
      subst e
      rw [form_3, form_3] at h
      obtain ⟨rfl, rfl⟩ := quo_free h
      exact ⟨rfl, rfl⟩
    · obtain ⟨rfl, rfl, rfl, g1⟩ := p4 e
      obtain ⟨rfl, rfl, rfl, g2⟩ := q4 e
      subst e
      rw [form_4, form_4] at h
      simp only [List.cons_append, List.append_assoc, List.cons.injEq, true_and, List.nil_append] at h
      obtain ⟨rfl, rfl⟩ := cat_free is is' g1 g2 false u v h
      exact ⟨rfl, rfl⟩
    · obtain ⟨rfl, rfl, l1, _, g1, _⟩ := p5 e
      obtain ⟨rfl, rfl, l2, _, g2, _⟩ := q5 e
      subst e
      rw [form_5, form_5] at h
      simp only [List.cons_append, List.append_assoc, List.cons.injEq, true_and, List.nil_append] at h
      obtain ⟨rfl, rfl, rfl⟩ := mem_free is is' g1 g2 false ns ns' l1 l2 u v h
      exact ⟨rfl, rfl⟩
theorem cat_free : ∀ (xs ys : List JV), JV.parts xs = true → JV.parts ys = true → ∀ (b : Bool) (u v : List UInt8), cat b xs ++ 93 :: u = cat b ys ++ 93 :: v → xs = ys ∧ u = v
  | [], [], _, _, b, u, v, h => by
    rw [cat] at h
    exact ⟨rfl, (List.cons.inj h).2⟩
  | [], y :: ys, _, hy, b, u, v, h => by
    rw [JV.parts, Bool.and_eq_true] at hy
    rw [cat, cat_cons, List.nil_append, List.append_assoc, List.append_assoc] at h
    exact absurd h (no_end hy.1 b (.inl rfl))
  | x :: xs, [], hx, _, b, u, v, h => by
    rw [JV.parts, Bool.and_eq_true] at hx
    rw [cat_cons, cat, List.nil_append, List.append_assoc, List.append_assoc] at h
    exact absurd h.symm (no_end hx.1 b (.inl rfl))
  | x :: xs, y :: ys, hx, hy, b, u, v, h => by
    rw [JV.parts, Bool.and_eq_true] at hx hy
    rw [cat_cons, cat_cons, List.append_assoc, List.append_assoc, List.append_assoc, List.append_assoc] at h
    obtain ⟨rfl, h2⟩ := form_free x y hx.1 hy.1 _ _ (List.append_cancel_left h) fun _ => ⟨cat_dst xs (by decide) u, cat_dst ys (by decide) v⟩
    obtain ⟨rfl, rfl⟩ := cat_free xs ys hx.2 hy.2 true u v h2
    exact ⟨rfl, rfl⟩
theorem mem_free : ∀ (xs ys : List JV), JV.parts xs = true → JV.parts ys = true → ∀ (b : Bool) (ns ms : List (List UInt8)), ns.length = xs.length → ms.length = ys.length → ∀ u v : List UInt8, mem b ns xs ++ 125 :: u = mem b ms ys ++ 125 :: v → ns = ms ∧ xs = ys ∧ u = v
  | [], [], _, _, b, [], [], _, _, u, v, h => by
    rw [mem] at h
    exact ⟨rfl, rfl, (List.cons.inj h).2⟩
  | [], y :: ys, _, hy, b, [], m :: ms, _, _, u, v, h => by
    rw [mem, mem_cons, List.nil_append, List.append_assoc, List.append_assoc] at h
    exact absurd h (no_end2 m b (.inr rfl))
  | x :: xs, [], hx, _, b, n :: ns, [], _, _, u, v, h => by
    rw [mem_cons, mem, List.nil_append, List.append_assoc, List.append_assoc] at h
    exact absurd h.symm (no_end2 n b (.inr rfl))
  | x :: xs, y :: ys, hx, hy, b, n :: ns, m :: ms, l1, l2, u, v, h => by
    rw [JV.parts, Bool.and_eq_true] at hx hy
    rw [mem_cons, mem_cons, List.append_assoc, List.append_assoc, List.append_assoc, List.append_assoc] at h
    obtain ⟨rfl, h1⟩ := quo_free (List.append_cancel_left h)
    simp only [List.cons_append, List.cons.injEq, true_and, List.append_assoc] at h1
    obtain ⟨rfl, h2⟩ := form_free x y hx.1 hy.1 _ _ h1 fun _ => ⟨mem_dst ns xs (by decide) u, mem_dst ms ys (by decide) v⟩
    obtain ⟨rfl, rfl, rfl⟩ := mem_free xs ys hx.2 hy.2 true ns ms (by simpa using l1) (by simpa using l2) u v h2
    exact ⟨rfl, rfl, rfl⟩
end
/-- P10.2: unlike values have unlike forms -/
theorem unlike {x y : JV} (hx : x.part = true) (hy : y.part = true) (h : form x = form y) : x = y :=
  (form_free x y hx hy [] [] (by rw [h]) fun _ => ⟨fun _ h => by simp at h, fun _ h => by simp at h⟩).1
/-- P10.6: none but a number's is the beginning of another -/
theorem ends {x y : JV} (hx : x.part = true) (hy : y.part = true) (hk : x.k ≠ 2) {n : Nat} (h : (form y).take n = form x) : form x = form y := by
  have h2 := List.take_append_drop n (form y)
  rw [h] at h2
  have := form_free x y hx hy ((form y).drop n) [] (by rw [h2, List.append_nil]) fun e => absurd e hk
  rw [this.1]
end Cn
end Go.Proofs.YtpifbmcgadjhbaaDoor
