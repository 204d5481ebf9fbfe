/-
  Rows of marks (no program): all marks or the first fault; two texts with a blank between; a mark alone; blanks put in.
-/
import Derived.Test.YtpifbmcgadjhbaaGreatDoorLexTok
namespace Go.Proofs.YtpifbmcgadjhbaaGreatDoor
open Go.RowKit
namespace Lm
inductive Row (l : List UInt8) : Nat → List Mark → Prop
  | stop {p : Nat} {m : Mark} : mark l (skip l p) = (m, 0) → m.k = 11 → Row l p [m]
  | step {p : Nat} {m : Mark} {ms : List Mark} : mark l (skip l p) = (m, 0) → m.k ≠ 11 → Row l m.b ms → Row l p (m :: ms)
inductive Bad (l : List UInt8) : Nat → Nat → Nat → Prop
  | here {p e : Nat} {m : Mark} : mark l (skip l p) = (m, e) → e ≠ 0 → Bad l p (skip l p) e
  | step {p q e : Nat} {m : Mark} : mark l (skip l p) = (m, 0) → m.k ≠ 11 → Bad l m.b q e → Bad l p q e
/-- a mark that goes on lies further -/
theorem on_le {l : List UInt8} {p : Nat} {m : Mark} (hp : p ≤ l.length) (h : mark l (skip l p) = (m, 0)) (hk : m.k ≠ 11) : m.a = skip l p ∧ skip l p < m.b ∧ m.b ≤ l.length ∧ 1 ≤ m.k ∧ m.k ≤ 10 := by
  have hw := mark_ways l (skip l p) (skip_le hp)
  rw [h] at hw
  rcases hw with ⟨h1, _⟩ | ⟨h1, _⟩ | ⟨_, h1, h2, h3, h4, h5⟩
  · exact absurd rfl h1
  · simp only [Prod.mk.injEq, and_true] at h1
    rw [h1] at hk
    exact absurd rfl hk
  · exact ⟨h3, h4, h5, h1, h2⟩
theorem end_is {l : List UInt8} {p : Nat} {m : Mark} (hp : p ≤ l.length) (h : mark l (skip l p) = (m, 0)) (hk : m.k = 11) : m = ⟨11, l.length, l.length, 0, []⟩ ∧ skip l p = l.length := by
  have hw := mark_ways l (skip l p) (skip_le hp)
  rw [h] at hw
  rcases hw with ⟨h1, _⟩ | ⟨h1, h2⟩ | ⟨_, h1, h2, _⟩
  · exact absurd rfl h1
  · simp only [Prod.mk.injEq, and_true] at h1
    rw [h2] at h1
    exact ⟨h1, h2⟩
  · rw [hk] at h2
    exact absurd h2 (by decide)
theorem go_row {l : List UInt8} {p : Nat} {ms : List Mark} (h : Row l p ms) : ∀ (f : Nat) (acc : List Mark), p ≤ l.length → l.length - p < f → go l f p acc = (acc ++ ms, 0, 0) := by
  induction h with
  | stop h hk =>
    intro f acc _ hf
    obtain ⟨f, rfl⟩ : ∃ g, f = g + 1 := ⟨f - 1, by omega⟩
    exact go_end h hk
  | @step p m ms h hk _ ih =>
    intro f acc hp hf
    obtain ⟨f, rfl⟩ : ∃ g, f = g + 1 := ⟨f - 1, by omega⟩
    have hon := on_le hp h hk
    have hsg := skip_ge l p
    rw [go_on h hk, ih f _ (by omega) (by omega), List.append_assoc]
    rfl
theorem go_fault {l : List UInt8} {p q e : Nat} (h : Bad l p q e) : ∀ (f : Nat) (acc : List Mark), p ≤ l.length → l.length - p < f → go l f p acc = ([], q, e) := by
  induction h with
  | here h he =>
    intro f acc _ hf
    obtain ⟨f, rfl⟩ : ∃ g, f = g + 1 := ⟨f - 1, by omega⟩
    exact go_bad h he
  | @step p q e m h hk _ ih =>
    intro f acc hp hf
    obtain ⟨f, rfl⟩ : ∃ g, f = g + 1 := ⟨f - 1, by omega⟩
    have hon := on_le hp h hk
    have hsg := skip_ge l p
    rw [go_on h hk, ih f _ (by omega) (by omega)]
theorem row_or (l : List UInt8) : ∀ (f p : Nat), p ≤ l.length → l.length - p < f → (∃ ms, Row l p ms) ∨ ∃ q e, Bad l p q e ∧ e ≠ 0 ∧ q ≤ l.length
  | 0, p, _, h => by omega
  | f + 1, p, hp, hf => by
    obtain ⟨m, e, h⟩ : ∃ m e, mark l (skip l p) = (m, e) := ⟨_, _, rfl⟩
    by_cases he : e = 0
    · subst he
      by_cases hk : m.k = 11
      · exact .inl ⟨_, .stop h hk⟩
      have hon := on_le hp h hk
      have hsg := skip_ge l p
      rcases row_or l f m.b (by omega) (by omega) with ⟨ms, hr⟩ | ⟨q, e, hb, h1, h2⟩
      · exact .inl ⟨_, .step h hk hr⟩
      · exact .inr ⟨q, e, .step h hk hb, h1, h2⟩
    · exact .inr ⟨_, _, .here h he, he, skip_le hp⟩
theorem ALL_row {l : List UInt8} {ms : List Mark} (h : Row l 0 ms) (hl : l.length ≤ 65536) : ALL l = (ms, 0, 0) := by
  unfold ALL
  rw [if_neg (by omega), go_row h _ _ (Nat.zero_le _) (by omega)]
  rfl
theorem ALL_bad {l : List UInt8} {q e : Nat} (h : Bad l 0 q e) (hl : l.length ≤ 65536) : ALL l = ([], q, e) := by
  unfold ALL
  rw [if_neg (by omega), go_fault h _ _ (Nat.zero_le _) (by omega)]
theorem ALL_ways {l : List UInt8} (hl : l.length ≤ 65536) : (∃ ms, Row l 0 ms ∧ ALL l = (ms, 0, 0)) ∨ ∃ q e, Bad l 0 q e ∧ e ≠ 0 ∧ q ≤ l.length ∧ ALL l = ([], q, e) := by
  rcases row_or l (l.length + 1) 0 (Nat.zero_le _) (by omega) with ⟨ms, h⟩ | ⟨q, e, h, h1, h2⟩
  · exact .inl ⟨ms, h, ALL_row h hl⟩
  · exact .inr ⟨q, e, h, h1, h2, ALL_bad h hl⟩
theorem Row.ne {l : List UInt8} {p : Nat} {ms : List Mark} (h : Row l p ms) : ms ≠ [] := by cases h <;> simp
theorem Row.len {l : List UInt8} {p : Nat} {ms : List Mark} (h : Row l p ms) : p ≤ l.length → ms.length ≤ l.length - p + 1 := by
  induction h with
  | stop h hk => intro _; simp
  | @step p m ms h hk _ ih =>
    intro hp
    have hon := on_le hp h hk
    have hsg := skip_ge l p
    have := ih (by omega)
    rw [List.length_cons]
    omega
/-! Moved, and put together. -/
theorem drop_past (u t : List UInt8) (p : Nat) : (u ++ t).drop (u.length + p) = t.drop p := by
  rw [List.drop_append, List.drop_of_length_le (by omega), List.nil_append, Nat.add_sub_cancel_left]
theorem skip_shift (u t : List UInt8) (p : Nat) : skip (u ++ t) (u.length + p) = u.length + skip t p := by
  unfold skip run
  rw [drop_past, Nat.add_assoc]
theorem mark_shift (u : List UInt8) {t : List UInt8} {p : Nat} (hp : p ≤ t.length) : mark (u ++ t) (u.length + p) = put u.length (mark t p) := by
  rw [mark_tok _ _ (by rw [List.length_append]; omega), mark_tok t p hp, drop_past, put_put]
theorem Row.shift (u : List UInt8) {t : List UInt8} {p : Nat} {ms : List Mark} (h : Row t p ms) : p ≤ t.length → Row (u ++ t) (u.length + p) (ms.map (mv u.length)) := by
  induction h with
  | @stop p m h hk =>
    intro hp
    exact .stop (m := mv u.length m) (by rw [skip_shift, mark_shift u (skip_le hp), h, put_ok]) hk
  | @step p m ms h hk _ ih =>
    intro hp
    have hon := on_le hp h hk
    exact .step (m := mv u.length m) (by rw [skip_shift, mark_shift u (skip_le hp), h, put_ok]) hk (ih (by omega))
theorem Bad.shift (u : List UInt8) {t : List UInt8} {p q e : Nat} (h : Bad t p q e) : p ≤ t.length → Bad (u ++ t) (u.length + p) (u.length + q) e := by
  induction h with
  | @here p e m h he =>
    intro hp
    have := Bad.here (l := u ++ t) (p := u.length + p) (e := e) (m := zero) (by rw [skip_shift, mark_shift u (skip_le hp), h, put_no _ _ he]) he
    rwa [skip_shift] at this
  | @step p q e m h hk _ ih =>
    intro hp
    have hon := on_le hp h hk
    exact .step (m := mv u.length m) (by rw [skip_shift, mark_shift u (skip_le hp), h, put_ok]) hk (ih (by omega))
theorem Row.same {l : List UInt8} {p q : Nat} {ms : List Mark} (hs : skip l p = skip l q) (h : Row l p ms) : Row l q ms := by
  cases h with
  | stop h hk => exact .stop (by rw [← hs]; exact h) hk
  | step h hk hr => exact .step (by rw [← hs]; exact h) hk hr
theorem Bad.same {l : List UInt8} {p q a e : Nat} (hs : skip l p = skip l q) (h : Bad l p a e) : Bad l q a e := by
  cases h with
  | here h he => rw [hs] at h ⊢; exact .here h he
  | step h hk hr => exact .step (by rw [← hs]; exact h) hk hr
theorem skip_in {s : List UInt8} (v : List UInt8) {p : Nat} (hp : p ≤ s.length) (h : skip s p < s.length) : skip (s ++ v) p = skip s p := by
  unfold skip run at h ⊢
  rw [List.drop_append_of_le_length hp, List.takeWhile_append, if_neg (by rw [List.length_drop]; omega)]
theorem skip_out {s : List UInt8} (v : List UInt8) {p : Nat} (hp : p ≤ s.length) (h : skip s p = s.length) : skip (s ++ v) p = skip (s ++ v) s.length := by
  have h2 := skip_shift s v 0
  rw [Nat.add_zero] at h2
  rw [h2]
  unfold skip run at h ⊢
  rw [List.drop_append_of_le_length hp, List.takeWhile_append, if_pos (by rw [List.length_drop]; omega), List.length_append, List.length_drop, List.drop_zero]
  omega
theorem skip_blank {l : List UInt8} {p : Nat} {b : UInt8} (h : l.drop p = b :: l.drop (p + 1)) (hb : ws b = true) : skip l p = skip l (p + 1) := by
  unfold skip
  rw [run_cons h hb]
  omega
theorem put_snd (p : Nat) (x : Mark × Nat) : (put p x).2 = x.2 := by
  obtain ⟨m, e⟩ := x
  by_cases h : e = 0
  · subst h; rfl
  · rw [put_no p m h]
theorem mark_in {s v : List UInt8} (hv : Sep v) {p : Nat} (hp : p < s.length) (h4 : (mark s p).2 ≠ 4) : mark (s ++ v) p = mark s p := by
  have hne : s.drop p ≠ [] := by
    intro e
    have := congrArg List.length e
    rw [List.length_drop, List.length_nil] at this
    omega
  rw [mark_tok s p (by omega), put_snd] at h4
  rw [mark_tok _ _ (by rw [List.length_append]; omega), mark_tok s p (by omega), List.drop_append_of_le_length (by omega), tok_more hv hne h4]
theorem gap (s t : List UInt8) : skip (s ++ 32 :: t) s.length = skip (s ++ 32 :: t) (s.length + 1) := by
  refine skip_blank (b := 32) ?_ rfl
  have h1 : (s ++ 32 :: t).drop (s.length + 0) = (32 :: t).drop 0 := drop_past _ _ _
  have h2 : (s ++ 32 :: t).drop (s.length + 1) = (32 :: t).drop 1 := drop_past _ _ _
  rw [h2]
  exact h1
theorem Row.ahead {s : List UInt8} (t : List UInt8) {p : Nat} {a : List Mark} (h : Row s p a) : p ≤ s.length → ∀ b, Row (s ++ 32 :: t) (s.length + 1) b → Row (s ++ 32 :: t) p (a.dropLast ++ b) := by
  induction h with
  | @stop p m h hk =>
    intro hp b hb
    obtain ⟨_, he⟩ := end_is hp h hk
    exact hb.same ((skip_out _ hp he).trans (gap s t)).symm
  | @step p m ms h hk hr ih =>
    intro hp b hb
    have hon := on_le hp h hk
    have hs := skip_in (32 :: t) hp (show skip s p < s.length by omega)
    rw [List.dropLast_cons_of_ne_nil hr.ne]
    exact .step (by rw [hs, mark_in (.cons rfl t) (by omega) (by rw [h]; exact (by decide : (0 : Nat) ≠ 4)), h]) hk (ih (by omega) b hb)
theorem Bad.ahead {s : List UInt8} (t : List UInt8) {p q e : Nat} {a : List Mark} (h : Row s p a) : p ≤ s.length → Bad (s ++ 32 :: t) (s.length + 1) q e → Bad (s ++ 32 :: t) p q e := by
  induction h with
  | @stop p m h hk =>
    intro hp hb
    obtain ⟨_, he⟩ := end_is hp h hk
    exact hb.same ((skip_out _ hp he).trans (gap s t)).symm
  | @step p m ms h hk hr ih =>
    intro hp hb
    have hon := on_le hp h hk
    have hs := skip_in (32 :: t) hp (show skip s p < s.length by omega)
    exact .step (by rw [hs, mark_in (.cons rfl t) (by omega) (by rw [h]; exact (by decide : (0 : Nat) ≠ 4)), h]) hk (ih (by omega) hb)
theorem bad_lt {l : List UInt8} {p e : Nat} {m : Mark} (hp : p ≤ l.length) (h : mark l (skip l p) = (m, e)) (he : e ≠ 0) : skip l p < l.length := by
  apply Nat.lt_of_not_le
  intro h'
  rw [mark_tok l _ (skip_le hp), List.drop_of_length_le h'] at h
  simp only [tok, put_ok, Prod.mk.injEq] at h
  exact he h.2.symm
theorem Bad.within {s : List UInt8} (t : List UInt8) {p q e : Nat} (h : Bad s p q e) : p ≤ s.length → e ≠ 4 → Bad (s ++ 32 :: t) p q e := by
  induction h with
  | @here p e m h he =>
    intro hp h4
    have hlt := bad_lt hp h he
    have hs := skip_in (32 :: t) hp hlt
    have := Bad.here (l := s ++ 32 :: t) (p := p) (e := e) (m := m) (by rw [hs, mark_in (.cons rfl t) hlt (by rw [h]; exact h4), h]) he
    rwa [hs] at this
  | @step p q e m h hk _ ih =>
    intro hp h4
    have hon := on_le hp h hk
    have hs := skip_in (32 :: t) hp (show skip s p < s.length by omega)
    exact .step (by rw [hs, mark_in (.cons rfl t) (by omega) (by rw [h]; exact (by decide : (0 : Nat) ≠ 4)), h]) hk (ih (by omega) h4)
theorem app32 (s t : List UInt8) : s ++ 32 :: t = (s ++ [32]) ++ t := by simp
theorem parts_row {s t : List UInt8} {a b : List Mark} (ha : Row s 0 a) (hb : Row t 0 b) : Row (s ++ 32 :: t) 0 (a.dropLast ++ b.map (mv (s.length + 1))) := by
  refine ha.ahead t (Nat.zero_le _) _ ?_
  have := hb.shift (s ++ [32]) (Nat.zero_le _)
  rw [List.length_append] at this
  rw [app32]
  exact this
theorem parts_bad {s t : List UInt8} {a : List Mark} {q e : Nat} (ha : Row s 0 a) (hb : Bad t 0 q e) : Bad (s ++ 32 :: t) 0 (s.length + 1 + q) e := by
  refine Bad.ahead t ha (Nat.zero_le _) ?_
  have := hb.shift (s ++ [32]) (Nat.zero_le _)
  rw [List.length_append] at this
  rw [app32]
  exact this
end Lm
end Go.Proofs.YtpifbmcgadjhbaaGreatDoor
