/-
  Marks one by one (no program): what holds of each, a mark's own bytes, blanks put in.
-/
import Derived.Test.YtoipjlhddpeicaaGreatDoorLexRows
namespace Go.Proofs.YtoipjlhddpeicaaGreatDoor
open Go.RowKit
namespace Lm
theorem tok_kinds {u : List UInt8} {m : Mark} (h : tok u = (m, 0)) : (m.k ≠ 9 → m.n = 0) ∧ (m.k ≠ 10 → m.t = []) := by
  match u, h with
  | [], h => rw [tok] at h; simp only [Prod.mk.injEq, and_true] at h; rw [← h]; exact ⟨fun _ => rfl, fun _ => rfl⟩
  | c :: r, h =>
    rw [tok] at h
    unfold tokN at h
    repeat' split at h
    all_goals simp only [Prod.mk.injEq, and_true] at h
    all_goals first
      | (rw [← h]; exact ⟨fun _ => rfl, fun _ => rfl⟩)
      | (rw [← h]; exact ⟨fun hh => absurd rfl hh, fun _ => rfl⟩)
      | (rw [← h]; exact ⟨fun _ => rfl, fun hh => absurd rfl hh⟩)
      | (rw [← h.1]; exact ⟨fun _ => rfl, fun _ => rfl⟩)
/-- a mark at p is the one at the front of what is behind p -/
theorem tok_of {l : List UInt8} {p : Nat} {m : Mark} (hp : p ≤ l.length) (h : mark l p = (m, 0)) : ∃ m0, tok (l.drop p) = (m0, 0) ∧ m = mv p m0 := by
  rw [mark_tok l p hp] at h
  obtain ⟨m0, e, hx⟩ : ∃ m0 e, tok (l.drop p) = (m0, e) := ⟨_, _, rfl⟩
  rw [hx] at h
  by_cases he : e = 0
  · subst he
    rw [put_ok] at h
    simp only [Prod.mk.injEq, and_true] at h
    exact ⟨m0, hx, h.symm⟩
  · rw [put_no _ _ he] at h
    simp only [Prod.mk.injEq] at h
    exact absurd h.2 he
theorem mark_kinds {l : List UInt8} {p : Nat} {m : Mark} (hp : p ≤ l.length) (h : mark l p = (m, 0)) : (m.k ≠ 9 → m.n = 0) ∧ (m.k ≠ 10 → m.t = []) := by
  obtain ⟨m0, h0, rfl⟩ := tok_of hp h
  have := tok_kinds h0
  exact this
theorem tok_ws {b : UInt8} (h : ws b = true) (r : List UInt8) : tok (b :: r) = (zero, 3) := by
  have ha : (b :: r).takeWhile az = [] := by rw [List.takeWhile_cons, ws_az h]; rfl
  rw [tok, ha]
  rcases ws_cases h with rfl | rfl | rfl | rfl <;> rfl
theorem tok_front {u : List UInt8} {m : Mark} (h : tok u = (m, 0)) (hk : m.k ≠ 11) : ∃ c r, u = c :: r ∧ ws c = false := by
  match u, h with
  | [], h => rw [tok] at h; simp only [Prod.mk.injEq, and_true] at h; rw [← h] at hk; exact absurd rfl hk
  | c :: r, h =>
    refine ⟨c, r, rfl, ?_⟩
    cases hc : ws c with
    | false => rfl
    | true =>
      rw [tok_ws hc] at h
      simp only [Prod.mk.injEq] at h
      exact absurd h.2 (by decide)
theorem tok_len {u : List UInt8} {m : Mark} (h : tok u = (m, 0)) (hk : m.k ≠ 11) : m.a = 0 ∧ 0 < m.b ∧ m.b ≤ u.length := by
  have hw := tok_ways u
  rw [h] at hw
  rcases hw with ⟨h1, _⟩ | ⟨h1, _⟩ | ⟨_, _, _, h2, h3, h4⟩
  · exact absurd rfl h1
  · simp only [Prod.mk.injEq, and_true] at h1
    rw [h1] at hk
    exact absurd rfl hk
  · exact ⟨h2, h3, h4⟩
/-- each mark of a row stands where a mark is found -/
theorem Row.mem {l : List UInt8} {p : Nat} {ms : List Mark} (h : Row l p ms) : p ≤ l.length → ∀ m ∈ ms, ∃ q, q ≤ l.length ∧ mark l (skip l q) = (m, 0) := by
  induction h with
  | @stop p m h hk =>
    intro hp x hx
    rw [List.mem_singleton] at hx
    subst hx
    exact ⟨p, hp, h⟩
  | @step p m ms h hk _ ih =>
    intro hp x hx
    have hon := on_le hp h hk
    rcases List.mem_cons.1 hx with rfl | hx
    · exact ⟨p, hp, h⟩
    · exact ih (by omega) x hx
theorem skip_skip (l : List UInt8) (p : Nat) : skip l (skip l p) = skip l p := by
  have h : run ws l (skip l p) = 0 := by
    unfold run skip run
    rw [← List.drop_drop]
    generalize l.drop p = u
    induction u with
    | nil => rfl
    | cons c r ih =>
      by_cases hc : ws c = true
      · rw [List.takeWhile_cons, if_pos hc, List.length_cons, List.drop_succ_cons]
        exact ih
      · rw [List.takeWhile_cons, if_neg hc, List.length_nil, List.drop_zero, List.takeWhile_cons, if_neg hc]
        rfl
  show skip l p + run ws l (skip l p) = skip l p
  rw [h]
  rfl
theorem takeWhile_get {f : UInt8 → Bool} : ∀ (u : List UInt8) (j : Nat), j < (u.takeWhile f).length → ∃ c, u[j]? = some c ∧ f c = true
  | [], j, h => by simp at h
  | c :: u, j, h => by
    rw [List.takeWhile_cons] at h
    by_cases hc : f c = true
    · rw [if_pos hc] at h
      match j with
      | 0 => exact ⟨c, rfl, hc⟩
      | i + 1 => exact takeWhile_get u i (by rw [List.length_cons] at h; omega)
    · rw [if_neg hc] at h
      simp at h
theorem takeWhile_id {f : UInt8 → Bool} : ∀ u : List UInt8, u.all f = true → u.takeWhile f = u
  | [], _ => rfl
  | c :: u, h => by
    rw [List.all_cons, Bool.and_eq_true] at h
    rw [List.takeWhile_cons, if_pos h.1, takeWhile_id u h.2]
/-- between p and the mark stand blanks -/
theorem skip_blanks (l : List UInt8) (p i : Nat) (h1 : p ≤ i) (h2 : i < skip l p) : ∃ c, l[i]? = some c ∧ ws c = true := by
  obtain ⟨j, rfl⟩ : ∃ j, i = p + j := ⟨i - p, by omega⟩
  have hj : j < ((l.drop p).takeWhile ws).length := by have h3 : p + j < p + ((l.drop p).takeWhile ws).length := h2; omega
  obtain ⟨c, h4, h5⟩ := takeWhile_get (l.drop p) j hj
  exact ⟨c, by rw [← List.getElem?_drop]; exact h4, h5⟩
/-- a mark's own bytes are it alone -/
theorem alone_row {l : List UInt8} {q : Nat} {m : Mark} (hq : q ≤ l.length) (h : mark l (skip l q) = (m, 0)) (hk : m.k ≠ 11) :
    Row ((l.drop m.a).take (m.b - m.a)) 0 [⟨m.k, 0, m.b - m.a, m.n, m.t⟩, ⟨11, m.b - m.a, m.b - m.a, 0, []⟩] := by
  have hon := on_le hq h hk
  obtain ⟨m0, h0, hm⟩ := tok_of (skip_le hq) h
  have hk0 : m0.k ≠ 11 := by rw [hm] at hk; exact hk
  obtain ⟨l1, l2, l3⟩ := tok_len h0 hk0
  have hb : m.b - m.a = m0.b := by rw [hm]; show skip l q + m0.b - (skip l q + m0.a) = m0.b; omega
  have hx : (l.drop m.a).take (m.b - m.a) = (l.drop (skip l q)).take m0.b := by rw [hon.1, ← hon.1, hb]
  have ht := tok_take h0 hk0
  rw [hb, show (l.drop m.a).take m0.b = (l.drop (skip l q)).take m0.b by rw [hon.1]]
  generalize hX : (l.drop (skip l q)).take m0.b = X at ht
  have hXl : X.length = m0.b := by rw [← hX, List.length_take]; omega
  obtain ⟨c, r, hc, hwc⟩ := tok_front ht hk0
  have hsk : skip X 0 = 0 := by
    unfold skip run
    rw [List.drop_zero, hc, List.takeWhile_cons, if_neg (by rw [hwc]; exact Bool.false_ne_true)]
    rfl
  have e1 : (⟨m.k, 0, m0.b, m.n, m.t⟩ : Mark) = m0 := by rw [hm, ← l1]; rfl
  have hse : skip X m0.b = m0.b := by
    have := run_end (f := ws) (l := X) (p := m0.b) (by omega)
    show m0.b + run ws X m0.b = m0.b
    rw [this]; rfl
  refine .step (m := ⟨m.k, 0, m0.b, m.n, m.t⟩) ?_ hk (.stop ?_ rfl)
  · rw [hsk, mark_tok _ _ (Nat.zero_le _), List.drop_zero, ht, put_ok, e1]
    show (Mark.mk m0.k (0 + m0.a) (0 + m0.b) m0.n m0.t, 0) = (m0, 0)
    rw [Nat.zero_add, Nat.zero_add]
  · show mark X (skip X m0.b) = _
    rw [hse, mark_tok _ _ (by omega), List.drop_of_length_le (by omega)]
    rfl
theorem empty_row : Row [] 0 [⟨11, 0, 0, 0, []⟩] := .stop rfl rfl
/-! Blanks put in. -/
def bytes (l : List UInt8) (m : Mark) : List UInt8 := (l.drop m.a).take (m.b - m.a)
def joined (l by' : List UInt8) : List Mark → List UInt8
  | [] => []
  | m :: ms => by' ++ (bytes l m ++ joined l by' ms)
def moved (z : Nat) : Nat → List Mark → List Mark
  | _, [] => []
  | p, m :: ms => ⟨m.k, p + z, p + z + (m.b - m.a), m.n, m.t⟩ :: moved z (p + z + (m.b - m.a)) ms
theorem skip_all {by' : List UInt8} (hb : by'.all ws = true) (o v : List UInt8) : skip (o ++ (by' ++ v)) o.length = o.length + by'.length + run ws v 0 := by
  have h := skip_shift o (by' ++ v) 0
  rw [Nat.add_zero] at h
  rw [h]
  unfold skip run
  rw [List.drop_zero, List.drop_zero, List.takeWhile_append]
  have ht : by'.takeWhile ws = by' := takeWhile_id by' hb
  rw [ht, if_pos rfl, List.length_append]
  omega
theorem blanked_row {l by' : List UInt8} (hb : by'.all ws = true) (hn : by' ≠ []) {p : Nat} {ms : List Mark} (h : Row l p ms) : p ≤ l.length → ∀ o : List UInt8, Row (o ++ joined l by' ms) o.length (moved by'.length o.length ms) := by
  induction h with
  | @stop p m h hk =>
    intro hp o
    obtain ⟨rfl, _⟩ := end_is hp h hk
    have hj : joined l by' [⟨11, l.length, l.length, 0, []⟩] = by' ++ [] := by
      show by' ++ ((l.drop l.length).take (l.length - l.length) ++ []) = by' ++ []
      rw [Nat.sub_self, List.take_zero]
      rfl
    rw [hj]
    refine .stop ?_ rfl
    rw [skip_all hb, show run ws ([] : List UInt8) 0 = 0 from rfl, mark_tok _ _ (by simp), List.drop_of_length_le (by simp)]
    show put _ (tok []) = _
    rw [tok, put_ok]
    show (Mark.mk 11 (o.length + by'.length + 0 + 0) (o.length + by'.length + 0 + 0) 0 [], 0) = (Mark.mk 11 (o.length + by'.length) (o.length + by'.length + (l.length - l.length)) 0 [], 0)
    rw [Nat.sub_self]
    rfl
  | @step p m ms h hk hr ih =>
    intro hp o
    have hon := on_le hp h hk
    obtain ⟨m0, h0, hm⟩ := tok_of (skip_le hp) h
    have hk0 : m0.k ≠ 11 := by rw [hm] at hk; exact hk
    obtain ⟨l1, l2, l3⟩ := tok_len h0 hk0
    have hmb : m.b - m.a = m0.b := by rw [hm]; show skip l p + m0.b - (skip l p + m0.a) = m0.b; omega
    have hB : bytes l m = (l.drop (skip l p)).take m0.b := by unfold bytes; rw [hmb, hon.1]
    have ht := tok_take h0 hk0
    rw [← hB] at ht
    have hBl : (bytes l m).length = m0.b := by rw [hB, List.length_take]; omega
    obtain ⟨c, r, hc, hwc⟩ := tok_front ht hk0
    obtain ⟨d, by2, hd⟩ : ∃ d by2, by' = d :: by2 := by
      cases by' with
      | nil => exact absurd rfl hn
      | cons d b => exact ⟨d, b, rfl⟩
    have hsep : Sep (joined l by' ms) := by
      match ms, hr.ne with
      | x :: xs, _ =>
        show Sep (by' ++ (bytes l x ++ joined l by' xs))
        have hwd : ws d = true := List.all_eq_true.1 hb d (by rw [hd]; simp)
        rw [hd, List.cons_append]
        exact .cons hwd _
    have hsk : skip (o ++ joined l by' (m :: ms)) o.length = o.length + by'.length := by
      show skip (o ++ (by' ++ (bytes l m ++ joined l by' ms))) o.length = _
      rw [skip_all hb]
      have : run ws (bytes l m ++ joined l by' ms) 0 = 0 := by
        unfold run
        rw [List.drop_zero, hc, List.cons_append, List.takeWhile_cons, if_neg (by rw [hwc]; exact Bool.false_ne_true)]
        rfl
      rw [this]
      rfl
    have htk : tok (bytes l m ++ joined l by' ms) = (m0, 0) := by
      rw [tok_more hsep (by rw [hc]; simp) (by rw [ht]; exact (by decide : (0 : Nat) ≠ 4)), ht]
    have hT : o ++ joined l by' (m :: ms) = (o ++ by' ++ bytes l m) ++ joined l by' ms := by
      show o ++ (by' ++ (bytes l m ++ joined l by' ms)) = _
      simp only [List.append_assoc]
    have hdr : (o ++ joined l by' (m :: ms)).drop (o.length + by'.length) = bytes l m ++ joined l by' ms := by
      show (o ++ (by' ++ (bytes l m ++ joined l by' ms))).drop (o.length + by'.length) = _
      rw [drop_past, List.drop_left]
    have hlen : o.length + by'.length ≤ (o ++ joined l by' (m :: ms)).length := by
      show _ ≤ (o ++ (by' ++ (bytes l m ++ joined l by' ms))).length
      simp only [List.length_append]
      omega
    have hnext := ih (by omega) (o ++ by' ++ bytes l m)
    rw [← hT] at hnext
    have hol : (o ++ by' ++ bytes l m).length = o.length + by'.length + (m.b - m.a) := by
      rw [List.length_append, List.length_append, hBl, hmb]
    rw [hol] at hnext
    refine .step (m := ⟨m.k, o.length + by'.length, o.length + by'.length + (m.b - m.a), m.n, m.t⟩) ?_ hk hnext
    rw [hsk, mark_tok _ _ hlen, hdr, htk, put_ok, hmb]
    show (Mark.mk m0.k (o.length + by'.length + m0.a) (o.length + by'.length + m0.b) m0.n m0.t, 0) = _
    rw [l1, hm]
    rfl
end Lm
end Go.Proofs.YtoipjlhddpeicaaGreatDoor
