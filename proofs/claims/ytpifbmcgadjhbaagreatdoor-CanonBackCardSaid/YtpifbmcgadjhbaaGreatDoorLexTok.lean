/-
  The mark at the front of bytes (no program): the mark at a place is the one at the front of what is behind it, moved; which bytes tell of it.
-/
import Derived.Test.YtpifbmcgadjhbaaGreatDoorLexStable
import Derived.Test.YtpifbmcgadjhbaaGreatDoorLexAll
namespace Go.Proofs.YtpifbmcgadjhbaaGreatDoor
open Go.RowKit
namespace Lm
def tokN (t : List UInt8) : Mark × Nat := if Nm.form t then (if Nm.inR (Nm.val t) then (⟨9, 0, t.length, Nm.val t, []⟩, 0) else (zero, 9)) else (zero, 3)
def tok : List UInt8 → Mark × Nat
  | [] => (⟨11, 0, 0, 0, []⟩, 0)
  | c :: r =>
    if punct c ≠ 0 then (⟨punct c, 0, 1, 0, []⟩, 0)
    else if c = 34 then (if (Qm.RDF r 0).2.2 = 0 then (⟨10, 0, 1 + (Qm.RDF r 0).2.1, 0, (Qm.RDF r 0).1⟩, 0) else (zero, (Qm.RDF r 0).2.2))
    else if numb c then tokN ((c :: r).takeWhile Nm.more)
    else if (c :: r).takeWhile az = TRUE then (⟨7, 0, 4, 0, []⟩, 0)
    else if (c :: r).takeWhile az = FALSE then (⟨8, 0, 5, 0, []⟩, 0)
    else (zero, 3)
def mv (p : Nat) (m : Mark) : Mark := ⟨m.k, p + m.a, p + m.b, m.n, m.t⟩
def put (p : Nat) (x : Mark × Nat) : Mark × Nat := if x.2 = 0 then (mv p x.1, 0) else (zero, x.2)
theorem put_ok (p : Nat) (m : Mark) : put p (m, 0) = (mv p m, 0) := rfl
theorem put_no (p : Nat) (m : Mark) {e : Nat} (h : e ≠ 0) : put p (m, e) = (zero, e) := by unfold put; rw [if_neg h]
theorem mv_mv (p q : Nat) (m : Mark) : mv p (mv q m) = mv (p + q) m := by unfold mv; simp [Nat.add_assoc]
theorem put_put (p q : Nat) (x : Mark × Nat) : put p (put q x) = put (p + q) x := by
  obtain ⟨m, e⟩ := x
  by_cases h : e = 0
  · subst h
    rw [put_ok, put_ok, put_ok, mv_mv]
  · rw [put_no q m h, put_no p _ h, put_no _ m h]
theorem mark_tok (l : List UInt8) (p : Nat) (hp : p ≤ l.length) : mark l p = put p (tok (l.drop p)) := by
  unfold mark
  cases hd : l.drop p with
  | nil => rfl
  | cons c r =>
    show (if punct c ≠ 0 then _ else if c = 34 then _ else if numb c then _ else if word l p = TRUE then _ else if word l p = FALSE then _ else _) = put p (tok (c :: r))
    rw [tok]
    by_cases h0 : punct c ≠ 0
    · rw [if_pos h0, if_pos h0]
      rfl
    rw [if_neg h0, if_neg h0]
    by_cases h34 : c = 34
    · rw [if_pos h34, if_pos h34, Qm.RD_in l p c r hd, if_pos h34]
      obtain ⟨a, m, e, hx⟩ : ∃ a m e, Qm.RDF r 0 = (a, m, e) := ⟨_, _, _, rfl⟩
      rw [hx]
      by_cases he : e = 0
      · subst he
        rw [Qm.cons_ok, if_pos rfl, if_pos rfl, put_ok]
        show (Mark.mk 10 p (p + 1 + m) 0 ([] ++ a), 0) = (Mark.mk 10 (p + 0) (p + (1 + m)) 0 a, 0)
        rw [List.nil_append, Nat.add_assoc, Nat.add_zero]
      · have hc : Qm.cons [] (p + 1) (a, m, e) = ([], 0, e) := by unfold Qm.cons; rw [if_neg he]
        rw [hc, if_neg he, if_neg he, put_no _ _ he]
    rw [if_neg h34, if_neg h34]
    by_cases hn : numb c = true
    · rw [if_pos hn, if_pos hn]
      have ht : Nm.txt l p = (c :: r).takeWhile Nm.more := by unfold Nm.txt; rw [hd]
      have hR : Nm.READ l (p : Int) = (if Nm.form ((c :: r).takeWhile Nm.more) then (if Nm.inR (Nm.val ((c :: r).takeWhile Nm.more)) then (Nm.val ((c :: r).takeWhile Nm.more), (p : Int) + (((c :: r).takeWhile Nm.more).length : Int), 0) else (0, 0, 9)) else (0, 0, 3)) := by
        unfold Nm.READ
        rw [if_pos (by omega), Int.toNat_natCast, ht]
      rw [hR]
      unfold tokN
      by_cases h1 : Nm.form ((c :: r).takeWhile Nm.more) = true
      · rw [if_pos h1, if_pos h1]
        by_cases h2 : Nm.inR (Nm.val ((c :: r).takeWhile Nm.more)) = true
        · rw [if_pos h2, if_pos h2, if_pos rfl, put_ok]
          unfold mv
          rw [show ((p : Int) + (((c :: r).takeWhile Nm.more).length : Int)).toNat = p + ((c :: r).takeWhile Nm.more).length by omega]
          rfl
        · rw [if_neg h2, if_neg h2, if_neg (by decide), put_no _ _ (by decide)]
          rfl
      · rw [if_neg h1, if_neg h1, if_neg (by decide), put_no _ _ (by decide)]
        rfl
    rw [if_neg hn, if_neg hn]
    have hw : word l p = (c :: r).takeWhile az := by unfold word; rw [hd]
    rw [hw]
    by_cases ht : (c :: r).takeWhile az = TRUE
    · rw [if_pos ht, if_pos ht]
      rfl
    rw [if_neg ht, if_neg ht]
    by_cases hf : (c :: r).takeWhile az = FALSE
    · rw [if_pos hf, if_pos hf]
      rfl
    rw [if_neg hf, if_neg hf, put_no _ _ (by decide)]
theorem takeWhile_app {f : UInt8 → Bool} {v : List UInt8} (hv : ∀ b, v.head? = some b → f b = false) : ∀ u : List UInt8, (u ++ v).takeWhile f = u.takeWhile f
  | [] => by
    match v, hv with
    | [], _ => rfl
    | b :: t, hv =>
      rw [List.nil_append, List.takeWhile_cons, hv b rfl]
      rfl
  | c :: u => by
    rw [List.cons_append, List.takeWhile_cons, List.takeWhile_cons, takeWhile_app hv u]
theorem takeWhile_take {f : UInt8 → Bool} : ∀ (u : List UInt8) (z : Nat), (u.takeWhile f).length ≤ z → (u.take z).takeWhile f = u.takeWhile f
  | [], z, _ => by simp
  | c :: u, z, h => by
    rw [List.takeWhile_cons] at h ⊢
    by_cases hc : f c = true
    · rw [if_pos hc] at h ⊢
      obtain ⟨i, rfl⟩ : ∃ i, z = i + 1 := ⟨z - 1, by simp only [List.length_cons] at h; omega⟩
      rw [List.take_succ_cons, List.takeWhile_cons, if_pos hc, takeWhile_take u i (by simp only [List.length_cons] at h; omega)]
    · rw [if_neg hc]
      match z with
      | 0 => rfl
      | i + 1 => rw [List.take_succ_cons, List.takeWhile_cons, if_neg hc]
theorem ws_cases {b : UInt8} (h : ws b = true) : b = 32 ∨ b = 9 ∨ b = 10 ∨ b = 13 := by
  unfold ws at h
  simpa [or_assoc] using h
theorem ws_more {b : UInt8} (h : ws b = true) : Nm.more b = false := by rcases ws_cases h with rfl | rfl | rfl | rfl <;> decide
theorem ws_az {b : UInt8} (h : ws b = true) : az b = false := by rcases ws_cases h with rfl | rfl | rfl | rfl <;> decide
/-- bytes that end whatever is ahead: none, or a blank first -/
def Sep (v : List UInt8) : Prop := ∀ b, v.head? = some b → ws b = true
theorem Sep.nil : Sep [] := fun _ h => by simp at h
theorem Sep.cons {b : UInt8} (h : ws b = true) (v : List UInt8) : Sep (b :: v) := fun c hc => by
  obtain rfl : b = c := by simpa using hc
  exact h
theorem tok_more {u v : List UInt8} (hv : Sep v) (hu : u ≠ []) (h4 : (tok u).2 ≠ 4) : tok (u ++ v) = tok u := by
  match u, hu, h4 with
  | c :: r, _, h4 =>
    have hm := takeWhile_app (f := Nm.more) (v := v) (fun b hb => ws_more (hv b hb)) (c :: r)
    have ha := takeWhile_app (f := az) (v := v) (fun b hb => ws_az (hv b hb)) (c :: r)
    rw [List.cons_append] at hm ha ⊢
    rw [tok] at h4 ⊢
    rw [tok, hm, ha]
    by_cases h0 : punct c ≠ 0
    · rw [if_pos h0, if_pos h0]
    rw [if_neg h0] at h4 ⊢
    rw [if_neg h0]
    by_cases h34 : c = 34
    · rw [if_pos h34] at h4 ⊢
      rw [if_pos h34]
      have hx : (Qm.RDF r 0).2.2 ≠ 4 := by
        intro e
        rw [if_neg (by omega)] at h4
        exact h4 e
      rw [Qm.RDF_more (r.length + 1) r v 0 (by omega) hx]
    · rw [if_neg h34, if_neg h34]
theorem tok_ways (u : List UInt8) : Way u 0 (tok u) := by
  have h := mark_ways u 0 (Nat.zero_le _)
  rw [mark_tok u 0 (Nat.zero_le _), List.drop_zero] at h
  obtain ⟨⟨k, a, b, n, t⟩, e, hx⟩ : ∃ m e, tok u = (m, e) := ⟨_, _, rfl⟩
  rw [hx] at h ⊢
  by_cases he : e = 0
  · subst he
    rw [put_ok] at h
    unfold mv at h
    simpa only [Nat.zero_add] using h
  · rw [put_no _ _ he] at h
    rcases h with ⟨h1, _⟩ | ⟨h1, _⟩ | ⟨h1, _⟩
    · refine .inl ⟨he, ?_⟩
      match u, hx with
      | [], hx => rw [tok] at hx; simp only [Prod.mk.injEq] at hx; exact absurd hx.2.symm he
      | c :: r, hx =>
        rw [tok] at hx
        unfold tokN at hx
        repeat' split at hx
        all_goals simp only [Prod.mk.injEq] at hx
        all_goals first | exact hx.1.symm | exact absurd hx.2.symm he
    · simp only [Prod.mk.injEq] at h1
      exact absurd h1.2 he
    · exact absurd h1 he
theorem tok_take {u : List UInt8} {m : Mark} (h : tok u = (m, 0)) (hk : m.k ≠ 11) : tok (u.take m.b) = (m, 0) := by
  have hw := tok_ways u
  rw [h] at hw
  have hb : 0 < m.b ∧ m.b ≤ u.length := by
    rcases hw with ⟨h1, _⟩ | ⟨h1, _⟩ | ⟨_, _, _, _, h3, h4⟩
    · exact absurd rfl h1
    · simp only [Prod.mk.injEq, and_true] at h1
      rw [h1] at hk
      exact absurd rfl hk
    · exact ⟨h3, h4⟩
  match u, h with
  | [], _ =>
    rw [List.length_nil] at hb
    omega
  | c :: r, h =>
    obtain ⟨i, hi⟩ : ∃ i, m.b = i + 1 := ⟨m.b - 1, by omega⟩
    rw [hi, List.take_succ_cons]
    have hm : (((c :: r).takeWhile Nm.more).length ≤ i + 1) → (c :: r.take i).takeWhile Nm.more = (c :: r).takeWhile Nm.more := fun hh => by
      have := takeWhile_take (f := Nm.more) (c :: r) (i + 1) hh
      rwa [List.take_succ_cons] at this
    have ha : (((c :: r).takeWhile az).length ≤ i + 1) → (c :: r.take i).takeWhile az = (c :: r).takeWhile az := fun hh => by
      have := takeWhile_take (f := az) (c :: r) (i + 1) hh
      rwa [List.take_succ_cons] at this
    rw [tok] at h ⊢
    by_cases h0 : punct c ≠ 0
    · rw [if_pos h0] at h ⊢
      exact h
    rw [if_neg h0] at h ⊢
    by_cases h34 : c = 34
    · rw [if_pos h34] at h ⊢
      obtain ⟨a, y, e, hx⟩ : ∃ a y e, Qm.RDF r 0 = (a, y, e) := ⟨_, _, _, rfl⟩
      rw [hx] at h
      by_cases he : e = 0
      · subst he
        rw [if_pos rfl] at h
        simp only [Prod.mk.injEq, and_true] at h
        have hy : y = i := by rw [← h] at hi; have hi' : 1 + y = i + 1 := hi; omega
        subst hy
        rw [Qm.RDF_take (r.length + 1) r 0 a y y (by omega) hx (Nat.le_refl _), if_pos rfl, ← h]
      · rw [if_neg he] at h
        simp only [Prod.mk.injEq] at h
        exact absurd h.2 he
    rw [if_neg h34] at h ⊢
    by_cases hn : numb c = true
    · rw [if_pos hn] at h ⊢
      have hl : m.b = ((c :: r).takeWhile Nm.more).length := by
        unfold tokN at h
        repeat' split at h
        all_goals simp only [Prod.mk.injEq] at h
        · rw [← h.1]
        · exact absurd h.2 (by decide)
        · exact absurd h.2 (by decide)
      rw [hm (by omega)]
      exact h
    rw [if_neg hn] at h ⊢
    by_cases ht : (c :: r).takeWhile az = TRUE
    · rw [if_pos ht] at h
      simp only [Prod.mk.injEq, and_true] at h
      have hb4 : m.b = 4 := by rw [← h]
      rw [ha (by rw [ht]; show 4 ≤ i + 1; omega), if_pos ht, h]
    rw [if_neg ht] at h
    by_cases hf : (c :: r).takeWhile az = FALSE
    · rw [if_pos hf] at h
      simp only [Prod.mk.injEq, and_true] at h
      have hb5 : m.b = 5 := by rw [← h]
      rw [ha (by rw [hf]; show 5 ≤ i + 1; omega), if_neg ht, if_pos hf, h]
    rw [if_neg hf] at h
    simp only [Prod.mk.injEq] at h
    exact absurd h.2 (by decide)
end Lm
end Go.Proofs.YtpifbmcgadjhbaaGreatDoor
