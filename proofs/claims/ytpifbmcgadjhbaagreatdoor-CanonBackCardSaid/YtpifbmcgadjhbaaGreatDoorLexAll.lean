/-
  All marks of a text (no program): how a mark goes on, the marks by fuel.
-/
import Derived.Test.YtpifbmcgadjhbaaGreatDoorLexMath
namespace Go.Proofs.YtpifbmcgadjhbaaGreatDoor
open Go.RowKit
namespace Lm
theorem punct_le (c : UInt8) : punct c ≤ 6 := by
  unfold punct
  repeat' split
  all_goals omega
theorem RD_here {l : List UInt8} {p : Nat} {c : UInt8} (h : l.drop p = c :: l.drop (p + 1)) (h0 : (Qm.RD l (p : Int)).2.2 = 0) : p < (Qm.RD l (p : Int)).2.1 ∧ (Qm.RD l (p : Int)).2.1 ≤ l.length := by
  have hp : p < l.length := by
    apply Nat.lt_of_not_le
    intro h'
    rw [List.drop_of_length_le h'] at h
    simp at h
  rw [Qm.RD_in l p c _ h] at h0 ⊢
  by_cases h34 : c = 34
  · rw [if_pos h34] at h0 ⊢
    obtain ⟨a, m, e, hx⟩ : ∃ a m e, Qm.RDF (l.drop (p + 1)) 0 = (a, m, e) := ⟨_, _, _, rfl⟩
    rw [hx] at h0 ⊢
    by_cases he : e = 0
    · subst he
      have h1 := Qm.RDF_within ((l.drop (p + 1)).length + 1) _ 0 a m (by omega) (by omega) hx
      rw [Qm.cons_ok]
      have h2 := h1.2.2.2.1
      rw [List.length_drop] at h2
      exact ⟨by show p < p + 1 + m; omega, by show p + 1 + m ≤ l.length; omega⟩
    · exfalso
      unfold Qm.cons at h0
      rw [if_neg he] at h0
      exact he h0
  · rw [if_neg h34] at h0
    exact absurd h0 (by decide)
theorem READ_here {l : List UInt8} {p : Nat} (h0 : (Nm.READ l (p : Int)).2.2 = 0) : p < (Nm.READ l (p : Int)).2.1.toNat ∧ (Nm.READ l (p : Int)).2.1.toNat ≤ l.length := by
  rcases Nm.READ_ways l (p : Int) with ⟨x, hx, h⟩ | ⟨k, t, hk, _, _, _, h, ht, hl, _⟩
  · rw [h] at h0
    exact absurd h0 hx
  · obtain rfl : p = k := by omega
    rw [h]
    show p < ((p : Int) + (t.length : Int)).toNat ∧ ((p : Int) + (t.length : Int)).toNat ≤ l.length
    omega
theorem word_len {l : List UInt8} {p : Nat} {w : List UInt8} (h : word l p = w) : w.length ≤ l.length - p := by
  rw [← h]
  have := (List.takeWhile_prefix (l := l.drop p) az).length_le
  rw [List.length_drop] at this
  exact this
/-- what stands at p: a fault, the end, or a mark that goes on -/
def Way (l : List UInt8) (p : Nat) (x : Mark × Nat) : Prop := (x.2 ≠ 0 ∧ x.1 = zero) ∨ (x = (⟨11, p, p, 0, []⟩, 0) ∧ p = l.length)
    ∨ (x.2 = 0 ∧ 1 ≤ x.1.k ∧ x.1.k ≤ 10 ∧ x.1.a = p ∧ p < x.1.b ∧ x.1.b ≤ l.length)
theorem Way.bad {l : List UInt8} {p e : Nat} (h : e ≠ 0) : Way l p (zero, e) := .inl ⟨h, rfl⟩
theorem Way.on {l : List UInt8} {p k b : Nat} {n : Int} {t : List UInt8} (h1 : 1 ≤ k) (h2 : k ≤ 10) (h3 : p < b) (h4 : b ≤ l.length) : Way l p (⟨k, p, b, n, t⟩, 0) := .inr (.inr ⟨rfl, h1, h2, rfl, h3, h4⟩)
theorem mark_ways (l : List UInt8) (p : Nat) (hp : p ≤ l.length) : Way l p (mark l p) := by
  by_cases he : p = l.length
  · unfold mark
    rw [List.drop_of_length_le (by omega)]
    exact .inr (.inl ⟨rfl, he⟩)
  obtain ⟨c, _, h⟩ := Tx.drop_cons (show p < l.length by omega)
  unfold mark
  rw [h]
  show Way l p (if punct c ≠ 0 then _ else if c = 34 then _ else if numb c then _ else if word l p = TRUE then _ else if word l p = FALSE then _ else _)
  have h6 := punct_le c
  by_cases h0 : punct c ≠ 0
  · rw [if_pos h0]
    exact .on (by omega) (by omega) (by omega) (by omega)
  rw [if_neg h0]
  by_cases h34 : c = 34
  · rw [if_pos h34]
    by_cases hr : (Qm.RD l (p : Int)).2.2 = 0
    · rw [if_pos hr]
      obtain ⟨h1, h2⟩ := RD_here h hr
      exact .on (by omega) (by omega) h1 h2
    · rw [if_neg hr]
      exact .bad hr
  rw [if_neg h34]
  by_cases hn : numb c = true
  · rw [if_pos hn]
    by_cases hr : (Nm.READ l (p : Int)).2.2 = 0
    · rw [if_pos hr]
      obtain ⟨h1, h2⟩ := READ_here hr
      exact .on (by omega) (by omega) h1 h2
    · rw [if_neg hr]
      refine .bad ?_
      have hh2 : Nm.READ l (p : Int) = (0, 0, 1) ∨ Nm.READ l (p : Int) = (0, 0, 3) ∨ Nm.READ l (p : Int) = (0, 0, 9) ∨ (Nm.READ l (p : Int)).2.2 = 0 := by
        unfold Nm.READ
        split
        · split
          · split
            · exact .inr (.inr (.inr rfl))
            · exact .inr (.inr (.inl rfl))
          · exact .inr (.inl rfl)
        · exact .inl rfl
      rcases hh2 with e | e | e | e
      · rw [e]; decide
      · rw [e]; decide
      · rw [e]; decide
      · exact absurd e hr
  rw [if_neg hn]
  by_cases ht : word l p = TRUE
  · rw [if_pos ht]
    have := word_len ht
    have h4 : TRUE.length = 4 := rfl
    exact .on (by omega) (by omega) (by omega) (by omega)
  rw [if_neg ht]
  by_cases hf : word l p = FALSE
  · rw [if_pos hf]
    have := word_len hf
    have h5 : FALSE.length = 5 := rfl
    exact .on (by omega) (by omega) (by omega) (by omega)
  rw [if_neg hf]
  exact .bad (by decide)
theorem skip_le {l : List UInt8} {p : Nat} (h : p ≤ l.length) : skip l p ≤ l.length := run_le ws l p h
theorem skip_ge (l : List UInt8) (p : Nat) : p ≤ skip l p := Nat.le_add_right _ _
/-- the marks from p on behind those of acc: marks, place of the fault, error -/
def go (l : List UInt8) : Nat → Nat → List Mark → List Mark × Nat × Nat
  | 0, _, _ => ([], 0, 0)
  | f + 1, p, acc =>
    if (mark l (skip l p)).2 ≠ 0 then ([], skip l p, (mark l (skip l p)).2)
    else if (mark l (skip l p)).1.k = 11 then (acc ++ [(mark l (skip l p)).1], 0, 0)
    else go l f (mark l (skip l p)).1.b (acc ++ [(mark l (skip l p)).1])
def ALL (l : List UInt8) : List Mark × Nat × Nat := if 65536 < l.length then ([], 0, 5) else go l (l.length + 1) 0 []
theorem go_bad {l : List UInt8} {f p : Nat} {acc : List Mark} {m : Mark} {e : Nat} (h : mark l (skip l p) = (m, e)) (he : e ≠ 0) : go l (f + 1) p acc = ([], skip l p, e) := by
  rw [go, h, if_pos he]
theorem go_end {l : List UInt8} {f p : Nat} {acc : List Mark} {m : Mark} (h : mark l (skip l p) = (m, 0)) (hk : m.k = 11) : go l (f + 1) p acc = (acc ++ [m], 0, 0) := by
  rw [go, h, if_neg (fun h => h rfl), if_pos hk]
theorem go_on {l : List UInt8} {f p : Nat} {acc : List Mark} {m : Mark} (h : mark l (skip l p) = (m, 0)) (hk : m.k ≠ 11) : go l (f + 1) p acc = go l f m.b (acc ++ [m]) := by
  rw [go, h, if_neg (fun h => h rfl), if_neg hk]
/-- the cells of a row of marks -/
def MC (ms : List Mark) : List Value := ms.flatMap fun m => [.int .u8 (m.k : Int), .int .i64 (m.a : Int), .int .i64 (m.b : Int), .int .i64 m.n, .string (S m.t)]
theorem MC_append (a b : List Mark) : MC (a ++ b) = MC a ++ MC b := List.flatMap_append
theorem MC_one (m : Mark) : MC [m] = [.int .u8 (m.k : Int), .int .i64 (m.a : Int), .int .i64 (m.b : Int), .int .i64 m.n, .string (S m.t)] := by
  unfold MC
  rw [List.flatMap_cons, List.flatMap_nil, List.append_nil]
end Lm
end Go.Proofs.YtpifbmcgadjhbaaGreatDoor
