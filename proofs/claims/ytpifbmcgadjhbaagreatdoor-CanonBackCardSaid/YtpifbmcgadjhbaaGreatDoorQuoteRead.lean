/-
  A string read at the front of bytes (RDF), and what is read of a canonical form, of what is cut, of anything.
-/
import Derived.Test.YtpifbmcgadjhbaaGreatDoorQuoteMath
namespace Go.Proofs.YtpifbmcgadjhbaaGreatDoor
open Go.RowKit
namespace Qm
/-- z bytes stand for u, ahead of what x tells -/
def cons (u : List UInt8) (z : Nat) (x : List UInt8 × Nat × Nat) : List UInt8 × Nat × Nat := if x.2.2 = 0 then (u ++ x.1, z + x.2.1, 0) else ([], 0, x.2.2)
theorem cons_ok (u : List UInt8) (z : Nat) (v : List UInt8) (k : Nat) : cons u z (v, k, 0) = (u ++ v, z + k, 0) := rfl
theorem cons_no (u : List UInt8) (z : Nat) {e : Nat} (h : e ≠ 0) : cons u z ([], 0, e) = ([], 0, e) := by unfold cons; rw [if_neg h]
theorem cons_cons (u v : List UInt8) (y z : Nat) (x : List UInt8 × Nat × Nat) : cons u y (cons v z x) = cons (u ++ v) (y + z) x := by
  unfold cons
  by_cases h : x.2.2 = 0
  · rw [if_pos h, if_pos rfl, if_pos h, List.append_assoc, Nat.add_assoc]
  · rw [if_neg h, if_neg h]
    simp [h]
theorem cons_nil (x : List UInt8 × Nat × Nat) (h : x.2.2 ≠ 0 → x = ([], 0, x.2.2)) : cons [] 0 x = x := by
  unfold cons
  by_cases h0 : x.2.2 = 0
  · rw [if_pos h0, List.nil_append, Nat.zero_add, ← h0]
  · rw [if_neg h0, ← h h0]
/-- what is behind the opening mark; n bytes are told already -/
def rd : Nat → List UInt8 → Nat → List UInt8 × Nat × Nat
  | 0, _, _ => ([], 0, 4)
  | _ + 1, [], _ => ([], 0, 4)
  | f + 1, c :: t, n =>
    if c = 34 then ([], 1, 0)
    else if (one (c :: t)).2.2 = 0 then
      (if 4096 < n + (Um.enc (one (c :: t)).1).length then ([], 0, 5)
      else cons (Um.enc (one (c :: t)).1) (one (c :: t)).2.1 (rd f ((c :: t).drop (one (c :: t)).2.1) (n + (Um.enc (one (c :: t)).1).length)))
    else ([], 0, (one (c :: t)).2.2)
def RDF (l : List UInt8) (n : Nat) : List UInt8 × Nat × Nat := rd (l.length + 1) l n
theorem rd_fuel : ∀ (f g : Nat) (l : List UInt8) (n : Nat), l.length < f → l.length < g → rd f l n = rd g l n
  | 0, _, _, _, h, _ => by omega
  | _ + 1, 0, _, _, _, h => by omega
  | f + 1, g + 1, [], n, _, _ => rfl
  | f + 1, g + 1, c :: t, n, hf, hg => by
    rw [rd, rd]
    by_cases h1 : c = 34
    · rw [if_pos h1, if_pos h1]
    rw [if_neg h1, if_neg h1]
    by_cases h2 : (one (c :: t)).2.2 = 0
    · rw [if_pos h2, if_pos h2]
      have hg' := one_good (l := c :: t) (r := (one (c :: t)).1) (z := (one (c :: t)).2.1) (by rw [← h2])
      have h3 := hg'.2
      rw [rd_fuel f g _ _ (by rw [List.length_drop]; simp only [List.length_cons] at *; omega) (by rw [List.length_drop]; simp only [List.length_cons] at *; omega)]
    · rw [if_neg h2, if_neg h2]
theorem RDF_nil (n : Nat) : RDF [] n = ([], 0, 4) := rfl
theorem RDF_end (t : List UInt8) (n : Nat) : RDF (34 :: t) n = ([], 1, 0) := by
  unfold RDF
  rw [rd, if_pos rfl]
theorem RDF_ok {l : List UInt8} {r z : Nat} (n : Nat) (h34 : l.head? ≠ some 34) (h : one l = (r, z, 0)) (hn : n + (Um.enc r).length ≤ 4096) : RDF l n = cons (Um.enc r) z (RDF (l.drop z) (n + (Um.enc r).length)) := by
  match l, h34, h with
  | [], _, h => simp [one] at h
  | c :: t, h34, h =>
    have hc : c ≠ 34 := fun e => h34 (by rw [e]; rfl)
    have hz := (one_good h).2
    unfold RDF
    rw [rd, if_neg hc, h, if_pos rfl]
    dsimp only
    rw [if_neg (by omega)]
    rw [rd_fuel _ (((c :: t).drop z).length + 1) _ _ (by rw [List.length_drop]; simp only [List.length_cons]; omega) (by omega)]
theorem RDF_long {l : List UInt8} {r z : Nat} (n : Nat) (h34 : l.head? ≠ some 34) (h : one l = (r, z, 0)) (hn : 4096 < n + (Um.enc r).length) : RDF l n = ([], 0, 5) := by
  match l, h34, h with
  | [], _, h => simp [one] at h
  | c :: t, h34, h =>
    have hc : c ≠ 34 := fun e => h34 (by rw [e]; rfl)
    unfold RDF
    rw [rd, if_neg hc, h, if_pos rfl, if_pos hn]
theorem RDF_bad {l : List UInt8} {e : Nat} (n : Nat) (h34 : l.head? ≠ some 34) (h : (one l).2.2 = e) (he : e ≠ 0) : RDF l n = ([], 0, e) := by
  match l, h34, h with
  | [], _, h => simp only [one] at h; rw [← h, RDF_nil]
  | c :: t, h34, h =>
    have hc : c ≠ 34 := fun e => h34 (by rw [e]; rfl)
    unfold RDF
    rw [rd, if_neg hc, h, if_neg he]
theorem one_eta {l : List UInt8} (h : (one l).2.2 = 0) : one l = ((one l).1, (one l).2.1, 0) := by rw [← h]
/-- the ways of a step -/
theorem RDF_cases (l : List UInt8) (n : Nat) : (l = [] ∧ RDF l n = ([], 0, 4)) ∨ (∃ t, l = 34 :: t ∧ RDF l n = ([], 1, 0))
    ∨ (l.head? ≠ some 34 ∧ ∃ r z, one l = (r, z, 0) ∧ n + (Um.enc r).length ≤ 4096 ∧ RDF l n = cons (Um.enc r) z (RDF (l.drop z) (n + (Um.enc r).length)))
    ∨ (∃ e, e ≠ 0 ∧ RDF l n = ([], 0, e)) := by
  match l with
  | [] => exact .inl ⟨rfl, rfl⟩
  | c :: t =>
    by_cases h : c = 34
    · subst h
      exact .inr (.inl ⟨t, rfl, RDF_end t n⟩)
    have hh : (c :: t).head? ≠ some 34 := fun e => h (by simpa using e)
    by_cases h0 : (one (c :: t)).2.2 = 0
    · by_cases h1 : 4096 < n + (Um.enc (one (c :: t)).1).length
      · exact .inr (.inr (.inr ⟨5, by decide, RDF_long n hh (one_eta h0) h1⟩))
      · exact .inr (.inr (.inl ⟨hh, _, _, one_eta h0, by omega, RDF_ok n hh (one_eta h0) (by omega)⟩))
    · exact .inr (.inr (.inr ⟨_, h0, RDF_bad n hh rfl h0⟩))
/-- what is not read is told so -/
theorem RDF_none : ∀ (f : Nat) (l : List UInt8) (n : Nat), l.length < f → (RDF l n).2.2 ≠ 0 → RDF l n = ([], 0, (RDF l n).2.2)
  | 0, _, _, h, _ => by omega
  | f + 1, l, n, hf, he => by
    rcases RDF_cases l n with ⟨_, h⟩ | ⟨t, _, h⟩ | ⟨_, r, z, h1, h2, h⟩ | ⟨e, _, h⟩
    · rw [h]
    · rw [h] at he
      exact absurd rfl he
    · rw [h] at he ⊢
      unfold cons at he ⊢
      by_cases h0 : (RDF (l.drop z) (n + (Um.enc r).length)).2.2 = 0
      · rw [if_pos h0] at he
        exact absurd rfl he
      · rw [if_neg h0]
    · rw [h]
theorem RDF_no (l : List UInt8) (n : Nat) (h : (RDF l n).2.2 ≠ 0) : RDF l n = ([], 0, (RDF l n).2.2) := RDF_none (l.length + 1) l n (by omega) h
theorem cons_none (l : List UInt8) (n : Nat) : cons [] 0 (RDF l n) = RDF l n := cons_nil _ (RDF_no l n)
theorem cons_eq {u : List UInt8} {y : Nat} {x : List UInt8 × Nat × Nat} {v : List UInt8} {k : Nat} (h : cons u y x = (v, k, 0)) : ∃ a b, x = (a, b, 0) ∧ v = u ++ a ∧ k = y + b := by
  unfold cons at h
  by_cases h0 : x.2.2 = 0
  · rw [if_pos h0] at h
    obtain ⟨a, b, c⟩ := x
    simp only [Prod.mk.injEq] at h h0
    obtain ⟨rfl, rfl, _⟩ := h
    subst h0
    exact ⟨a, b, rfl, rfl, rfl⟩
  · rw [if_neg h0] at h
    simp only [Prod.mk.injEq] at h
    exact absurd h.2.2 h0
/-- what is read: UTF-8, of 4096 bytes at most, no more than stand ahead of the closing mark -/
theorem RDF_within : ∀ (f : Nat) (l : List UInt8) (n : Nat) (v : List UInt8) (k : Nat), l.length < f → n ≤ 4096 → RDF l n = (v, k, 0) →
    Um.cnt v ≠ none ∧ n + v.length ≤ 4096 ∧ 1 ≤ k ∧ k ≤ l.length ∧ v.length ≤ k - 1 ∧ l[k - 1]? = some 34
  | 0, _, _, _, _, h, _, _ => by omega
  | f + 1, l, n, v, k, hf, hn, h => by
    rcases RDF_cases l n with ⟨_, h'⟩ | ⟨t, ht, h'⟩ | ⟨_, r, z, h1, h2, h'⟩ | ⟨e, he, h'⟩
    · rw [h'] at h
      simp at h
    · rw [h'] at h
      simp only [Prod.mk.injEq, and_true] at h
      obtain ⟨rfl, rfl⟩ := h
      subst ht
      refine ⟨by rw [Um.cnt_nil]; simp, by simp; exact hn, by omega, by simp, by simp, rfl⟩
    · rw [h'] at h
      obtain ⟨a, b, ha, rfl, rfl⟩ := cons_eq h
      obtain ⟨hg, hz⟩ := one_good h1
      have hlen := hg.len
      have hfew := hg.few
      obtain ⟨i1, i2, i3, i4, i5, i6⟩ := RDF_within f (l.drop z) _ a b (by rw [List.length_drop]; omega) h2 ha
      rw [List.length_drop] at i4
      rw [List.getElem?_drop] at i6
      refine ⟨?_, by rw [List.length_append]; omega, by omega, by omega, by rw [List.length_append]; omega, by rw [show z + b - 1 = z + (b - 1) by omega]; exact i6⟩
      rw [Um.cnt_ok (Um.nx_enc hg.rn a), List.drop_left]
      cases hc : Um.cnt a with
      | none => exact absurd hc i1
      | some m => simp
    · rw [h'] at h
      simp only [Prod.mk.injEq] at h
      exact absurd h.2.2 he
/-- what is cut is short -/
theorem RDF_cut : ∀ (f : Nat) (l : List UInt8) (n : Nat) (v : List UInt8) (k j : Nat), l.length < f → RDF l n = (v, k, 0) → j < k → RDF (l.take j) n = ([], 0, 4)
  | 0, _, _, _, _, _, h, _, _ => by omega
  | f + 1, l, n, v, k, j, hf, h, hj => by
    match j with
    | 0 => rw [List.take_zero, RDF_nil]
    | i + 1 =>
    rcases RDF_cases l n with ⟨_, h'⟩ | ⟨t, ht, h'⟩ | ⟨h34, r, z, h1, h2, h'⟩ | ⟨e, he, h'⟩
    · rw [h'] at h
      simp at h
    · rw [h'] at h
      simp only [Prod.mk.injEq, and_true] at h
      omega
    · rw [h'] at h
      obtain ⟨a, b, ha, rfl, rfl⟩ := cons_eq h
      obtain ⟨hg, hz⟩ := one_good h1
      have hd : (l.take (i + 1)).head? ≠ some 34 := by
        match l, h34 with
        | [], _ => simp
        | c :: t, h34 => simpa using h34
      by_cases hlt : i + 1 < z
      · exact RDF_bad n hd (by rw [hg.cut _ hlt]) (by decide)
      · rw [RDF_ok n hd (hg.take _ (by omega)) h2, List.drop_take, RDF_cut f (l.drop z) _ a b (i + 1 - z) (by rw [List.length_drop]; have := hg.len; omega) ha (by omega), cons_no _ _ (by decide)]
    · rw [h'] at h
      simp only [Prod.mk.injEq] at h
      exact absurd h.2.2 he

/-! What is read of a canonical form. -/
def lowB (l : List UInt8) : Bool := l.any fun c => decide (c < 32)
theorem lowB_append (a b : List UInt8) : lowB (a ++ b) = (lowB a || lowB b) := by simp [lowB]
theorem enc_high {r : Nat} (h : Um.rn r) (h1 : 128 ≤ r) : ∀ c ∈ Um.enc r, 128 ≤ c.toNat := by
  have hr : r ≤ 1114111 := by unfold Um.rn at h; omega
  intro c hc
  rcases Um.enc_parts r hr with ⟨h2, _⟩ | h2
  · omega
  · unfold Um.enc at hc
    rw [if_neg (by omega)] at hc
    repeat' split at hc
    all_goals
      simp only [List.mem_cons, List.not_mem_nil, or_false] at hc
      rcases hc with rfl | rfl | rfl | rfl
    all_goals
      rw [Um.ofNat_toNat' _ (by omega)]
      omega
theorem esc_high (l : List UInt8) (h : ∀ c ∈ l, 128 ≤ c.toNat) : esc l = l := by
  induction l with
  | nil => rfl
  | cons c t ih =>
    have hc := h c (List.mem_cons_self ..)
    have : ¬ (c = 34 ∨ c = 92) := by
      rintro (rfl | rfl)
      · exact absurd hc (by decide)
      · exact absurd hc (by decide)
    rw [esc_cons, if_neg this, ih (fun d hd => h d (List.mem_cons_of_mem _ hd))]
    rfl
theorem low_high (l : List UInt8) (h : ∀ c ∈ l, 128 ≤ c.toNat) : lowB l = false := by
  unfold lowB
  rw [List.any_eq_false]
  intro c hc
  have := h c hc
  simp only [decide_eq_true_eq, UInt8.lt_iff_toNat_lt]
  rw [show (32 : UInt8).toNat = 32 from rfl]
  omega
/-- a rune of the canonical form -/
theorem one_esc {r : Nat} (h : Um.rn r) (t : List UInt8) (hlow : lowB (Um.enc r) = false) : one (esc (Um.enc r) ++ t) = (r, (esc (Um.enc r)).length, 0) ∧ (esc (Um.enc r) ++ t).head? ≠ some 34 := by
  by_cases h1 : r < 128
  · have he : Um.enc r = [UInt8.ofNat r] := by unfold Um.enc; rw [if_pos h1]
    have hb := Um.ofNat_toNat' r (by omega)
    have hx := Um.nx_enc h t
    rw [he] at hlow hx ⊢
    generalize UInt8.ofNat r = c at *
    rw [esc_one]
    by_cases h2 : c = 34 ∨ c = 92
    · rw [if_pos h2]
      refine ⟨?_, by simp⟩
      rcases h2 with rfl | rfl
      · rw [← hb]; rfl
      · rw [← hb]; rfl
    · rw [if_neg h2]
      have h3 : ¬ c < 32 := by simpa [lowB] using hlow
      refine ⟨?_, fun e => h2 (.inl (by simpa using e))⟩
      rw [List.singleton_append] at hx ⊢
      rw [one, if_neg h3, if_neg (fun e => h2 (.inr e)), hx]
  · have hh := enc_high h (by omega)
    rw [esc_high _ hh]
    have hx := Um.nx_enc h t
    have hl := Um.enc_length r
    generalize Um.enc r = u at *
    match u, hl with
    | [], hl => simp at hl
    | c :: u, _ =>
      have hc := hh c (List.mem_cons_self ..)
      have h3 : ¬ c < 32 := by rw [UInt8.lt_iff_toNat_lt, show (32 : UInt8).toNat = 32 from rfl]; omega
      have h4 : c ≠ 92 := by rintro rfl; exact absurd hc (by decide)
      have h5 : c ≠ 34 := by rintro rfl; exact absurd hc (by decide)
      rw [List.cons_append] at hx ⊢
      refine ⟨by rw [one, if_neg h3, if_neg h4, hx], fun e => h5 (by simpa using e)⟩
/-- a text ahead -/
theorem RDF_esc : ∀ (f : Nat) (l t : List UInt8) (n : Nat), l.length < f → Um.cnt l ≠ none → lowB l = false → n + l.length ≤ 4096 → RDF (esc l ++ t) n = cons l (esc l).length (RDF t (n + l.length))
  | 0, _, _, _, h, _, _, _ => by omega
  | f + 1, [], t, n, _, _, _, _ => by rw [esc_nil, List.nil_append, List.length_nil, Nat.add_zero, cons_none]
  | f + 1, c :: l, t, n, hf, hc, hlow, hn => by
    cases hm : Um.cnt (c :: l) with
    | none => exact absurd hm hc
    | some m =>
      obtain ⟨r, s, m', h1, h2, _⟩ := Um.cnt_some hm (by simp)
      obtain ⟨f1, f2, f3, f4, f5, f6⟩ := Um.nx_facts h1
      have hs : c :: l = Um.enc r ++ (c :: l).drop s := by rw [f2, List.take_append_drop]
      generalize (c :: l).drop s = k at *
      rw [hs] at hlow hn hf ⊢
      rw [lowB_append, Bool.or_eq_false_iff] at hlow
      rw [List.length_append] at hn hf
      obtain ⟨o1, o2⟩ := one_esc f1 (esc k ++ t) hlow.1
      rw [esc_append, List.append_assoc, RDF_ok n o2 o1 (by omega), List.drop_left, RDF_esc f k t _ (by omega) (by rw [h2]; simp) hlow.2 (by omega), cons_cons, List.length_append, List.length_append, Nat.add_assoc]
/-- a text ahead that has a byte below 20 -/
theorem RDF_low : ∀ (f : Nat) (l t : List UInt8) (n : Nat), l.length < f → Um.cnt l ≠ none → lowB l = true → n + l.length ≤ 4096 → RDF (esc l ++ t) n = ([], 0, 3)
  | 0, _, _, _, h, _, _, _ => by omega
  | f + 1, [], t, n, _, _, h, _ => by simp [lowB] at h
  | f + 1, c :: l, t, n, hf, hc, hlow, hn => by
    cases hm : Um.cnt (c :: l) with
    | none => exact absurd hm hc
    | some m =>
      obtain ⟨r, s, m', h1, h2, _⟩ := Um.cnt_some hm (by simp)
      obtain ⟨f1, f2, f3, f4, f5, f6⟩ := Um.nx_facts h1
      have hs : c :: l = Um.enc r ++ (c :: l).drop s := by rw [f2, List.take_append_drop]
      generalize (c :: l).drop s = k at *
      rw [hs] at hlow hn hf ⊢
      rw [lowB_append] at hlow
      rw [List.length_append] at hn hf
      rw [esc_append, List.append_assoc]
      cases hl : lowB (Um.enc r) with
      | false =>
        rw [hl, Bool.false_or] at hlow
        obtain ⟨o1, o2⟩ := one_esc f1 (esc k ++ t) hl
        rw [RDF_ok n o2 o1 (by omega), List.drop_left, RDF_low f k t _ (by omega) (by rw [h2]; simp) hlow (by omega), cons_no _ _ (by decide)]
      | true =>
        have h3 : r < 128 := by
          apply Nat.lt_of_not_le
          intro h4
          rw [low_high _ (enc_high f1 h4)] at hl
          simp at hl
        have he : Um.enc r = [UInt8.ofNat r] := by unfold Um.enc; rw [if_pos h3]
        rw [he] at hl ⊢
        generalize UInt8.ofNat r = d at *
        have hd : d < 32 := by simpa [lowB] using hl
        have h5 : ¬ (d = 34 ∨ d = 92) := by
          rintro (rfl | rfl)
          · exact absurd hd (by decide)
          · exact absurd hd (by decide)
        rw [esc_one, if_neg h5]
        exact RDF_bad n (fun e => h5 (.inl (by simpa using e))) (by rw [List.singleton_append, one, if_pos hd]) (by decide)
/-- Read at a place -/
def RD (l : List UInt8) (k : Int) : List UInt8 × Nat × Nat :=
  if k < 0 ∨ (l.length : Int) < k then ([], 0, 1)
  else match l.drop k.toNat with
    | [] => ([], 0, 4)
    | c :: t => if c = 34 then cons [] (k.toNat + 1) (RDF t 0) else ([], 0, 3)
theorem RD_in (l : List UInt8) (p : Nat) (c : UInt8) (t : List UInt8) (h : l.drop p = c :: t) : RD l (p : Int) = if c = 34 then cons [] (p + 1) (RDF t 0) else ([], 0, 3) := by
  have : p < l.length := by
    apply Nat.lt_of_not_le
    intro h'
    rw [List.drop_of_length_le h'] at h
    simp at h
  unfold RD
  rw [if_neg (by omega), Int.toNat_natCast, h]
end Qm
end Go.Proofs.YtpifbmcgadjhbaaGreatDoor
