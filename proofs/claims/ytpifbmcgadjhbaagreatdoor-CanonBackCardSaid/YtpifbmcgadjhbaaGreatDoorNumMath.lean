/-
  Numbers' texts (of no program): which bytes belong to one, its form, its number; a number's own text is the one text of it.
-/
import Derived.Test.YtpifbmcgadjhbaaGreatDoorBase
import Derived.Lib.ItoaMem
import Derived.Lib.ParseIntB
namespace Go.Proofs.YtpifbmcgadjhbaaGreatDoor.Nm
open Go.Lib (decDigits itoa)

def dig (b : UInt8) : Bool := decide (48 ≤ b.toNat) && decide (b.toNat ≤ 57)
/-- the bytes that go on with a number's text -/
def more (b : UInt8) : Bool := dig b || b == 45 || b == 43 || b == 46 || b == 101 || b == 69
def nat (acc : Nat) : List UInt8 → Nat
  | [] => acc
  | c :: r => nat (acc * 10 + (c.toNat - 48)) r
def neg : List UInt8 → Bool
  | c :: _ => c == 45
  | [] => false
def body (l : List UInt8) : List UInt8 := if neg l then l.drop 1 else l
/-- digits, the first of which is not 0 -/
def pos (l : List UInt8) : Bool := !l.isEmpty && !(l.head? == some 48) && l.all dig
def form (l : List UInt8) : Bool := l == [48] || pos (body l)
def val (l : List UInt8) : Int := if neg l then -(nat 0 (body l) : Int) else (nat 0 (body l) : Int)
def inR (z : Int) : Bool := decide (-9223372036854775808 ≤ z) && decide (z ≤ 9223372036854775807)
def txt (l : List UInt8) (k : Nat) : List UInt8 := (l.drop k).takeWhile more
/-- what is read of a text: the number, its length, the error -/
def resT (t : List UInt8) : Int × Nat × Nat := if form t then (if inR (val t) then (val t, t.length, 0) else (0, 0, 9)) else (0, 0, 3)

theorem dig_iff {b : UInt8} : dig b = true ↔ 48 ≤ b.toNat ∧ b.toNat ≤ 57 := by unfold dig; simp
theorem dig_of {k : Nat} (h : k < 10) : dig (UInt8.ofNat (48 + k)) = true := by
  rw [dig_iff, UInt8.toNat_ofNat']
  omega
theorem toNat_of {k : Nat} (h : k < 10) : (UInt8.ofNat (48 + k)).toNat = 48 + k := by
  rw [UInt8.toNat_ofNat']
  omega
theorem of_dig {b : UInt8} (h : dig b = true) : UInt8.ofNat (48 + (b.toNat - 48)) = b := by
  rw [dig_iff] at h
  rw [show 48 + (b.toNat - 48) = b.toNat by omega]
  exact UInt8.ofNat_toNat
theorem more_dig {b : UInt8} (h : dig b = true) : more b = true := by unfold more; simp [h]
theorem dig_not45 : dig 45 = false := by decide
theorem more45 : more 45 = true := by decide

theorem nat_append (acc : Nat) (l : List UInt8) (c : UInt8) : nat acc (l ++ [c]) = nat acc l * 10 + (c.toNat - 48) := by
  induction l generalizing acc with
  | nil => rfl
  | cons a r ih => exact ih _
theorem nat_ge (acc : Nat) (l : List UInt8) : acc ≤ nat acc l := by
  induction l generalizing acc with
  | nil => exact Nat.le_refl _
  | cons a r ih => exact Nat.le_trans (by omega) (ih _)

theorem nat_dec (u : Nat) : nat 0 (decDigits u) = u := by
  induction u using Nat.strongRecOn with
  | _ u ih =>
    by_cases h : u < 10
    · rw [decDigits, dif_pos h]
      show 0 * 10 + ((UInt8.ofNat (48 + u)).toNat - 48) = u
      rw [toNat_of h]
      omega
    · rw [decDigits, dif_neg h, nat_append, ih (u / 10) (by omega), toNat_of (by omega)]
      omega
theorem dec_dig (u : Nat) : (decDigits u).all dig = true := by
  induction u using Nat.strongRecOn with
  | _ u ih =>
    by_cases h : u < 10
    · rw [decDigits, dif_pos h, List.all_cons, List.all_nil, dig_of h]
      rfl
    · rw [decDigits, dif_neg h, List.all_append, ih (u / 10) (by omega), List.all_cons, List.all_nil, dig_of (show u % 10 < 10 by omega)]
      rfl
theorem dec_ne (u : Nat) : decDigits u ≠ [] := by
  rw [decDigits]
  split <;> simp
theorem dec_head (u : Nat) (h1 : 1 ≤ u) : ∀ c, (decDigits u).head? = some c → c ≠ 48 := by
  induction u using Nat.strongRecOn with
  | _ u ih =>
    by_cases h : u < 10
    · rw [decDigits, dif_pos h]
      intro c hc
      simp only [List.head?_cons, Option.some.injEq] at hc
      subst hc
      intro hx
      have := congrArg UInt8.toNat hx
      rw [toNat_of h] at this
      simp at this
      omega
    · rw [decDigits, dif_neg h]
      intro c hc
      have := dec_ne (u / 10)
      cases hd : decDigits (u / 10) with
      | nil => exact absurd hd this
      | cons a r =>
        rw [hd] at hc
        refine ih (u / 10) (by omega) (by omega) c ?_
        rw [hd]
        exact hc
theorem dec_zero : decDigits 0 = [48] := by rw [decDigits, dif_pos (by omega)]; rfl

theorem pos_iff {l : List UInt8} : pos l = true ↔ l ≠ [] ∧ l.head? ≠ some 48 ∧ l.all dig = true := by
  unfold pos
  simp [and_assoc]
theorem pos_dec {u : Nat} (h : 1 ≤ u) : pos (decDigits u) = true := by
  rw [pos_iff]
  refine ⟨dec_ne u, fun hx => dec_head u h 48 hx rfl, dec_dig u⟩

/-- digits are the text of their number -/
theorem dec_nat : ∀ (n : Nat) (l : List UInt8), l.length = n → pos l = true → decDigits (nat 0 l) = l ∧ 1 ≤ nat 0 l
  | 0, l, hl, hp => by
    rw [pos_iff] at hp
    exact absurd (List.length_eq_zero_iff.1 hl) hp.1
  | n + 1, l, hl, hp => by
    rw [pos_iff] at hp
    obtain ⟨h0, h1, h2⟩ := hp
    rcases List.eq_nil_or_concat l with rfl | ⟨L, c, rfl⟩
    · exact absurd rfl h0
    simp only [List.concat_eq_append] at *
    rw [List.all_append] at h2
    simp only [List.all_cons, List.all_nil, Bool.and_true, Bool.and_eq_true] at h2
    have hc := dig_iff.1 h2.2
    rw [nat_append]
    by_cases hL : L = []
    · subst hL
      have hne : c.toNat ≠ 48 := fun hx => h1 (by
        have : c = 48 := UInt8.toNat.inj (by rw [hx]; rfl)
        rw [this]; rfl)
      refine ⟨?_, ?_⟩
      · show decDigits (0 * 10 + (c.toNat - 48)) = [c]
        rw [decDigits, dif_pos (by omega), show 48 + (0 * 10 + (c.toNat - 48)) = 48 + (c.toNat - 48) by omega, of_dig h2.2]
      · show 1 ≤ 0 * 10 + (c.toNat - 48)
        omega
    · have hpL : pos L = true := by
        rw [pos_iff]
        refine ⟨hL, ?_, h2.1⟩
        cases L with
        | nil => exact absurd rfl hL
        | cons a r => exact h1
      obtain ⟨g1, g2⟩ := dec_nat n L (by simp at hl; exact hl) hpL
      refine ⟨?_, by omega⟩
      rw [decDigits, dif_neg (by omega), show (nat 0 L * 10 + (c.toNat - 48)) / 10 = nat 0 L by omega, g1, show (nat 0 L * 10 + (c.toNat - 48)) % 10 = c.toNat - 48 by omega, of_dig h2.2]

theorem neg_of_dig {l : List UInt8} (h : l.all dig = true) : neg l = false := by
  cases l with
  | nil => rfl
  | cons a r =>
    simp only [List.all_cons, Bool.and_eq_true] at h
    have := dig_iff.1 h.1
    show (a == 45) = false
    rw [beq_eq_false_iff_ne]
    intro hx
    rw [hx] at this
    revert this
    decide
theorem body_of_dig {l : List UInt8} (h : l.all dig = true) : body l = l := by unfold body; rw [neg_of_dig h]; rfl

theorem itoa_neg {n : Int} (h : n < 0) : itoa n = 45 :: decDigits n.natAbs := by unfold itoa; rw [if_pos h]
theorem itoa_nn {n : Int} (h : ¬ n < 0) : itoa n = decDigits n.toNat := by unfold itoa; rw [if_neg h]

theorem form_itoa (n : Int) : form (itoa n) = true := by
  by_cases h : n < 0
  · rw [itoa_neg h]
    unfold form
    have : body (45 :: decDigits n.natAbs) = decDigits n.natAbs := rfl
    rw [this, pos_dec (by omega), Bool.or_true]
  · rw [itoa_nn h]
    by_cases h0 : n.toNat = 0
    · rw [h0, dec_zero]
      rfl
    · unfold form
      rw [body_of_dig (dec_dig _), pos_dec (by omega), Bool.or_true]
theorem val_itoa (n : Int) : val (itoa n) = n := by
  by_cases h : n < 0
  · rw [itoa_neg h]
    show -((nat 0 (decDigits n.natAbs) : Nat) : Int) = n
    rw [nat_dec]
    omega
  · rw [itoa_nn h]
    unfold val
    rw [neg_of_dig (dec_dig _), body_of_dig (dec_dig _), nat_dec]
    simp only [Bool.false_eq_true, ↓reduceIte]
    omega
theorem form_cases {t : List UInt8} (h : form t = true) : t = [48] ∨ (∃ r, t = 45 :: r ∧ pos r = true) ∨ (neg t = false ∧ pos t = true) := by
  unfold form at h
  rw [Bool.or_eq_true] at h
  rcases h with h | h
  · exact .inl (by simpa using h)
  · cases t with
    | nil => exact .inr (.inr ⟨rfl, h⟩)
    | cons a r =>
      by_cases ha : a = 45
      · subst ha
        exact .inr (.inl ⟨r, rfl, h⟩)
      · have hn : neg (a :: r) = false := by show (a == 45) = false; rw [beq_eq_false_iff_ne]; exact ha
        refine .inr (.inr ⟨hn, ?_⟩)
        unfold body at h
        rw [hn] at h
        exact h
theorem itoa_val {t : List UInt8} (h : form t = true) : itoa (val t) = t := by
  rcases form_cases h with rfl | ⟨r, rfl, hr⟩ | ⟨hn, hp⟩
  · show itoa 0 = [48]
    rw [itoa_nn (by omega)]
    exact dec_zero
  · obtain ⟨g1, g2⟩ := dec_nat _ r rfl hr
    have : val (45 :: r) = -(nat 0 r : Int) := rfl
    rw [this, itoa_neg (by omega), show (-(nat 0 r : Int)).natAbs = nat 0 r by omega, g1]
  · obtain ⟨g1, g2⟩ := dec_nat _ t rfl hp
    have : val t = (nat 0 t : Int) := by unfold val body; rw [hn]; rfl
    rw [this, itoa_nn (by omega), show ((nat 0 t : Nat) : Int).toNat = nat 0 t by omega, g1]
theorem itoa_is {t : List UInt8} (h : form t = true) (n : Int) : (itoa n = t) ↔ (n = val t) :=
  ⟨fun e => by rw [← e, val_itoa], fun e => by rw [e, itoa_val h]⟩
theorem itoa_inj {a b : Int} (h : itoa a = itoa b) : a = b := by rw [← val_itoa a, h, val_itoa]
theorem more_form {t : List UInt8} (h : form t = true) : t.all more = true := by
  have hd : ∀ r : List UInt8, pos r = true → r.all more = true := fun r hr => by
    rw [pos_iff] at hr
    rw [List.all_eq_true]
    exact fun b hb => more_dig (List.all_eq_true.1 hr.2.2 b hb)
  rcases form_cases h with rfl | ⟨r, rfl, hr⟩ | ⟨hn, hp⟩
  · decide
  · rw [List.all_cons, more45, hd r hr]
    rfl
  · exact hd t hp
theorem form_ne {t : List UInt8} (h : form t = true) : t ≠ [] := by
  rintro rfl
  revert h
  decide

/-! The text at a place. -/
theorem txt_cons {l : List UInt8} {p : Nat} {d : UInt8} (h : l.drop p = d :: l.drop (p + 1)) (hm : more d = true) : txt l p = d :: txt l (p + 1) := by
  unfold txt
  rw [h, List.takeWhile_cons, if_pos hm]
theorem txt_stop {l : List UInt8} {p : Nat} {d : UInt8} (h : l.drop p = d :: l.drop (p + 1)) (hm : more d = false) : txt l p = [] := by
  unfold txt
  rw [h, List.takeWhile_cons, if_neg (by rw [hm]; exact Bool.false_ne_true)]
theorem txt_end {l : List UInt8} {p : Nat} (h : l.length ≤ p) : txt l p = [] := by
  unfold txt
  rw [List.drop_of_length_le h]
  rfl
theorem txt_take (l : List UInt8) (k : Nat) : (l.drop k).take (txt l k).length = txt l k :=
  (List.prefix_iff_eq_take.1 (List.takeWhile_prefix (l := l.drop k) more)).symm
theorem txt_len (l : List UInt8) (k : Nat) (h : k ≤ l.length) : k + (txt l k).length ≤ l.length := by
  have := (List.takeWhile_prefix (l := l.drop k) more).length_le
  rw [List.length_drop] at this
  have h2 : (txt l k).length ≤ l.length - k := this
  omega
theorem txt_all (l : List UInt8) (k : Nat) : (txt l k).all more = true := by
  unfold txt
  exact List.all_takeWhile

/-! How long. -/
theorem nat_lt (acc : Nat) (l : List UInt8) (h : l.all dig = true) : nat acc l < (acc + 1) * 10 ^ l.length := by
  induction l generalizing acc with
  | nil =>
    show acc < (acc + 1) * 1
    omega
  | cons a r ih =>
    simp only [List.all_cons, Bool.and_eq_true] at h
    have ha := dig_iff.1 h.1
    have h1 := ih (acc * 10 + (a.toNat - 48)) h.2
    refine Nat.lt_of_lt_of_le h1 ?_
    rw [List.length_cons, Nat.pow_succ]
    have : (acc * 10 + (a.toNat - 48) + 1) * 10 ^ r.length ≤ (acc * 10 + 10) * 10 ^ r.length := Nat.mul_le_mul_right _ (by omega)
    refine Nat.le_trans this (Nat.le_of_eq ?_)
    rw [show acc * 10 + 10 = (acc + 1) * 10 by omega, Nat.mul_assoc, Nat.mul_comm 10]
theorem nat_acc (acc : Nat) (l : List UInt8) : acc * 10 ^ l.length ≤ nat acc l := by
  induction l generalizing acc with
  | nil =>
    show acc * 1 ≤ acc
    omega
  | cons a r ih =>
    refine Nat.le_trans ?_ (ih (acc * 10 + (a.toNat - 48)))
    rw [List.length_cons, Nat.pow_succ, Nat.mul_comm (10 ^ r.length), ← Nat.mul_assoc]
    exact Nat.mul_le_mul_right _ (by omega)
theorem pos_ge {a : UInt8} {r : List UInt8} (h : pos (a :: r) = true) : 10 ^ r.length ≤ nat 0 (a :: r) := by
  rw [pos_iff] at h
  simp only [List.all_cons, Bool.and_eq_true] at h
  have ha := dig_iff.1 h.2.2.1
  have hne : a.toNat ≠ 48 := fun hx => h.2.1 (by
    have : a = 48 := UInt8.toNat.inj (by rw [hx]; rfl)
    rw [this]; rfl)
  have := nat_acc (0 * 10 + (a.toNat - 48)) r
  refine Nat.le_trans ?_ this
  rw [show 0 * 10 + (a.toNat - 48) = (a.toNat - 49) + 1 by omega, Nat.add_mul, Nat.one_mul]
  omega

/-- a text of more than 20 bytes is too much -/
theorem long_out {t : List UInt8} (h : form t = true) (hl : 20 < t.length) : inR (val t) = false := by
  have key : ∀ r : List UInt8, pos r = true → 20 ≤ r.length → 10 ^ 19 ≤ nat 0 r := fun r hr hrl => by
    cases r with
    | nil => simp at hrl
    | cons a r =>
      refine Nat.le_trans ?_ (pos_ge hr)
      exact Nat.pow_le_pow_right (by omega) (by simp at hrl; omega)
  rcases form_cases h with rfl | ⟨r, rfl, hr⟩ | ⟨hn, hp⟩
  · simp at hl
  · have := key r hr (by simp at hl; omega)
    have hv : val (45 :: r) = -(nat 0 r : Int) := rfl
    unfold inR
    rw [hv]
    simp only [Bool.and_eq_false_iff, decide_eq_false_iff_not]
    left
    have e : (10 : Nat) ^ 19 = 10000000000000000000 := by decide
    rw [e] at this
    omega
  · have := key t hp (by omega)
    have hv : val t = (nat 0 t : Int) := by unfold val body; rw [hn]; rfl
    unfold inR
    rw [hv]
    simp only [Bool.and_eq_false_iff, decide_eq_false_iff_not]
    right
    have e : (10 : Nat) ^ 19 = 10000000000000000000 := by decide
    rw [e] at this
    omega
/-- what is too much has 19 bytes at least -/
theorem out_long {t : List UInt8} (h : form t = true) (ho : inR (val t) = false) : 19 ≤ t.length := by
  refine Classical.byContradiction fun hc => ?_
  have key : ∀ r : List UInt8, pos r = true → r.length ≤ 18 → nat 0 r < 10 ^ 18 := fun r hr hrl => by
    rw [pos_iff] at hr
    refine Nat.lt_of_lt_of_le (nat_lt 0 r hr.2.2) ?_
    rw [Nat.zero_add, Nat.one_mul]
    exact Nat.pow_le_pow_right (by omega) hrl
  have e : (10 : Nat) ^ 18 = 1000000000000000000 := by decide
  rw [e] at key
  unfold inR at ho
  simp only [Bool.and_eq_false_iff, decide_eq_false_iff_not] at ho
  rcases form_cases h with rfl | ⟨r, rfl, hr⟩ | ⟨hn, hp⟩
  · have hv : val [48] = 0 := rfl
    rw [hv] at ho
    omega
  · have := key r hr (by simp at hc; omega)
    have hv : val (45 :: r) = -(nat 0 r : Int) := rfl
    rw [hv] at ho
    omega
  · have := key t hp (by omega)
    have hv : val t = (nat 0 t : Int) := by unfold val body; rw [hn]; rfl
    rw [hv] at ho
    omega

/-! What the library reads of a text of the form. -/
open Go.Lib (parseUintM parseUintB parseIntB NumEnd)
theorem uint_is (acc : Nat) (l : List UInt8) (h : l.all dig = true) :
    parseUintM 18446744073709551615 acc l = if nat acc l ≤ 18446744073709551615 then .ok (nat acc l) else if acc ≤ 18446744073709551615 then .range else parseUintM 18446744073709551615 acc l := by
  induction l generalizing acc with
  | nil =>
    have e : nat acc [] = acc := rfl
    rw [e]
    by_cases hc : acc ≤ 18446744073709551615
    · rw [if_pos hc, parseUintM]
    · rw [if_neg hc, if_neg hc]
  | cons a r ih =>
    simp only [List.all_cons, Bool.and_eq_true] at h
    have ha := dig_iff.1 h.1
    have hg := nat_ge (acc * 10 + (a.toNat - 48)) r
    have he : nat acc (a :: r) = nat (acc * 10 + (a.toNat - 48)) r := rfl
    rw [he]
    by_cases hacc : acc ≤ 18446744073709551615
    · rw [if_pos hacc]
      unfold parseUintM
      rw [if_pos ha]
      by_cases h1 : 1844674407370955162 ≤ acc
      · rw [if_pos h1, if_neg (by omega)]
      · rw [if_neg h1]
        by_cases h2 : 18446744073709551615 < acc * 10 + (a.toNat - 48)
        · rw [if_pos h2, if_neg (by omega)]
        · rw [if_neg h2, ih _ h.2, if_pos (show acc * 10 + (a.toNat - 48) ≤ 18446744073709551615 by omega)]
    · rw [if_neg hacc, if_neg (by omega)]
theorem uint_pos {l : List UInt8} (h : l.all dig = true) (h0 : l ≠ []) : parseUintB 64 l = if nat 0 l ≤ 18446744073709551615 then .ok (nat 0 l) else .range := by
  unfold parseUintB
  rw [if_neg h0]
  have := uint_is 0 l h
  rw [if_pos (show 0 ≤ 18446744073709551615 by omega)] at this
  exact this
theorem parse_is {t : List UInt8} (h : form t = true) : parseIntB 64 t = if inR (val t) then .ok (val t) else .range := by
  have hp : ∀ t : List UInt8, t ≠ [] → t.all dig = true → parseIntB 64 t = if inR (val t) then .ok (val t) else .range := fun t h0 hd => by
    have hv : val t = (nat 0 t : Int) := by unfold val; rw [neg_of_dig hd, body_of_dig hd]; rfl
    rw [hv]
    cases t with
    | nil => exact absurd rfl h0
    | cons a r =>
      have ha : dig a = true := by simp only [List.all_cons, Bool.and_eq_true] at hd; exact hd.1
      have ha' := dig_iff.1 ha
      unfold parseIntB
      simp only
      rw [if_neg (show ¬ (a.toNat = 43 ∨ a.toNat = 45) by omega), uint_pos hd h0]
      have e : (2 : Nat) ^ (64 - 1) = 9223372036854775808 := by decide
      rw [e]
      have h45 : ¬ a.toNat = 45 := by omega
      generalize nat 0 (a :: r) = N
      unfold inR
      by_cases hN : N ≤ 18446744073709551615
      · rw [if_pos hN]
        simp only [h45, not_false_eq_true, true_and, false_and, ↓reduceIte]
        by_cases hM : 9223372036854775808 ≤ N
        · rw [if_pos hM, if_neg (by simp; omega)]
        · rw [if_neg hM, if_pos (by simp; omega)]
      · rw [if_neg hN, if_neg (by simp; omega)]
  rcases form_cases h with rfl | ⟨r, rfl, hr⟩ | ⟨hn, hpt⟩
  · exact hp [48] (by simp) (by decide)
  · rw [pos_iff] at hr
    have hv : val (45 :: r) = -(nat 0 r : Int) := rfl
    rw [hv]
    unfold parseIntB
    simp only
    rw [if_pos (show (UInt8.toNat 45 = 43 ∨ UInt8.toNat 45 = 45) from .inr rfl), uint_pos hr.2.2 hr.1]
    have e : (2 : Nat) ^ (64 - 1) = 9223372036854775808 := by decide
    rw [e]
    have h45 : UInt8.toNat 45 = 45 := rfl
    generalize nat 0 r = N
    unfold inR
    by_cases hN : N ≤ 18446744073709551615
    · rw [if_pos hN]
      simp only [h45, not_true_eq_false, true_and, false_and, ↓reduceIte]
      by_cases hM : 9223372036854775808 < N
      · rw [if_pos hM, if_neg (by simp; omega)]
      · rw [if_neg hM, if_pos (by simp; omega)]
    · rw [if_neg hN, if_neg (by simp; omega)]
  · rw [pos_iff] at hpt
    exact hp t hpt.1 hpt.2.2
end Go.Proofs.YtpifbmcgadjhbaaGreatDoor.Nm
