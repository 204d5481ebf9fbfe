/-
  UTF-8 as lists of bytes: what a text counts (cnt), one behind the other, cut; the bytes that stand in none; runes in their row; what the document's 'begins' reckons.
-/
import Derived.Test.YtpifbmcgadjhbaaGreatDoorUtfEnc
namespace Go.Proofs.YtpifbmcgadjhbaaGreatDoor
open Go.RowKit
namespace Um
def cntF : Nat → List UInt8 → Option Nat
  | 0, _ => some 0
  | f + 1, l => if l = [] then some 0 else if (nx l).2.2 = 0 then (cntF f (l.drop (nx l).2.1)).map (· + 1) else none
/-- how many runes a text has; none: it is not UTF-8 -/
def cnt (l : List UInt8) : Option Nat := cntF l.length l
theorem nx_eta {l : List UInt8} (h : (nx l).2.2 = 0) : nx l = ((nx l).1, (nx l).2.1, 0) := by rw [← h]
theorem cntF_nil (f : Nat) : cntF f [] = some 0 := by cases f <;> simp [cntF]
theorem cntF_fuel : ∀ (f g : Nat) (l : List UInt8), l.length ≤ f → l.length ≤ g → cntF f l = cntF g l
  | 0, g, l, hf, _ => by
    have : l = [] := List.length_eq_zero_iff.1 (by omega)
    rw [this, cntF_nil, cntF_nil]
  | f + 1, 0, l, _, hg => by
    have : l = [] := List.length_eq_zero_iff.1 (by omega)
    rw [this, cntF_nil, cntF_nil]
  | f + 1, g + 1, l, hf, hg => by
    unfold cntF
    split
    · rfl
    · split
      · rename_i h
        have hx := nx_facts (nx_eta h)
        rw [cntF_fuel f g (l.drop (nx l).2.1) (by rw [List.length_drop]; omega) (by rw [List.length_drop]; omega)]
      · rfl
theorem cnt_nil : cnt [] = some 0 := rfl
theorem cnt_ok {l : List UInt8} {r s : Nat} (h : nx l = (r, s, 0)) : cnt l = (cnt (l.drop s)).map (· + 1) := by
  have hx := nx_facts h
  have hl : l ≠ [] := by
    intro e
    rw [e] at hx
    simp at hx
    omega
  unfold cnt
  obtain ⟨m, hm⟩ : ∃ m, l.length = m + 1 := ⟨l.length - 1, by omega⟩
  rw [hm, cntF, if_neg hl, h]
  simp only [if_true]
  rw [cntF_fuel m (l.drop s).length (l.drop s) (by rw [List.length_drop]; omega) (Nat.le_refl _)]
theorem cnt_no {l : List UInt8} (h : (nx l).2.2 ≠ 0) (hl : 1 ≤ l.length) : cnt l = none := by
  have hl' : l ≠ [] := by
    intro e
    rw [e] at hl
    simp at hl
  unfold cnt
  obtain ⟨m, hm⟩ : ∃ m, l.length = m + 1 := ⟨l.length - 1, by omega⟩
  rw [hm, cntF, if_neg hl', if_neg h]
/-- of a text that counts, the first rune and what is behind it -/
theorem cnt_some {l : List UInt8} {n : Nat} (h : cnt l = some n) (hl : 1 ≤ l.length) : ∃ r s m, nx l = (r, s, 0) ∧ cnt (l.drop s) = some m ∧ n = m + 1 := by
  by_cases h0 : (nx l).2.2 = 0
  · rw [cnt_ok (nx_eta h0)] at h
    obtain ⟨m, h1, h2⟩ := Option.map_eq_some_iff.1 h
    exact ⟨_, _, m, nx_eta h0, h1, h2.symm⟩
  · rw [cnt_no h0 hl] at h
    cases h
theorem cnt_app : ∀ (k : Nat) (s t : List UInt8) (n : Nat), s.length ≤ k → cnt s = some n → cnt (s ++ t) = (cnt t).map (· + n)
  | 0, s, t, n, hk, h => by
    have : s = [] := List.length_eq_zero_iff.1 (by omega)
    subst this
    rw [cnt_nil] at h
    obtain rfl := Option.some.inj h
    simp
  | k + 1, s, t, n, hk, h => by
    by_cases hs : s.length = 0
    · have : s = [] := List.length_eq_zero_iff.1 hs
      subst this
      rw [cnt_nil] at h
      obtain rfl := Option.some.inj h
      simp
    · obtain ⟨r, z, m, h1, h2, rfl⟩ := cnt_some h (by omega)
      have hx := nx_facts h1
      rw [cnt_ok (nx_app h1 t), List.drop_append_of_le_length (by omega), cnt_app k (s.drop z) t m (by rw [List.length_drop]; omega) h2, Option.map_map]
      congr 1
theorem cnt_append {s : List UInt8} {n : Nat} (h : cnt s = some n) (t : List UInt8) : cnt (s ++ t) = (cnt t).map (· + n) := cnt_app s.length s t n (Nat.le_refl _) h
theorem cnt_le : ∀ (k : Nat) (s : List UInt8) (n : Nat), s.length ≤ k → cnt s = some n → n ≤ s.length
  | 0, s, n, hk, h => by
    have : s = [] := List.length_eq_zero_iff.1 (by omega)
    subst this
    rw [cnt_nil] at h
    obtain rfl := Option.some.inj h
    simp
  | k + 1, s, n, hk, h => by
    by_cases hs : s.length = 0
    · have : s = [] := List.length_eq_zero_iff.1 hs
      subst this
      rw [cnt_nil] at h
      obtain rfl := Option.some.inj h
      simp
    · obtain ⟨r, z, m, h1, h2, rfl⟩ := cnt_some h (by omega)
      have hx := nx_facts h1
      have := cnt_le k _ m (by rw [List.length_drop]; omega) h2
      rw [List.length_drop] at this
      omega
/-- one rune alone counts one -/
theorem cnt_one {l : List UInt8} {r s : Nat} (h : nx l = (r, s, 0)) : cnt (l.take s) = some 1 := by
  rw [cnt_ok (nx_take h (Nat.le_refl _)), List.drop_of_length_le (by rw [List.length_take]; omega), cnt_nil]
  rfl
/-- a byte that stands in no rune -/
def never (x : UInt8) : Prop := x.toNat = 192 ∨ x.toNat = 193 ∨ 245 ≤ x.toNat
theorem cnt_mem : ∀ (k : Nat) (l : List UInt8) (n : Nat), l.length ≤ k → cnt l = some n → ∀ i, i < l.length → ¬ (bt l i = 192 ∨ bt l i = 193 ∨ 245 ≤ bt l i)
  | 0, l, n, hk, h, i, hi => by omega
  | k + 1, l, n, hk, h, i, hi => by
    obtain ⟨r, z, m, h1, h2, rfl⟩ := cnt_some h (by omega)
    have hx := nx_facts h1
    by_cases hz : i < z
    · rcases whole_of h1 with ⟨rfl, hw⟩ | ⟨rfl, hw⟩ | ⟨rfl, hw⟩ | ⟨rfl, hw⟩
      · obtain rfl : i = 0 := by omega
        omega
      · rcases (show i = 0 ∨ i = 1 by omega) with rfl | rfl <;> omega
      · rcases (show i = 0 ∨ i = 1 ∨ i = 2 by omega) with rfl | rfl | rfl <;> omega
      · rcases (show i = 0 ∨ i = 1 ∨ i = 2 ∨ i = 3 by omega) with rfl | rfl | rfl | rfl <;> omega
    · have := cnt_mem k (l.drop z) m (by rw [List.length_drop]; omega) h2 (i - z) (by rw [List.length_drop]; omega)
      have e : bt (l.drop z) (i - z) = bt l i := by
        unfold bt
        rw [List.getD_eq_getElem?_getD, List.getElem?_drop, show z + (i - z) = i by omega, ← List.getD_eq_getElem?_getD]
      rwa [e] at this
/-- such a byte anywhere: no UTF-8 -/
theorem cnt_never (a b : List UInt8) (x : UInt8) (h : x.toNat = 192 ∨ x.toNat = 193 ∨ 245 ≤ x.toNat) : cnt (a ++ [x] ++ b) = none := by
  cases hc : cnt (a ++ [x] ++ b) with
  | none => rfl
  | some n =>
    exfalso
    refine cnt_mem _ _ n (Nat.le_refl _) hc a.length (by simp) ?_
    have e : bt (a ++ [x] ++ b) a.length = x.toNat := by
      unfold bt
      rw [List.append_assoc, List.getD_eq_getElem?_getD, List.getElem?_append_right (Nat.le_refl _)]
      simp
    rwa [e]
/-- a stray byte -/
theorem nx_stray (x : UInt8) (t : List UInt8) (h : (128 ≤ x.toNat ∧ x.toNat < 194) ∨ 244 < x.toNat) : nx ([x] ++ t) = (0, 0, 12) := by
  unfold nx nxN bt
  simp only [List.cons_append, List.nil_append, List.getD_cons_zero]
  rw [if_neg (by simp), if_neg (by omega), if_pos (by omega)]
theorem nx_low (x : UInt8) (t : List UInt8) (h : x.toNat < 128) : nx ([x] ++ t) = (x.toNat, 1, 0) := by
  unfold nx nxN bt
  simp only [List.cons_append, List.nil_append, List.getD_cons_zero]
  rw [if_neg (by simp), if_pos h]

/-! Runes rise as their bytes do. -/
theorem less_cons (a b : Nat) (x y : List UInt8) (ha : a < 256) (hb : b < 256) : Op.bytesLess (UInt8.ofNat a :: x) (UInt8.ofNat b :: y) = (decide (a < b) || (decide (a = b) && Op.bytesLess x y)) := by
  rw [Op.bytesLess]
  have h1 : (decide (UInt8.ofNat a < UInt8.ofNat b)) = decide (a < b) := by
    rw [decide_eq_decide, UInt8.lt_iff_toNat_lt, ofNat_toNat' a ha, ofNat_toNat' b hb]
  have h2 : (UInt8.ofNat a == UInt8.ofNat b) = decide (a = b) := by
    rw [Bool.eq_iff_iff, beq_iff_eq, decide_eq_true_eq, ← UInt8.toNat_inj, ofNat_toNat' a ha, ofNat_toNat' b hb]
  rw [h1, h2]
theorem less_nil : Op.bytesLess [] [] = false := rfl
theorem less_nil_cons (b : UInt8) (y : List UInt8) : Op.bytesLess [] (b :: y) = true := rfl
theorem less_cons_nil (b : UInt8) (y : List UInt8) : Op.bytesLess (b :: y) [] = false := rfl
theorem enc_parts (r : Nat) (h : r ≤ 1114111) : (r < 128 ∧ enc r = [UInt8.ofNat r]) ∨ (128 ≤ r ∧ r < 2048 ∧ enc r = [UInt8.ofNat (192 + r / 64), UInt8.ofNat (128 + r % 64)])
    ∨ (2048 ≤ r ∧ r < 65536 ∧ enc r = [UInt8.ofNat (224 + r / 4096), UInt8.ofNat (128 + r / 64 % 64), UInt8.ofNat (128 + r % 64)])
    ∨ (65536 ≤ r ∧ enc r = [UInt8.ofNat (240 + r / 262144), UInt8.ofNat (128 + r / 4096 % 64), UInt8.ofNat (128 + r / 64 % 64), UInt8.ofNat (128 + r % 64)]) := by
  unfold enc
  by_cases h1 : r < 128
  · rw [if_pos h1]; exact Or.inl ⟨h1, rfl⟩
  by_cases h2 : r < 2048
  · rw [if_neg h1, if_pos h2]; exact Or.inr (Or.inl ⟨by omega, h2, rfl⟩)
  by_cases h3 : r < 65536
  · rw [if_neg h1, if_neg h2, if_pos h3]; exact Or.inr (Or.inr (Or.inl ⟨by omega, h3, rfl⟩))
  · rw [if_neg h1, if_neg h2, if_neg h3]; exact Or.inr (Or.inr (Or.inr ⟨by omega, rfl⟩))
set_option maxRecDepth 100000 in
theorem enc_less (a b : Nat) (ha : rn a) (hb : rn b) : Op.bytesLess (enc a) (enc b) = decide (a < b) := by
  unfold rn at ha hb
  rcases enc_parts a (by omega) with ⟨a1, ea⟩ | ⟨a1, a2, ea⟩ | ⟨a1, a2, ea⟩ | ⟨a1, ea⟩ <;> rcases enc_parts b (by omega) with ⟨b1, eb⟩ | ⟨b1, b2, eb⟩ | ⟨b1, b2, eb⟩ | ⟨b1, eb⟩
  all_goals
    rw [ea, eb]
    repeat rw [less_cons _ _ _ _ (by omega) (by omega)]
  all_goals
    refine Bool.eq_iff_iff.2 ?_
    simp only [less_nil, less_nil_cons, less_cons_nil, Bool.and_false, Bool.or_false, Bool.and_true, Bool.or_eq_true, Bool.and_eq_true, decide_eq_true_eq] <;> omega
theorem enc_inj (a b : Nat) (ha : rn a) (hb : rn b) : (enc a == enc b) = decide (a = b) := by
  rw [Bool.eq_iff_iff, beq_iff_eq, decide_eq_true_eq]
  refine ⟨fun h => ?_, fun h => by rw [h]⟩
  have h1 := nx_enc ha []
  have h2 := nx_enc hb []
  rw [h, h2] at h1
  exact (Prod.mk.inj h1).1.symm

/-! What the document's 'begins' reckons. -/
def bs (z : Nat) : Nat := if z = 2 then 192 else if z = 3 then 224 else 240
def lst (z : Nat) : Nat := if z = 2 then 128 else if z = 3 then 2048 else 65536
def lw (z n : Nat) (f : Nat → Nat) : Nat → Nat
  | 0 => f 0 - bs z
  | k + 1 => 64 * lw z n f k + (if k + 1 < n then f (k + 1) - 128 else 0)
def hg (z n : Nat) (f : Nat → Nat) : Nat → Nat
  | 0 => f 0 - bs z
  | k + 1 => 64 * hg z n f k + (if k + 1 < n then f (k + 1) - 128 else 63)
/-- all bytes behind the first one, up to k, follow -/
def cs (n : Nat) (f : Nat → Nat) (k : Nat) : Prop := ∀ i, 1 ≤ i → i ≤ k → i < n → 128 ≤ f i ∧ f i ≤ 191
def lead (z a : Nat) : Prop := (z = 2 ∧ 192 ≤ a ∧ a < 224) ∨ (z = 3 ∧ 224 ≤ a ∧ a < 240) ∨ (z = 4 ∧ 240 ≤ a ∧ a ≤ 247)
/-- the end of its reckoning -/
def bgEnd (z n : Nat) (f : Nat → Nat) : Prop :=
  ¬ (55296 ≤ max (lw z n f (z - 1)) (lst z) ∧ min (hg z n f (z - 1)) 1114111 ≤ 57343) ∧ max (lw z n f (z - 1)) (lst z) ≤ min (hg z n f (z - 1)) 1114111
theorem lw_bd (z n : Nat) (f : Nat → Nat) (hf : ∀ i, f i < 256) (k : Nat) (hk : k ≤ 3) : lw z n f k ≤ 100000000 ∧ hg z n f k ≤ 100000000 := by
  have st : ∀ k, lw z n f (k + 1) ≤ 64 * lw z n f k + 255 ∧ hg z n f (k + 1) ≤ 64 * hg z n f k + 255 := fun k => by
    have := hf (k + 1)
    rw [lw, hg]
    split <;> omega
  have h0 := hf 0
  have e0 : lw z n f 0 ≤ 255 ∧ hg z n f 0 ≤ 255 := by rw [lw, hg]; omega
  have h1 := st 0
  have h2 := st 1
  have h3 := st 2
  simp only [Nat.zero_add, Nat.reduceAdd] at h1 h2 h3
  rcases (show k = 0 ∨ k = 1 ∨ k = 2 ∨ k = 3 by omega) with rfl | rfl | rfl | rfl <;> omega
theorem cs_one {n : Nat} {f : Nat → Nat} {k : Nat} (h : cs n f k) (i : Nat) (h1 : 1 ≤ i) (h2 : i ≤ k) (h3 : i < n) : 128 ≤ f i ∧ f i ≤ 191 := h i h1 h2 h3
theorem lw21 (f : Nat → Nat) : lw 2 1 f 1 = (64 * (f 0 - 192) + 0) := by simp [lw, bs]
theorem hg21 (f : Nat → Nat) : hg 2 1 f 1 = (64 * (f 0 - 192) + 63) := by simp [hg, bs]
theorem lw22 (f : Nat → Nat) : lw 2 2 f 1 = (64 * (f 0 - 192) + (f 1 - 128)) := by simp [lw, bs]
theorem hg22 (f : Nat → Nat) : hg 2 2 f 1 = (64 * (f 0 - 192) + (f 1 - 128)) := by simp [hg, bs]
theorem lw31 (f : Nat → Nat) : lw 3 1 f 2 = (64 * (64 * (f 0 - 224) + 0) + 0) := by simp [lw, bs]
theorem hg31 (f : Nat → Nat) : hg 3 1 f 2 = (64 * (64 * (f 0 - 224) + 63) + 63) := by simp [hg, bs]
theorem lw32 (f : Nat → Nat) : lw 3 2 f 2 = (64 * (64 * (f 0 - 224) + (f 1 - 128)) + 0) := by simp [lw, bs]
theorem hg32 (f : Nat → Nat) : hg 3 2 f 2 = (64 * (64 * (f 0 - 224) + (f 1 - 128)) + 63) := by simp [hg, bs]
theorem lw33 (f : Nat → Nat) : lw 3 3 f 2 = (64 * (64 * (f 0 - 224) + (f 1 - 128)) + (f 2 - 128)) := by simp [lw, bs]
theorem hg33 (f : Nat → Nat) : hg 3 3 f 2 = (64 * (64 * (f 0 - 224) + (f 1 - 128)) + (f 2 - 128)) := by simp [hg, bs]
theorem lw41 (f : Nat → Nat) : lw 4 1 f 3 = (64 * (64 * (64 * (f 0 - 240) + 0) + 0) + 0) := by simp [lw, bs]
theorem hg41 (f : Nat → Nat) : hg 4 1 f 3 = (64 * (64 * (64 * (f 0 - 240) + 63) + 63) + 63) := by simp [hg, bs]
theorem lw42 (f : Nat → Nat) : lw 4 2 f 3 = (64 * (64 * (64 * (f 0 - 240) + (f 1 - 128)) + 0) + 0) := by simp [lw, bs]
theorem hg42 (f : Nat → Nat) : hg 4 2 f 3 = (64 * (64 * (64 * (f 0 - 240) + (f 1 - 128)) + 63) + 63) := by simp [hg, bs]
theorem lw43 (f : Nat → Nat) : lw 4 3 f 3 = (64 * (64 * (64 * (f 0 - 240) + (f 1 - 128)) + (f 2 - 128)) + 0) := by simp [lw, bs]
theorem hg43 (f : Nat → Nat) : hg 4 3 f 3 = (64 * (64 * (64 * (f 0 - 240) + (f 1 - 128)) + (f 2 - 128)) + 63) := by simp [hg, bs]
theorem lw44 (f : Nat → Nat) : lw 4 4 f 3 = (64 * (64 * (64 * (f 0 - 240) + (f 1 - 128)) + (f 2 - 128)) + (f 3 - 128)) := by simp [lw, bs]
theorem hg44 (f : Nat → Nat) : hg 4 4 f 3 = (64 * (64 * (64 * (f 0 - 240) + (f 1 - 128)) + (f 2 - 128)) + (f 3 - 128)) := by simp [hg, bs]
theorem bg21 (f : Nat → Nat) (hf : ∀ i, f i < 256) (hz : lead 2 (f 0)) : (cs 1 f 1 ∧ bgEnd 2 1 f) ↔ Front 1 (f 0) (f 1) (f 2) := by
  have hl := lo_or (f 0)
  have hh := hi_or (f 0)
  have f0 := hf 0
  have hz' : 192 ≤ f 0 ∧ f 0 ≤ 223 := by unfold lead at hz; omega
  clear hz
  unfold bgEnd
  simp only [Nat.reduceSub, lw21, hg21, show lst 2 = 128 from rfl]
  constructor
  · rintro ⟨hc, h1, h2⟩
    clear hc
    exact Or.inr ⟨by omega, by omega, Or.inl rfl⟩
  · intro h
    unfold Front at h
    refine ⟨fun i i1 i2 i3 => ?_, by omega, by omega⟩
    omega
theorem bg22 (f : Nat → Nat) (hf : ∀ i, f i < 256) (hz : lead 2 (f 0)) : (cs 2 f 1 ∧ bgEnd 2 2 f) ↔ ∃ r, Whole 2 (f 0) (f 1) (f 2) (f 3) r 2 := by
  have hl := lo_or (f 0)
  have hh := hi_or (f 0)
  have f0 := hf 0
  have hz' : 192 ≤ f 0 ∧ f 0 ≤ 223 := by unfold lead at hz; omega
  clear hz
  unfold bgEnd
  simp only [Nat.reduceSub, lw22, hg22, show lst 2 = 128 from rfl]
  constructor
  · rintro ⟨hc, h1, h2⟩
    have c1 := hc 1 (by decide) (by decide) (by decide)
    clear hc
    exact ⟨_, Or.inr (Or.inl ⟨rfl, by omega, by omega, by omega, by omega, by omega, rfl⟩)⟩
  · rintro ⟨r, h⟩
    unfold Whole at h
    refine ⟨fun i i1 i2 i3 => ?_, by omega, by omega⟩
    obtain rfl : i = 1 := by omega
    all_goals omega
theorem bg31 (f : Nat → Nat) (hf : ∀ i, f i < 256) (hz : lead 3 (f 0)) : (cs 1 f 2 ∧ bgEnd 3 1 f) ↔ Front 1 (f 0) (f 1) (f 2) := by
  have hl := lo_or (f 0)
  have hh := hi_or (f 0)
  have f0 := hf 0
  have hz' : 224 ≤ f 0 ∧ f 0 ≤ 239 := by unfold lead at hz; omega
  clear hz
  unfold bgEnd
  simp only [Nat.reduceSub, lw31, hg31, show lst 3 = 2048 from rfl]
  constructor
  · rintro ⟨hc, h1, h2⟩
    clear hc
    exact Or.inr ⟨by omega, by omega, Or.inl rfl⟩
  · intro h
    unfold Front at h
    refine ⟨fun i i1 i2 i3 => ?_, by omega, by omega⟩
    omega
theorem bg32 (f : Nat → Nat) (hf : ∀ i, f i < 256) (hz : lead 3 (f 0)) : (cs 2 f 2 ∧ bgEnd 3 2 f) ↔ Front 2 (f 0) (f 1) (f 2) := by
  have hl := lo_or (f 0)
  have hh := hi_or (f 0)
  have f0 := hf 0
  have hz' : 224 ≤ f 0 ∧ f 0 ≤ 239 := by unfold lead at hz; omega
  clear hz
  unfold bgEnd
  simp only [Nat.reduceSub, lw32, hg32, show lst 3 = 2048 from rfl]
  constructor
  · rintro ⟨hc, h1, h2⟩
    have c1 := hc 1 (by decide) (by decide) (by decide)
    clear hc
    exact Or.inr ⟨by omega, by omega, Or.inr (Or.inl ⟨rfl, by omega, by omega, by omega⟩)⟩
  · intro h
    unfold Front at h
    refine ⟨fun i i1 i2 i3 => ?_, by omega, by omega⟩
    obtain rfl : i = 1 := by omega
    all_goals omega
theorem bg33 (f : Nat → Nat) (hf : ∀ i, f i < 256) (hz : lead 3 (f 0)) : (cs 3 f 2 ∧ bgEnd 3 3 f) ↔ ∃ r, Whole 3 (f 0) (f 1) (f 2) (f 3) r 3 := by
  have hl := lo_or (f 0)
  have hh := hi_or (f 0)
  have f0 := hf 0
  have hz' : 224 ≤ f 0 ∧ f 0 ≤ 239 := by unfold lead at hz; omega
  clear hz
  unfold bgEnd
  simp only [Nat.reduceSub, lw33, hg33, show lst 3 = 2048 from rfl]
  constructor
  · rintro ⟨hc, h1, h2⟩
    have c1 := hc 1 (by decide) (by decide) (by decide)
    have c2 := hc 2 (by decide) (by decide) (by decide)
    clear hc
    exact ⟨_, Or.inr (Or.inr (Or.inl ⟨rfl, by omega, by omega, by omega, by omega, by omega, by omega, by omega, by omega, by omega, rfl⟩))⟩
  · rintro ⟨r, h⟩
    unfold Whole at h
    refine ⟨fun i i1 i2 i3 => ?_, by omega, by omega⟩
    obtain rfl | rfl : i = 1 ∨ i = 2 := by omega
    all_goals omega
theorem bg41 (f : Nat → Nat) (hf : ∀ i, f i < 256) (hz : lead 4 (f 0)) : (cs 1 f 3 ∧ bgEnd 4 1 f) ↔ Front 1 (f 0) (f 1) (f 2) := by
  have hl := lo_or (f 0)
  have hh := hi_or (f 0)
  have f0 := hf 0
  have hz' : 240 ≤ f 0 ∧ f 0 ≤ 247 := by unfold lead at hz; omega
  clear hz
  unfold bgEnd
  simp only [Nat.reduceSub, lw41, hg41, show lst 4 = 65536 from rfl]
  constructor
  · rintro ⟨hc, h1, h2⟩
    clear hc
    exact Or.inr ⟨by omega, by omega, Or.inl rfl⟩
  · intro h
    unfold Front at h
    refine ⟨fun i i1 i2 i3 => ?_, by omega, by omega⟩
    omega
theorem bg42 (f : Nat → Nat) (hf : ∀ i, f i < 256) (hz : lead 4 (f 0)) : (cs 2 f 3 ∧ bgEnd 4 2 f) ↔ Front 2 (f 0) (f 1) (f 2) := by
  have hl := lo_or (f 0)
  have hh := hi_or (f 0)
  have f0 := hf 0
  have hz' : 240 ≤ f 0 ∧ f 0 ≤ 247 := by unfold lead at hz; omega
  clear hz
  unfold bgEnd
  simp only [Nat.reduceSub, lw42, hg42, show lst 4 = 65536 from rfl]
  constructor
  · rintro ⟨hc, h1, h2⟩
    have c1 := hc 1 (by decide) (by decide) (by decide)
    clear hc
    exact Or.inr ⟨by omega, by omega, Or.inr (Or.inl ⟨rfl, by omega, by omega, by omega⟩)⟩
  · intro h
    unfold Front at h
    refine ⟨fun i i1 i2 i3 => ?_, by omega, by omega⟩
    obtain rfl : i = 1 := by omega
    all_goals omega
theorem bg43 (f : Nat → Nat) (hf : ∀ i, f i < 256) (hz : lead 4 (f 0)) : (cs 3 f 3 ∧ bgEnd 4 3 f) ↔ Front 3 (f 0) (f 1) (f 2) := by
  have hl := lo_or (f 0)
  have hh := hi_or (f 0)
  have f0 := hf 0
  have hz' : 240 ≤ f 0 ∧ f 0 ≤ 247 := by unfold lead at hz; omega
  clear hz
  unfold bgEnd
  simp only [Nat.reduceSub, lw43, hg43, show lst 4 = 65536 from rfl]
  constructor
  · rintro ⟨hc, h1, h2⟩
    have c1 := hc 1 (by decide) (by decide) (by decide)
    have c2 := hc 2 (by decide) (by decide) (by decide)
    clear hc
    exact Or.inr ⟨by omega, by omega, Or.inr (Or.inr ⟨rfl, by omega, by omega, by omega, by omega, by omega⟩)⟩
  · intro h
    unfold Front at h
    refine ⟨fun i i1 i2 i3 => ?_, by omega, by omega⟩
    obtain rfl | rfl : i = 1 ∨ i = 2 := by omega
    all_goals omega
theorem bg44 (f : Nat → Nat) (hf : ∀ i, f i < 256) (hz : lead 4 (f 0)) : (cs 4 f 3 ∧ bgEnd 4 4 f) ↔ ∃ r, Whole 4 (f 0) (f 1) (f 2) (f 3) r 4 := by
  have hl := lo_or (f 0)
  have hh := hi_or (f 0)
  have f0 := hf 0
  have hz' : 240 ≤ f 0 ∧ f 0 ≤ 247 := by unfold lead at hz; omega
  clear hz
  unfold bgEnd
  simp only [Nat.reduceSub, lw44, hg44, show lst 4 = 65536 from rfl]
  constructor
  · rintro ⟨hc, h1, h2⟩
    have c1 := hc 1 (by decide) (by decide) (by decide)
    have c2 := hc 2 (by decide) (by decide) (by decide)
    have c3 := hc 3 (by decide) (by decide) (by decide)
    clear hc
    exact ⟨_, Or.inr (Or.inr (Or.inr ⟨rfl, by omega, by omega, by omega, by omega, by omega, by omega, by omega, by omega, by omega, by omega, by omega, rfl⟩))⟩
  · rintro ⟨r, h⟩
    unfold Whole at h
    refine ⟨fun i i1 i2 i3 => ?_, by omega, by omega⟩
    obtain rfl | rfl | rfl : i = 1 ∨ i = 2 ∨ i = 3 := by omega
    all_goals omega
end Um
end Go.Proofs.YtpifbmcgadjhbaaGreatDoor
