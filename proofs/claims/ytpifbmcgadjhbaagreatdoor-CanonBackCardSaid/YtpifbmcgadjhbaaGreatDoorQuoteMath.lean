/-
  JSON strings as lists of bytes, no program in it: the canonical form (QUO), and what stands at the front of bytes when a string is read: digits (hexs), a number (num), an escape (escd), a rune (one), the string (RDF).
-/
import Derived.Test.YtpifbmcgadjhbaaGreatDoorUtfLen
import Derived.Test.YtpifbmcgadjhbaaGreatDoorHexMath
namespace Go.Proofs.YtpifbmcgadjhbaaGreatDoor
open Go.RowKit
namespace Qm
/-- with a \ ahead of each " and \ -/
def esc (l : List UInt8) : List UInt8 := l.flatMap fun c => if c = 34 ∨ c = 92 then [92, c] else [c]
def quo (l : List UInt8) : List UInt8 := 34 :: (esc l ++ [34])
theorem esc_nil : esc [] = [] := rfl
theorem esc_cons (c : UInt8) (l : List UInt8) : esc (c :: l) = (if c = 34 ∨ c = 92 then [92, c] else [c]) ++ esc l := rfl
theorem esc_append (l r : List UInt8) : esc (l ++ r) = esc l ++ esc r := by simp [esc]
theorem esc_one (c : UInt8) : esc [c] = if c = 34 ∨ c = 92 then [92, c] else [c] := by simp [esc]
theorem esc_len (l : List UInt8) : l.length ≤ (esc l).length ∧ (esc l).length ≤ 2 * l.length := by
  induction l with
  | nil => simp [esc]
  | cons c t ih =>
    rw [esc_cons, List.length_append, List.length_cons]
    split <;> simp only [List.length_cons, List.length_nil] <;> omega

/-! Digits. -/
def lw (c : Int) : Int := if 65 ≤ c ∧ c ≤ 70 then c + 32 else c
def dB (c : UInt8) : Bool := Hm.isD (lw (c.toNat : Int))
def dV (c : UInt8) : Nat := (Hm.hv (lw (c.toNat : Int))).toNat
theorem dV_lt (c : UInt8) : dV c < 16 := by
  have := Hm.hv_bd (lw (c.toNat : Int))
  unfold dV
  omega
/-- k digits, a ahead of them; the error -/
def hexs : Nat → List UInt8 → Nat → Nat × Nat
  | 0, _, a => (a, 0)
  | _ + 1, [], _ => (0, 4)
  | k + 1, c :: t, a => if dB c then hexs k t (16 * a + dV c) else (0, 3)
theorem hexs_cases : ∀ (k : Nat) (l : List UInt8) (a : Nat), ((hexs k l a).2 = 0 ∧ k ≤ l.length ∧ (hexs k l a).1 < (a + 1) * 16 ^ k) ∨ hexs k l a = (0, 4) ∨ hexs k l a = (0, 3)
  | 0, l, a => .inl (by simp [hexs])
  | k + 1, [], a => .inr (.inl rfl)
  | k + 1, c :: t, a => by
    rw [hexs]
    by_cases h : dB c = true
    · rw [if_pos h]
      rcases hexs_cases k t (16 * a + dV c) with ⟨h1, h2, h3⟩ | h1 | h1
      · refine .inl ⟨h1, by simp only [List.length_cons]; omega, Nat.lt_of_lt_of_le h3 ?_⟩
        have := dV_lt c
        rw [Nat.pow_succ, Nat.mul_comm (16 ^ k) 16, ← Nat.mul_assoc]
        exact Nat.mul_le_mul_right _ (by omega)
      · exact .inr (.inl h1)
      · exact .inr (.inr h1)
    · rw [if_neg h]
      exact .inr (.inr rfl)
theorem hexs_take : ∀ (k : Nat) (l : List UInt8) (a n j : Nat), hexs k l a = (n, 0) → k ≤ j → hexs k (l.take j) a = (n, 0)
  | 0, l, a, n, j, h, _ => by simpa [hexs] using h
  | k + 1, [], a, n, j, h, _ => by simp [hexs] at h
  | k + 1, c :: t, a, n, j, h, hj => by
    obtain ⟨j, rfl⟩ : ∃ i, j = i + 1 := ⟨j - 1, by omega⟩
    rw [List.take_succ_cons]
    rw [hexs] at h ⊢
    by_cases hd : dB c = true
    · rw [if_pos hd] at h ⊢
      exact hexs_take k t _ n j h (by omega)
    · rw [if_neg hd] at h
      simp at h
theorem hexs_cut : ∀ (k : Nat) (l : List UInt8) (a n j : Nat), hexs k l a = (n, 0) → j < k → hexs k (l.take j) a = (0, 4)
  | 0, l, a, n, j, h, hj => by omega
  | k + 1, [], a, n, j, h, _ => by simp [hexs] at h
  | k + 1, c :: t, a, n, 0, h, hj => by simp [hexs]
  | k + 1, c :: t, a, n, j + 1, h, hj => by
    rw [List.take_succ_cons]
    rw [hexs] at h ⊢
    by_cases hd : dB c = true
    · rw [if_pos hd] at h ⊢
      exact hexs_cut k t _ n j h (by omega)
    · rw [if_neg hd] at h
      simp at h
/-- the number of four digits -/
def f4 (l : List UInt8) : Nat × Nat := hexs 4 l 0
theorem f4_cases (l : List UInt8) : (∃ n, f4 l = (n, 0) ∧ 4 ≤ l.length ∧ n < 65536) ∨ f4 l = (0, 4) ∨ f4 l = (0, 3) := by
  rcases hexs_cases 4 l 0 with ⟨h1, h2, h3⟩ | h | h
  · exact .inl ⟨(hexs 4 l 0).1, Prod.ext rfl h1, h2, by simpa using h3⟩
  · exact .inr (.inl h)
  · exact .inr (.inr h)

/-! A number behind \u : the rune, its size, the error. -/
def shift (k : Nat) (x : Nat × Nat × Nat) : Nat × Nat × Nat := if x.2.2 = 0 then (x.1, x.2.1 + k, 0) else (0, 0, x.2.2)
def isS (n : Nat) : Bool := decide (56320 ≤ n) && decide (n < 57344)
def isF (n : Nat) : Bool := decide (55296 ≤ n) && decide (n < 56320)
def pair (n m : Nat) : Nat := 65536 + (n - 55296) * 1024 + (m - 56320)
/-- the second half: behind both of \u -/
def snd2 (n : Nat) (l : List UInt8) : Nat × Nat × Nat := if (f4 l).2 = 0 then (if isS (f4 l).1 then (pair n (f4 l).1, 10, 0) else (0, 0, 12)) else (0, 0, (f4 l).2)
def snd1 (n : Nat) : List UInt8 → Nat × Nat × Nat
  | [] => (0, 0, 4)
  | c :: t => if c = 117 then snd2 n t else (0, 0, 12)
def snd0 (n : Nat) : List UInt8 → Nat × Nat × Nat
  | [] => (0, 0, 4)
  | c :: t => if c = 92 then snd1 n t else (0, 0, 12)
def num (l : List UInt8) : Nat × Nat × Nat :=
  if (f4 l).2 = 0 then (if isS (f4 l).1 then (0, 0, 12) else if isF (f4 l).1 then snd0 (f4 l).1 (l.drop 4) else ((f4 l).1, 4, 0)) else (0, 0, (f4 l).2)
/-- the rune that a byte behind a \ stands for -/
def simple (c : UInt8) : Option Nat :=
  if c = 34 ∨ c = 92 ∨ c = 47 then some c.toNat else if c = 98 then some 8 else if c = 102 then some 12 else if c = 110 then some 10 else if c = 114 then some 13 else if c = 116 then some 9 else none
def escd : List UInt8 → Nat × Nat × Nat
  | [] => (0, 0, 4)
  | c :: t => if c = 117 then shift 1 (num t) else match simple c with
    | some r => (r, 1, 0)
    | none => (0, 0, 3)
def one : List UInt8 → Nat × Nat × Nat
  | [] => (0, 0, 4)
  | c :: t => if c < 32 then (0, 0, 3) else if c = 92 then shift 1 (escd t) else Um.nx (c :: t)

/-- what holds of a rune that is read by z bytes of the front: it is told by these alone, cut short it is short -/
structure Good (F : List UInt8 → Nat × Nat × Nat) (l : List UInt8) (r z : Nat) : Prop where
  rn : Um.rn r
  len : z ≤ l.length
  few : (Um.enc r).length ≤ z
  take : ∀ j, z ≤ j → F (l.take j) = (r, z, 0)
  cut : ∀ j, j < z → F (l.take j) = (0, 0, 4)
theorem enc_le3 {r : Nat} (h : r < 65536) : (Um.enc r).length ≤ 3 := by
  unfold Um.enc
  repeat' split
  all_goals simp only [List.length_cons, List.length_nil]
  all_goals omega
theorem enc_1 {r : Nat} (h : r < 128) : (Um.enc r).length = 1 := by
  unfold Um.enc
  rw [if_pos h]
  rfl
theorem shift_eq {k : Nat} {x : Nat × Nat × Nat} {r z : Nat} (h : shift k x = (r, z, 0)) : ∃ y, x = (r, y, 0) ∧ z = y + k := by
  unfold shift at h
  split at h
  · rename_i h0
    obtain ⟨a, b, c⟩ := x
    simp only [Prod.mk.injEq] at h h0
    obtain ⟨rfl, rfl, _⟩ := h
    subst h0
    exact ⟨b, rfl, rfl⟩
  · rename_i h0
    simp only [Prod.mk.injEq] at h
    exact absurd h.2.2 h0
theorem shift_ok (k r z : Nat) : shift k (r, z, 0) = (r, z + k, 0) := rfl
theorem shift_4 (k : Nat) : shift k (0, 0, 4) = (0, 0, 4) := rfl
/-- a byte ahead -/
theorem Good.ahead {F G : List UInt8 → Nat × Nat × Nat} {c : UInt8} {t : List UInt8} {r z : Nat} (h : Good F t r z) (h0 : G [] = (0, 0, 4)) (h1 : ∀ u, G (c :: u) = shift 1 (F u)) : Good G (c :: t) r (z + 1) where
  rn := h.rn
  len := by simp only [List.length_cons]; have := h.len; omega
  few := by have := h.few; omega
  take j hj := by
    obtain ⟨j, rfl⟩ : ∃ i, j = i + 1 := ⟨j - 1, by omega⟩
    rw [List.take_succ_cons, h1, h.take j (by omega)]
    rfl
  cut j hj := by
    match j with
    | 0 => exact h0
    | j + 1 => rw [List.take_succ_cons, h1, h.cut j (by omega)]; rfl
theorem isS_iff (n : Nat) : isS n = true ↔ 56320 ≤ n ∧ n < 57344 := by simp [isS]
theorem isF_iff (n : Nat) : isF n = true ↔ 55296 ≤ n ∧ n < 56320 := by simp [isF]
theorem snd2_of {n : Nat} {l : List UInt8} {m : Nat} (h : f4 l = (m, 0)) : snd2 n l = if isS m then (pair n m, 10, 0) else (0, 0, 12) := by
  unfold snd2
  rw [h]
  simp
theorem snd2_no {n : Nat} {l : List UInt8} {e : Nat} (h : f4 l = (0, e)) (he : e ≠ 0) : snd2 n l = (0, 0, e) := by
  unfold snd2
  rw [h]
  simp [he]
theorem num_good {l : List UInt8} {r z : Nat} (h : num l = (r, z, 0)) : Good num l r z := by
  rcases f4_cases l with ⟨n, hn, hl, hb⟩ | h4 | h4
  · have e1 : num l = if isS n then (0, 0, 12) else if isF n then snd0 n (l.drop 4) else (n, 4, 0) := by unfold num; rw [hn]; simp
    have tk : ∀ j, 4 ≤ j → f4 (l.take j) = (n, 0) := fun j hj => hexs_take 4 l 0 n j hn hj
    have ct : ∀ j, j < 4 → num (l.take j) = (0, 0, 4) := fun j hj => by
      have := hexs_cut 4 l 0 n j hn hj
      unfold num
      rw [show f4 (l.take j) = (0, 4) from this]
      simp
    have e2 : ∀ j, 4 ≤ j → num (l.take j) = if isS n then (0, 0, 12) else if isF n then snd0 n ((l.drop 4).take (j - 4)) else (n, 4, 0) := fun j hj => by
      unfold num
      rw [tk j hj, List.drop_take]
      simp
    rw [e1] at h
    by_cases hs : isS n = true
    · rw [if_pos hs] at h
      simp at h
    rw [if_neg hs] at h e1
    by_cases hf : isF n = true
    · rw [if_pos hf] at h e1
      have hfn := (isF_iff n).1 hf
      match hd : l.drop 4, h with
      | [], h => simp [snd0] at h
      | c :: t, h =>
        rw [snd0] at h
        by_cases hc : c = 92
        · rw [if_pos hc] at h
          match t, h with
          | [], h => simp [snd1] at h
          | d :: u, h =>
            rw [snd1] at h
            by_cases hd' : d = 117
            · rw [if_pos hd'] at h
              rcases f4_cases u with ⟨m, hm, hu, hmb⟩ | h5 | h5
              · rw [snd2_of hm] at h
                by_cases hms : isS m = true
                · rw [if_pos hms] at h
                  simp only [Prod.mk.injEq, and_true] at h
                  obtain ⟨rfl, rfl⟩ := h
                  have hmn := (isS_iff m).1 hms
                  have hll : 10 ≤ l.length := by
                    have := congrArg List.length hd
                    simp only [List.length_drop, List.length_cons] at this
                    omega
                  refine ⟨by unfold Um.rn pair; omega, hll, by have := Um.enc_length (pair n m); omega, fun j hj => ?_, fun j hj => ?_⟩
                  · rw [e2 j (by omega), if_neg hs, if_pos hf, hd]
                    obtain ⟨i, rfl⟩ : ∃ i, j = i + 6 := ⟨j - 6, by omega⟩
                    rw [show i + 6 - 4 = i + 1 + 1 by omega, List.take_succ_cons, List.take_succ_cons, snd0, if_pos hc, snd1, if_pos hd', snd2_of (hexs_take 4 u 0 m i hm (by omega)), if_pos hms]
                  · by_cases hj4 : j < 4
                    · exact ct j hj4
                    · rw [e2 j (by omega), if_neg hs, if_pos hf, hd]
                      obtain ⟨i, rfl⟩ : ∃ i, j = i + 4 := ⟨j - 4, by omega⟩
                      rw [Nat.add_sub_cancel]
                      match i with
                      | 0 => rfl
                      | 1 => rw [List.take_succ_cons, snd0, if_pos hc]; rfl
                      | i + 2 =>
                        rw [List.take_succ_cons, List.take_succ_cons, snd0, if_pos hc, snd1, if_pos hd', snd2_no (hexs_cut 4 u 0 m i hm (by omega)) (by decide)]
                · rw [if_neg hms] at h
                  simp at h
              · rw [snd2_no h5 (by decide)] at h
                simp at h
              · rw [snd2_no h5 (by decide)] at h
                simp at h
            · rw [if_neg hd'] at h
              simp at h
        · rw [if_neg hc] at h
          simp at h
    · rw [if_neg hf] at h
      simp only [Prod.mk.injEq, and_true] at h
      obtain ⟨rfl, rfl⟩ := h
      have h1 : ¬ (56320 ≤ n ∧ n < 57344) := fun x => hs ((isS_iff n).2 x)
      have h2 : ¬ (55296 ≤ n ∧ n < 56320) := fun x => hf ((isF_iff n).2 x)
      refine ⟨by unfold Um.rn; omega, hl, by have := enc_le3 hb; omega, fun j hj => by rw [e2 j hj, if_neg hs, if_neg hf], ct⟩
  · unfold num at h
    rw [h4] at h
    simp at h
  · unfold num at h
    rw [h4] at h
    simp at h
theorem simple_lt {c : UInt8} {r : Nat} (h : simple c = some r) : r < 128 := by
  unfold simple at h
  by_cases h1 : c = 34 ∨ c = 92 ∨ c = 47
  · rw [if_pos h1] at h
    rcases h1 with rfl | rfl | rfl <;> · simp only [Option.some.injEq] at h; subst h; decide
  · rw [if_neg h1] at h
    repeat' split at h
    all_goals first | (simp only [Option.some.injEq] at h; omega) | (simp at h)
theorem escd_good {l : List UInt8} {r z : Nat} (h : escd l = (r, z, 0)) : Good escd l r z := by
  match l, h with
  | [], h => simp [escd] at h
  | c :: t, h =>
    by_cases hu : c = 117
    · have e : ∀ u, escd (c :: u) = shift 1 (num u) := fun u => by rw [escd, if_pos hu]
      rw [e] at h
      obtain ⟨y, hy, rfl⟩ := shift_eq h
      exact (num_good hy).ahead rfl e
    · have e : ∀ u, escd (c :: u) = match simple c with | some r => (r, 1, 0) | none => (0, 0, 3) := fun u => by rw [escd, if_neg hu]
      rw [e] at h
      cases hs : simple c with
      | none => rw [hs] at h; simp at h
      | some q =>
        rw [hs] at h
        simp only [Prod.mk.injEq, and_true] at h
        obtain ⟨rfl, rfl⟩ := h
        have hq := simple_lt hs
        refine ⟨by unfold Um.rn; omega, by simp, by rw [enc_1 hq]; exact Nat.le_refl _, fun j hj => ?_, fun j hj => ?_⟩
        · obtain ⟨j, rfl⟩ : ∃ i, j = i + 1 := ⟨j - 1, by omega⟩
          rw [List.take_succ_cons, e, hs]
        · obtain rfl : j = 0 := by omega
          rfl
theorem one_good {l : List UInt8} {r z : Nat} (h : one l = (r, z, 0)) : Good one l r z ∧ 1 ≤ z := by
  match l, h with
  | [], h => simp [one] at h
  | c :: t, h =>
    by_cases h1 : c < 32
    · rw [one, if_pos h1] at h
      simp at h
    by_cases hu : c = 92
    · have e : ∀ u, one (c :: u) = shift 1 (escd u) := fun u => by rw [one, if_neg h1, if_pos hu]
      rw [e] at h
      obtain ⟨y, hy, rfl⟩ := shift_eq h
      exact ⟨(escd_good hy).ahead rfl e, by omega⟩
    · have e : ∀ u, one (c :: u) = Um.nx (c :: u) := fun u => by rw [one, if_neg h1, if_neg hu]
      rw [e] at h
      have hf := Um.nx_facts h
      refine ⟨⟨hf.1, hf.2.2.2.1, by rw [hf.2.2.1]; exact Nat.le_refl _, fun j hj => ?_, fun j hj => ?_⟩, hf.2.2.2.2.1⟩
      · obtain ⟨j, rfl⟩ : ∃ i, j = i + 1 := ⟨j - 1, by omega⟩
        have := Um.nx_take h (m := j + 1) hj
        rw [List.take_succ_cons] at this ⊢
        rw [e, this]
      · match j with
        | 0 => rfl
        | j + 1 =>
          have := Um.nx_cut h (m := j + 1) (by omega) hj
          rw [List.take_succ_cons] at this ⊢
          rw [e, this]
end Qm
end Go.Proofs.YtpifbmcgadjhbaaGreatDoor
