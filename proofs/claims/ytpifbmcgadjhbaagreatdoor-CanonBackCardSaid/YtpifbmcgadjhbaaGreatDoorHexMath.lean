/-
  Plain arithmetic of hexadecimal digits: values of digits, digits of bytes and of numbers. No program, no walk.
-/
namespace Go.Proofs.YtpifbmcgadjhbaaGreatDoor.Hm

def isD (c : Int) : Bool := decide (48 ≤ c ∧ c ≤ 57) || decide (97 ≤ c ∧ c ≤ 102)
def dv (c : Int) : Int := if 48 ≤ c ∧ c ≤ 57 then c - 48 else if 97 ≤ c ∧ c ≤ 102 then c - 87 else -1
def hv (c : Int) : Int := if 48 ≤ c ∧ c ≤ 57 then c - 48 else if 97 ≤ c ∧ c ≤ 102 then c - 87 else 0
def dg (n : Nat) : Int := if n < 10 then 48 + n else 87 + n

theorem isD_iff (c : Int) : isD c = true ↔ (48 ≤ c ∧ c ≤ 57) ∨ (97 ≤ c ∧ c ≤ 102) := by simp [isD]
theorem dv_of (c : Int) (h : isD c = true) : dv c = hv c ∧ 0 ≤ hv c ∧ hv c ≤ 15 := by
  rw [isD_iff] at h; unfold dv hv; omega
theorem dv_no (c : Int) (h : isD c = false) : dv c = -1 ∧ hv c = 0 := by
  have h' : ¬ (isD c = true) := by simp [h]
  rw [isD_iff] at h'; unfold dv hv; omega
theorem hv_bd (c : Int) : 0 ≤ hv c ∧ hv c ≤ 15 := by unfold hv; omega
theorem dv_bd (c : Int) : -1 ≤ dv c ∧ dv c ≤ 15 := by unfold dv; omega
theorem dv_neg (c : Int) : (decide (dv c < 0)) = !isD c := by
  rw [Bool.eq_iff_iff]; simp [isD]; unfold dv; omega
theorem dg_bd (n : Nat) (h : n < 16) : 48 ≤ dg n ∧ dg n ≤ 102 := by unfold dg; omega
theorem isD_dg (n : Nat) (h : n < 16) : isD (dg n) = true ∧ hv (dg n) = n := by
  rw [isD_iff]; unfold dg hv; omega
theorem dg_of (c : Int) (h : isD c = true) : dg (hv c).toNat = c := by
  rw [isD_iff] at h; unfold dg hv; omega
theorem dg_hit (c : Int) (k : Nat) (h : k < 16) (e : c = dg k) : isD c = true ∧ hv c = k := by
  subst e; exact isD_dg k h
/-- no digit of the sixteen is c: c is none -/
theorem dg_none (c : Int) (h : ∀ j, j < 16 → c ≠ dg j) : isD c = false ∧ hv c = 0 := by
  have h1 : ¬ (isD c = true) := by
    intro hd
    have := h (hv c).toNat (by have := hv_bd c; omega)
    exact this (dg_of c hd).symm
  have h2 : isD c = false := by simpa using h1
  exact ⟨h2, (dv_no c h2).2⟩

/-! ## texts -/
def allD (l : List UInt8) : Bool := l.all fun c => isD c.toNat
theorem allD_snoc (l : List UInt8) (c : UInt8) : allD (l ++ [c]) = (allD l && isD c.toNat) := by simp [allD]
theorem allD_append (l r : List UInt8) : allD (l ++ r) = (allD l && allD r) := by simp [allD]
theorem take_snoc (s : ByteArray) (k : Nat) (h : k < s.size) : s.data.toList.take (k + 1) = s.data.toList.take k ++ [s[k]] := by
  rw [List.take_succ_eq_append_getElem (by simpa using h)]; rfl
theorem allD_no (s : ByteArray) (k : Nat) (h : k < s.size) (hn : isD (s[k].toNat : Int) = false) : allD s.data.toList = false := by
  rw [← List.take_append_drop (k + 1) s.data.toList, take_snoc s k h, allD_append, allD_snoc, hn]; simp
theorem take_all (s : ByteArray) (k : Nat) (h : s.size ≤ k) : s.data.toList.take k = s.data.toList := List.take_of_length_le (by simpa using h)

/-- the value of the digit at a place, and whether there is one -/
def digV (s : ByteArray) (i : Int) : Int := if h : 0 ≤ i ∧ i.toNat < s.size then hv (s[i.toNat].toNat : Int) else 0
def digB (s : ByteArray) (i : Int) : Bool := if h : 0 ≤ i ∧ i.toNat < s.size then isD (s[i.toNat].toNat : Int) else false
theorem dig_in (s : ByteArray) (k : Nat) (h : k < s.size) : digV s k = hv (s[k].toNat : Int) ∧ digB s k = isD (s[k].toNat : Int) := by
  unfold digV digB; simp [h]
theorem dig_out (s : ByteArray) (i : Int) (h : i < 0 ∨ (s.size : Int) ≤ i) : digV s i = 0 ∧ digB s i = false := by
  unfold digV digB
  rw [dif_neg (by omega), dif_neg (by omega)]; exact ⟨rfl, rfl⟩

/-- the number that digits say -/
def num (l : List UInt8) : Nat := l.foldl (fun n c => n * 16 + (hv c.toNat).toNat) 0
theorem num_snoc (l : List UInt8) (c : UInt8) : num (l ++ [c]) = num l * 16 + (hv c.toNat).toNat := by simp [num]
theorem num_from : ∀ (l : List UInt8) (n : Nat), l.foldl (fun n c => n * 16 + (hv c.toNat).toNat) n < (n + 1) * 16 ^ l.length
  | [], n => by simp
  | c :: l, n => by
    have h := num_from l (n * 16 + (hv c.toNat).toNat)
    have hb := hv_bd c.toNat
    have h2 : (n * 16 + (hv c.toNat).toNat + 1) * 16 ^ l.length ≤ ((n + 1) * 16) * 16 ^ l.length := Nat.mul_le_mul_right _ (by omega)
    rw [List.foldl_cons, List.length_cons, Nat.pow_succ, Nat.mul_comm (16 ^ l.length) 16, ← Nat.mul_assoc]
    omega
theorem num_lt (l : List UInt8) : num l < 16 ^ l.length := by simpa [num] using num_from l 0
theorem num_le (l : List UInt8) (h : l.length ≤ 15) : num l ≤ 1152921504606846975 := by
  have h1 := num_lt l
  have h2 : 16 ^ l.length ≤ 16 ^ 15 := Nat.pow_le_pow_right (by decide) h
  have h3 : (16 : Nat) ^ 15 = 1152921504606846976 := by decide
  omega
def numV (l : List UInt8) : Int := if allD l = true ∧ l ≠ [] ∧ l.length ≤ 16 then num l else 0
def numE (l : List UInt8) : Int := if allD l = false then 3 else if l = [] then 4 else if 16 < l.length then 5 else 0

theorem numVE_form (l : List UInt8) (h : allD l = false) : numV l = 0 ∧ numE l = 3 := by unfold numV numE; simp [h]
theorem numVE_short (l : List UInt8) (h : allD l = true) (hl : l.length = 0) : numV l = 0 ∧ numE l = 4 := by
  have : l = [] := List.length_eq_zero_iff.1 hl
  subst this; exact ⟨rfl, rfl⟩
theorem numVE_long (l : List UInt8) (h : allD l = true) (hl : 16 < l.length) : numV l = 0 ∧ numE l = 5 := by
  have : l ≠ [] := by intro e; subst e; simp at hl
  unfold numV numE
  rw [if_neg (by omega), if_neg (by simp [h]), if_neg this, if_pos hl]; exact ⟨rfl, rfl⟩
theorem numVE_ok (l : List UInt8) (h : allD l = true) (h0 : l.length ≠ 0) (hl : l.length ≤ 16) : numV l = num l ∧ numE l = 0 := by
  have : l ≠ [] := by intro e; subst e; simp at h0
  unfold numV numE
  rw [if_pos ⟨h, this, hl⟩, if_neg (by simp [h]), if_neg this, if_neg (by omega)]; exact ⟨rfl, rfl⟩

theorem allD_at (s : ByteArray) (k : Nat) (h : k < s.size) (ha : allD s.data.toList = true) : isD (s[k].toNat : Int) = true := by
  cases hd : isD (s[k].toNat : Int)
  · have := allD_no s k h hd; simp [this] at ha
  · rfl

/-! ## the digits of bytes -/
def dgb (n : Nat) : UInt8 := UInt8.ofNat (dg n).toNat
theorem dgb_toNat (n : Nat) (h : n < 16) : ((dgb n).toNat : Int) = dg n := by
  have := dg_bd n h
  unfold dgb
  rw [UInt8.toNat_ofNat']
  omega
def enc (l : List UInt8) : List UInt8 := l.flatMap fun c => [dgb (c.toNat / 16), dgb (c.toNat % 16)]
theorem enc_append (l r : List UInt8) : enc (l ++ r) = enc l ++ enc r := by simp [enc]
theorem enc_snoc (l : List UInt8) (c : UInt8) : enc (l ++ [c]) = enc l ++ [dgb (c.toNat / 16), dgb (c.toNat % 16)] := by simp [enc]
theorem enc_length (l : List UInt8) : (enc l).length = 2 * l.length := by
  induction l with
  | nil => rfl
  | cons c l ih => rw [show enc (c :: l) = [dgb (c.toNat / 16), dgb (c.toNat % 16)] ++ enc l from rfl, List.length_append, ih]; simp; omega

/-! ## the bytes of digits -/
def dec : List UInt8 → List UInt8
  | a :: b :: r => UInt8.ofNat (16 * hv a.toNat + hv b.toNat).toNat :: dec r
  | _ => []
theorem dec_snoc (a b : UInt8) : ∀ (n : Nat) (l : List UInt8), l.length = 2 * n → dec (l ++ [a, b]) = dec l ++ [UInt8.ofNat (16 * hv a.toNat + hv b.toNat).toNat]
  | 0, l, h => by
    have : l = [] := List.length_eq_zero_iff.1 (by omega)
    subst this; rfl
  | n + 1, l, h => by
    match l, h with
    | x :: y :: r, h => simp only [List.cons_append, dec]; rw [dec_snoc a b n r (by simp at h; omega)]
theorem dec_length : ∀ (n : Nat) (l : List UInt8), l.length = 2 * n → (dec l).length = n
  | 0, l, h => by
    have : l = [] := List.length_eq_zero_iff.1 (by omega)
    subst this; rfl
  | n + 1, l, h => by
    match l, h with
    | x :: y :: r, h => simp only [dec, List.length_cons]; rw [dec_length n r (by simp at h; omega)]
def decV (l : List UInt8) : List UInt8 := if allD l = true ∧ l.length % 2 = 0 then dec l else []
def decE (l : List UInt8) : Int := if allD l = false then 3 else if l.length % 2 = 1 then 4 else 0
theorem decVE_form (l : List UInt8) (h : allD l = false) : decV l = [] ∧ decE l = 3 := by unfold decV decE; simp [h]
theorem decVE_short (l : List UInt8) (h : allD l = true) (hl : l.length % 2 = 1) : decV l = [] ∧ decE l = 4 := by
  unfold decV decE
  rw [if_neg (by omega), if_neg (by simp [h]), if_pos hl]; exact ⟨rfl, rfl⟩
theorem decVE_ok (l : List UInt8) (h : allD l = true) (hl : l.length % 2 = 0) : decV l = dec l ∧ decE l = 0 := by
  unfold decV decE
  rw [if_pos ⟨h, hl⟩, if_neg (by simp [h]), if_neg (by omega)]; exact ⟨rfl, rfl⟩
theorem byte_in (a b : Int) (ha : 0 ≤ a) (ha' : a ≤ 15) (hb : 0 ≤ b) (hb' : b ≤ 15) : ((UInt8.ofNat (16 * a + b).toNat).toNat : Int) = 16 * a + b := by
  rw [UInt8.toNat_ofNat']; omega
theorem take_snoc2 (s : ByteArray) (k : Nat) (h : k + 1 < s.size) : s.data.toList.take (k + 2) = s.data.toList.take k ++ [s[k], s[k + 1]] := by
  rw [take_snoc s (k + 1) h, take_snoc s k (by omega)]; simp

/-! ## the digits of a number -/
def low : Nat → Nat → List UInt8
  | 0, _ => []
  | j + 1, n => dgb (n / 16 ^ j % 16) :: low j n
theorem low_length : ∀ j n, (low j n).length = j
  | 0, _ => rfl
  | j + 1, n => by simp [low, low_length j n]
/-- with so many steps to go: how many digits a number has, at least one -/
def ndF : Nat → Nat → Nat
  | 0, _ => 1
  | f + 1, n => if n < 16 then 1 else ndF f (n / 16) + 1
def nd (n : Nat) : Nat := ndF 15 n
theorem ndF_spec : ∀ f n, n < 16 ^ (f + 1) → 1 ≤ ndF f n ∧ ndF f n ≤ f + 1 ∧ n / 16 ^ ndF f n = 0 ∧ ∀ i, i < ndF f n → i = 0 ∨ 0 < n / 16 ^ i
  | 0, n, h => by
    refine ⟨Nat.le_refl _, Nat.le_refl _, ?_, fun i hi => ?_⟩
    · exact Nat.div_eq_of_lt (by simpa [ndF] using h)
    · exact .inl (by simp [ndF] at hi; omega)
  | f + 1, n, h => by
    unfold ndF
    by_cases hn : n < 16
    · rw [if_pos hn]
      exact ⟨Nat.le_refl _, by omega, Nat.div_eq_of_lt (by simpa using hn), fun i hi => .inl (by omega)⟩
    · rw [if_neg hn]
      have hd : n / 16 < 16 ^ (f + 1) := by
        rw [Nat.div_lt_iff_lt_mul (by omega)]; rw [Nat.pow_succ] at h; exact h
      obtain ⟨h1, h2, h3, h4⟩ := ndF_spec f (n / 16) hd
      refine ⟨by omega, by omega, ?_, fun i hi => ?_⟩
      · rw [Nat.pow_succ, Nat.mul_comm, ← Nat.div_div_eq_div_mul]; exact h3
      · match i with
        | 0 => exact .inl rfl
        | i + 1 =>
          right
          rw [Nat.pow_succ, Nat.mul_comm, ← Nat.div_div_eq_div_mul]
          rcases h4 i (by omega) with rfl | h
          · simp; omega
          · exact h
theorem nd_spec (n : Nat) (h : n < 18446744073709551616) : 1 ≤ nd n ∧ nd n ≤ 16 ∧ n / 16 ^ nd n = 0 ∧ ∀ i, i < nd n → i = 0 ∨ 0 < n / 16 ^ i :=
  ndF_spec 15 n (by simpa using h)
theorem div_zero_mono (n a b : Nat) (h : n / 16 ^ a = 0) (hab : a ≤ b) : n / 16 ^ b = 0 := by
  have h1 : n < 16 ^ a := by
    rcases Nat.div_eq_zero_iff.1 h with h | h
    · have : 0 < 16 ^ a := Nat.pow_pos (by decide)
      omega
    · exact h
  exact Nat.div_eq_of_lt (Nat.lt_of_lt_of_le h1 (Nat.pow_le_pow_right (by decide) hab))
/-- how many digits are wanted -/
def want (least : Int) : Nat := (min (max least 1) 16).toNat
theorem want_bd (least : Int) : 1 ≤ want least ∧ want least ≤ 16 ∧ ((want least : Nat) : Int) = min (max least 1) 16 := by unfold want; omega
def dlen (n : Nat) (least : Int) : Nat := max (nd n) (want least)
def digs (n : Nat) (least : Int) : List UInt8 := low (dlen n least) n
/-- where a count of digits stops -/
theorem stop_at (n l J : Nat) (hn : n < 18446744073709551616) (hl : 1 ≤ l) (h0 : n / 16 ^ J = 0) (h1 : l ≤ J) (h2 : ∀ i, i < J → 0 < n / 16 ^ i ∨ i < l) : J = max (nd n) l := by
  obtain ⟨a, b, c, d⟩ := nd_spec n hn
  have e1 : nd n ≤ J := by
    rcases Nat.lt_or_ge J (nd n) with h | h
    · rcases d J h with h' | h' <;> omega
    · exact h
  rcases Nat.lt_or_ge (max (nd n) l) J with h | h
  · rcases h2 _ h with h' | h'
    · have := div_zero_mono n (nd n) (max (nd n) l) c (by omega)
      omega
    · omega
  · omega
theorem nd_at (n J : Nat) (hn : n < 18446744073709551616) (h : 1 ≤ J) (h0 : n / 16 ^ J = 0) (h2 : ∀ i, i < J → i = 0 ∨ 0 < n / 16 ^ i) : J = nd n := by
  have := stop_at n 1 J hn (Nat.le_refl _) h0 h (fun i hi => by rcases h2 i hi with h | h; exact .inr (by omega); exact .inl h)
  have := (nd_spec n hn).1
  omega

/-! ## there and back -/
theorem isD_dgb (n : Nat) (h : n < 16) : isD ((dgb n).toNat : Int) = true ∧ hv ((dgb n).toNat : Int) = n := by
  rw [dgb_toNat n h]; exact isD_dg n h
theorem allD_enc (l : List UInt8) : allD (enc l) = true := by
  induction l with
  | nil => rfl
  | cons c l ih =>
    have hc := c.toNat_lt
    rw [show enc (c :: l) = [dgb (c.toNat / 16), dgb (c.toNat % 16)] ++ enc l from rfl, allD_append, ih]
    simp [allD, (isD_dgb (c.toNat / 16) (by omega)).1, (isD_dgb (c.toNat % 16) (by omega)).1]
theorem dec_enc (l : List UInt8) : dec (enc l) = l := by
  induction l with
  | nil => rfl
  | cons c l ih =>
    have hc := c.toNat_lt
    rw [show enc (c :: l) = dgb (c.toNat / 16) :: dgb (c.toNat % 16) :: enc l from rfl]
    simp only [dec]
    rw [ih, (isD_dgb (c.toNat / 16) (by omega)).2, (isD_dgb (c.toNat % 16) (by omega)).2]
    congr 1
    apply UInt8.toNat_inj.1
    rw [UInt8.toNat_ofNat']
    omega
theorem dec_back (l : List UInt8) : decV (enc l) = l ∧ decE (enc l) = 0 := by
  have := decVE_ok (enc l) (allD_enc l) (by rw [enc_length]; omega)
  rw [this.1, this.2, dec_enc]; exact ⟨rfl, rfl⟩
theorem dgb_hv (c : UInt8) (h : isD (c.toNat : Int) = true) (n : Nat) (hn : (n : Int) = hv (c.toNat : Int)) : dgb n = c := by
  have hb := hv_bd (c.toNat : Int)
  have h1 := dg_of _ h
  apply UInt8.toNat_inj.1
  have h2 := dgb_toNat n (by omega)
  rw [show n = (hv (c.toNat : Int)).toNat by omega] at h2 ⊢
  omega
theorem enc_dec : ∀ (n : Nat) (l : List UInt8), l.length = 2 * n → allD l = true → enc (dec l) = l
  | 0, l, h, _ => by
    have : l = [] := List.length_eq_zero_iff.1 (by omega)
    subst this; rfl
  | n + 1, l, h, ha => by
    match l, h, ha with
    | x :: y :: r, h, ha =>
      simp only [allD, List.all_cons, Bool.and_eq_true] at ha
      obtain ⟨hx, hy, hr⟩ := ha
      have bx := hv_bd (x.toNat : Int)
      have bY := hv_bd (y.toNat : Int)
      have e : ((UInt8.ofNat (16 * hv (x.toNat : Int) + hv (y.toNat : Int)).toNat).toNat : Int) = 16 * hv (x.toNat : Int) + hv (y.toNat : Int) := byte_in _ _ bx.1 bx.2 bY.1 bY.2
      simp only [dec]
      rw [show ∀ c : UInt8, ∀ m : List UInt8, enc (c :: m) = dgb (c.toNat / 16) :: dgb (c.toNat % 16) :: enc m from fun _ _ => rfl]
      rw [enc_dec n r (by simp at h; omega) hr, dgb_hv x hx _ (by omega), dgb_hv y hy _ (by omega)]
theorem enc_back (l : List UInt8) (h : decE l = 0) : enc (decV l) = l := by
  unfold decE at h
  split at h
  · cases h
  · split at h
    · cases h
    · rename_i h1 h2
      have h3 : allD l = true := by simpa using h1
      rw [(decVE_ok l h3 (by omega)).1]
      exact enc_dec (l.length / 2) l (by omega) h3
theorem dec_none (l : List UInt8) (h : decE l ≠ 0) : decV l = [] := by
  unfold decE at h
  unfold decV
  rw [if_neg]
  rintro ⟨h1, h2⟩
  apply h
  rw [if_neg (by simp [h1]), if_neg (by omega)]

/-! ## the order of texts -/
def lessB : List UInt8 → List UInt8 → Bool
  | _, [] => false
  | [], _ :: _ => true
  | a :: x, b :: y => a < b || (a == b && lessB x y)
theorem dgb_lt (a b : Nat) (ha : a < 16) (hb : b < 16) : (dgb a < dgb b) ↔ a < b := by
  rw [UInt8.lt_iff_toNat_lt]
  have h1 := dgb_toNat a ha
  have h2 := dgb_toNat b hb
  unfold dg at h1 h2
  omega
theorem dgb_eq (a b : Nat) (ha : a < 16) (hb : b < 16) : (dgb a == dgb b) = (a == b) := by
  rw [Bool.eq_iff_iff, beq_iff_eq, beq_iff_eq]
  constructor
  · intro h
    have h1 := isD_dgb a ha
    have h2 := isD_dgb b hb
    rw [h] at h1
    omega
  · rintro rfl; rfl
theorem less_two (a b : UInt8) (r : Bool) : (decide (dgb (a.toNat / 16) < dgb (b.toNat / 16)) || (dgb (a.toNat / 16) == dgb (b.toNat / 16) && (decide (dgb (a.toNat % 16) < dgb (b.toNat % 16)) || (dgb (a.toNat % 16) == dgb (b.toNat % 16) && r)))) = (decide (a < b) || (a == b && r)) := by
  have ha := a.toNat_lt
  have hb := b.toNat_lt
  have e1 : decide (dgb (a.toNat / 16) < dgb (b.toNat / 16)) = decide (a.toNat / 16 < b.toNat / 16) := by rw [Bool.eq_iff_iff]; simp only [decide_eq_true_eq]; exact dgb_lt _ _ (by omega) (by omega)
  have e2 : decide (dgb (a.toNat % 16) < dgb (b.toNat % 16)) = decide (a.toNat % 16 < b.toNat % 16) := by rw [Bool.eq_iff_iff]; simp only [decide_eq_true_eq]; exact dgb_lt _ _ (by omega) (by omega)
  rw [e1, e2, dgb_eq _ _ (by omega) (by omega), dgb_eq _ _ (by omega) (by omega)]
  have e3 : decide (a < b) = decide (a.toNat < b.toNat) := by rw [Bool.eq_iff_iff]; simp only [decide_eq_true_eq]; exact UInt8.lt_iff_toNat_lt
  have e4 : (a == b) = (a.toNat == b.toNat) := by rw [Bool.eq_iff_iff, beq_iff_eq, beq_iff_eq]; exact ⟨fun h => by rw [h], fun h => UInt8.toNat_inj.1 h⟩
  rw [e3, e4]
  generalize a.toNat = x at *
  generalize b.toNat = y at *
  rw [Bool.eq_iff_iff]
  cases r <;> simp <;> omega
theorem lessB_enc : ∀ (l r : List UInt8), l.length = r.length → lessB (enc l) (enc r) = lessB l r
  | [], [], _ => rfl
  | a :: l, b :: r, h => by
    rw [show ∀ c : UInt8, ∀ m : List UInt8, enc (c :: m) = dgb (c.toNat / 16) :: dgb (c.toNat % 16) :: enc m from fun _ _ => rfl, show ∀ c : UInt8, ∀ m : List UInt8, enc (c :: m) = dgb (c.toNat / 16) :: dgb (c.toNat % 16) :: enc m from fun _ _ => rfl]
    simp only [lessB]
    rw [lessB_enc l r (by simpa using h)]
    exact less_two a b _
theorem enc_inj (l r : List UInt8) : (enc l == enc r) = (l == r) := by
  rw [Bool.eq_iff_iff, beq_iff_eq, beq_iff_eq]
  exact ⟨fun h => by rw [← dec_enc l, h, dec_enc], fun h => by rw [h]⟩

/-! ## what the digits of a number are -/
theorem allD_low : ∀ j n, allD (low j n) = true
  | 0, _ => rfl
  | j + 1, n => by
    have h := (isD_dgb (n / 16 ^ j % 16) (by omega)).1
    have ih := allD_low j n
    simp only [allD] at ih ⊢
    simp only [low, List.all_cons, ih, Bool.and_true]
    exact h
theorem num_cons : ∀ (l : List UInt8) (m : Nat), l.foldl (fun n c => n * 16 + (hv c.toNat).toNat) m = m * 16 ^ l.length + num l
  | [], m => by simp [num]
  | c :: l, m => by
    have h1 := num_cons l (m * 16 + (hv c.toNat).toNat)
    have h2 := num_cons l (0 * 16 + (hv c.toNat).toNat)
    simp only [num, List.foldl_cons, List.length_cons] at *
    rw [h1, h2, Nat.pow_succ, Nat.add_mul, Nat.zero_mul, Nat.zero_add, Nat.mul_assoc, Nat.mul_comm 16, Nat.add_assoc]
theorem num_low : ∀ j n, num (low j n) = n % 16 ^ j
  | 0, n => by simp [low, num, Nat.mod_one]
  | j + 1, n => by
    have h := (isD_dgb (n / 16 ^ j % 16) (by omega)).2
    have hc := num_cons (low j n) (0 * 16 + (hv ((dgb (n / 16 ^ j % 16)).toNat : Int)).toNat)
    rw [show num (low (j + 1) n) = (low j n).foldl (fun n c => n * 16 + (hv c.toNat).toNat) (0 * 16 + (hv ((dgb (n / 16 ^ j % 16)).toNat : Int)).toNat) from rfl, hc, num_low j n, low_length, h]
    simp only [Nat.zero_mul, Nat.zero_add, Int.toNat_natCast]
    rw [Nat.pow_succ, Nat.mod_mul, Nat.mul_comm, Nat.add_comm]
theorem num_of_low (j n : Nat) (h : n / 16 ^ j = 0) : num (low j n) = n := by
  rw [num_low]
  rcases Nat.div_eq_zero_iff.1 h with h | h
  · have : 0 < 16 ^ j := Nat.pow_pos (by decide)
    omega
  · exact Nat.mod_eq_of_lt h
theorem digs_bd (n : Nat) (least : Int) (hn : n < 18446744073709551616) : 1 ≤ dlen n least ∧ dlen n least ≤ 16 ∧ n / 16 ^ dlen n least = 0 := by
  obtain ⟨a, b, c, _⟩ := nd_spec n hn
  obtain ⟨d, e, _⟩ := want_bd least
  unfold dlen
  exact ⟨by omega, by omega, div_zero_mono n (nd n) _ c (by omega)⟩
theorem digs_num (n : Nat) (least : Int) (hn : n < 18446744073709551616) : numV (digs n least) = n ∧ numE (digs n least) = 0 := by
  obtain ⟨a, b, c⟩ := digs_bd n least hn
  have h := numVE_ok (digs n least) (allD_low _ _) (by unfold digs; rw [low_length]; omega) (by unfold digs; rw [low_length]; omega)
  rw [h.1, h.2]
  unfold digs
  rw [num_of_low _ _ c]; exact ⟨rfl, rfl⟩
theorem digs_length (n : Nat) (least : Int) : (digs n least).length = dlen n least := low_length _ _
/-- more digits wanted are zeros ahead -/
theorem low_more (n j : Nat) (h : n / 16 ^ j = 0) : ∀ k, low (k + j) n = List.replicate k 48 ++ low j n
  | 0 => by simp
  | k + 1 => by
    have hz : n / 16 ^ (k + j) = 0 := div_zero_mono n j (k + j) h (by omega)
    rw [show k + 1 + j = (k + j) + 1 by omega, low, low_more n j h k, hz, List.replicate_succ]; rfl
theorem dlen_one (n : Nat) (hn : n < 18446744073709551616) : dlen n 1 = nd n := by
  have := (nd_spec n hn).1
  have h : want 1 = 1 := by decide
  unfold dlen; omega
theorem digs_pad (n : Nat) (least : Int) (hn : n < 18446744073709551616) : digs n least = List.replicate (dlen n least - dlen n 1) 48 ++ digs n 1 := by
  have h1 := dlen_one n hn
  have h2 : nd n ≤ dlen n least := by unfold dlen; omega
  have h3 := (nd_spec n hn).2.2.1
  unfold digs
  have h4 := low_more n (nd n) h3 (dlen n least - dlen n 1)
  rw [show dlen n least - dlen n 1 + nd n = dlen n least by omega] at h4
  rw [h4, h1]
/-- the first digit is no zero, but of zero -/
theorem digs_head (n : Nat) (hn : n < 18446744073709551616) (c : UInt8) (l : List UInt8) (h : digs n 1 = c :: l) : c = 48 → l = [] ∧ n = 0 := by
  obtain ⟨a, b, c', d⟩ := nd_spec n hn
  unfold digs at h
  rw [dlen_one n hn] at h
  obtain ⟨j, hj⟩ : ∃ j, nd n = j + 1 := ⟨nd n - 1, by omega⟩
  rw [hj, low] at h
  injection h with h1 h2
  intro hc
  have hz : n / 16 ^ j % 16 = 0 := by
    have := dgb_eq (n / 16 ^ j % 16) 0 (by omega) (by omega)
    rw [h1, hc] at this
    have h48 : ((48 : UInt8) == dgb 0) = true := by decide
    rw [h48] at this
    exact beq_iff_eq.1 this.symm
  have hlt : n / 16 ^ j < 16 := by
    rw [hj, Nat.pow_succ, ← Nat.div_div_eq_div_mul] at c'
    omega
  rcases d j (by omega) with rfl | hp
  · exact ⟨by rw [← h2]; rfl, by simpa using (show n / 16 ^ 0 = 0 by omega)⟩
  · omega

end Go.Proofs.YtpifbmcgadjhbaaGreatDoor.Hm
