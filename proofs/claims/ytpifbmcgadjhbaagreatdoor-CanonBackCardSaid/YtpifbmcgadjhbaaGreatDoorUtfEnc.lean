/-
  UTF-8 as lists of bytes, on: a rune's bytes (enc); bytes ahead, behind, cut (nx); what a text counts (cnt).
-/
import Derived.Test.YtpifbmcgadjhbaaGreatDoorUtfMath
namespace Go.Proofs.YtpifbmcgadjhbaaGreatDoor
open Go.RowKit
namespace Um
def rn (r : Nat) : Prop := r < 55296 ∨ (57344 ≤ r ∧ r ≤ 1114111)
def enc (r : Nat) : List UInt8 :=
  if r < 128 then [UInt8.ofNat r]
  else if r < 2048 then [UInt8.ofNat (192 + r / 64), UInt8.ofNat (128 + r % 64)]
  else if r < 65536 then [UInt8.ofNat (224 + r / 4096), UInt8.ofNat (128 + r / 64 % 64), UInt8.ofNat (128 + r % 64)]
  else [UInt8.ofNat (240 + r / 262144), UInt8.ofNat (128 + r / 4096 % 64), UInt8.ofNat (128 + r / 64 % 64), UInt8.ofNat (128 + r % 64)]
theorem valid_rn {r : Nat} (h : rn r) : Utf8.valid (r : Int) = true := by
  unfold rn at h
  unfold Utf8.valid
  simp only [Bool.or_eq_true, Bool.and_eq_true, decide_eq_true_eq]
  omega
theorem encode_S {r : Nat} (h : rn r) : Utf8.encode (r : Int) = S (enc r) := by
  unfold Utf8.encode enc S
  simp only [valid_rn h, if_true, Int.toNat_natCast]
  repeat' split
  all_goals rfl
theorem ofNat_toNat' (n : Nat) (h : n < 256) : (UInt8.ofNat n).toNat = n := by simp [UInt8.toNat_ofNat']; omega
theorem whole_enc {r : Nat} (h : rn r) (l : List UInt8) : Whole (enc r ++ l).length (bt (enc r ++ l) 0) (bt (enc r ++ l) 1) (bt (enc r ++ l) 2) (bt (enc r ++ l) 3) r (enc r).length := by
  unfold rn at h
  by_cases h1 : r < 128
  · have e : enc r = [UInt8.ofNat r] := by unfold enc; rw [if_pos h1]
    rw [e]
    refine Or.inl ⟨rfl, by simp, ?_, ?_⟩ <;> simp only [bt, List.cons_append, List.getD_cons_zero] <;> rw [ofNat_toNat' _ (by omega)] <;> omega
  by_cases h2 : r < 2048
  · have e : enc r = [UInt8.ofNat (192 + r / 64), UInt8.ofNat (128 + r % 64)] := by unfold enc; rw [if_neg h1, if_pos h2]
    have e0 := ofNat_toNat' (192 + r / 64) (by omega)
    have e1 := ofNat_toNat' (128 + r % 64) (by omega)
    rw [e]
    refine Or.inr (Or.inl ⟨rfl, by simp, ?_⟩)
    simp only [bt, List.cons_append, List.getD_cons_zero, List.getD_cons_succ, e0, e1]
    omega
  by_cases h3 : r < 65536
  · have e : enc r = [UInt8.ofNat (224 + r / 4096), UInt8.ofNat (128 + r / 64 % 64), UInt8.ofNat (128 + r % 64)] := by unfold enc; rw [if_neg h1, if_neg h2, if_pos h3]
    have e0 := ofNat_toNat' (224 + r / 4096) (by omega)
    have e1 := ofNat_toNat' (128 + r / 64 % 64) (by omega)
    have e2 := ofNat_toNat' (128 + r % 64) (by omega)
    rw [e]
    refine Or.inr (Or.inr (Or.inl ⟨rfl, by simp, ?_⟩))
    simp only [bt, List.cons_append, List.getD_cons_zero, List.getD_cons_succ, e0, e1, e2]
    omega
  · have e : enc r = [UInt8.ofNat (240 + r / 262144), UInt8.ofNat (128 + r / 4096 % 64), UInt8.ofNat (128 + r / 64 % 64), UInt8.ofNat (128 + r % 64)] := by unfold enc; rw [if_neg h1, if_neg h2, if_neg h3]
    have e0 := ofNat_toNat' (240 + r / 262144) (by omega)
    have e1 := ofNat_toNat' (128 + r / 4096 % 64) (by omega)
    have e2 := ofNat_toNat' (128 + r / 64 % 64) (by omega)
    have e3 := ofNat_toNat' (128 + r % 64) (by omega)
    rw [e]
    refine Or.inr (Or.inr (Or.inr ⟨rfl, by simp, ?_⟩))
    simp only [bt, List.cons_append, List.getD_cons_zero, List.getD_cons_succ, e0, e1, e2, e3]
    omega
theorem nx_enc {r : Nat} (h : rn r) (l : List UInt8) : nx (enc r ++ l) = (r, (enc r).length, 0) := nxN_whole (whole_enc h l)
theorem enc_length (r : Nat) : 1 ≤ (enc r).length ∧ (enc r).length ≤ 4 := by
  unfold enc
  repeat' split
  all_goals simp
theorem whole_of {l : List UInt8} {r s : Nat} (h : nx l = (r, s, 0)) : Whole l.length (bt l 0) (bt l 1) (bt l 2) (bt l 3) r s := by
  rcases nx_cases l with ⟨_, h1⟩ | h1 | h1
  · rw [h] at h1; exact h1
  · rw [h] at h1; simp at h1
  · rw [h] at h1; simp at h1
theorem of_toNat {n : Nat} {x : UInt8} (h : n = x.toNat) : UInt8.ofNat n = x := by rw [h, UInt8.ofNat_toNat]
theorem enc_whole {l : List UInt8} {r s : Nat} (h : Whole l.length (bt l 0) (bt l 1) (bt l 2) (bt l 3) r s) : enc r = l.take s := by
  have b0 := bt_lt l 0
  have b1 := bt_lt l 1
  have b2 := bt_lt l 2
  have b3 := bt_lt l 3
  unfold Whole at h
  match l, h, b0, b1, b2, b3 with
  | [], h, _, _, _, _ =>
    rcases h with ⟨_, h, _⟩ | ⟨_, h, _⟩ | ⟨_, h, _⟩ | ⟨_, h, _⟩ <;> exact absurd h (by simp)
  | [a], h, b0, b1, b2, b3 =>
    simp only [bt, List.getD_cons_zero, List.getD_cons_succ, List.length_cons, List.length_nil] at *
    obtain ⟨rfl, _, _, rfl⟩ : s = 1 ∧ 1 ≤ 1 ∧ a.toNat < 128 ∧ r = a.toNat := by omega
    unfold enc
    rw [if_pos (by omega)]
    simp
  | [a, b], h, b0, b1, b2, b3 =>
    simp only [bt, List.getD_cons_zero, List.getD_cons_succ, List.length_cons, List.length_nil] at *
    rcases h with ⟨rfl, _, h1, rfl⟩ | ⟨rfl, h1⟩ | ⟨_, h1, _⟩ | ⟨_, h1, _⟩
    · unfold enc
      rw [if_pos h1]
      simp
    · unfold enc
      rw [if_neg (by omega), if_pos (by omega), of_toNat (x := a) (by omega), of_toNat (x := b) (by omega)]
      rfl
    · omega
    · omega
  | [a, b, c], h, b0, b1, b2, b3 =>
    simp only [bt, List.getD_cons_zero, List.getD_cons_succ, List.length_cons, List.length_nil] at *
    rcases h with ⟨rfl, _, h1, rfl⟩ | ⟨rfl, h1⟩ | ⟨rfl, h1⟩ | ⟨_, h1, _⟩
    · unfold enc
      rw [if_pos h1]
      simp
    · unfold enc
      rw [if_neg (by omega), if_pos (by omega), of_toNat (x := a) (by omega), of_toNat (x := b) (by omega)]
      rfl
    · unfold enc
      rw [if_neg (by omega), if_neg (by omega), if_pos (by omega), of_toNat (x := a) (by omega), of_toNat (x := b) (by omega), of_toNat (x := c) (by omega)]
      rfl
    · omega
  | a :: b :: c :: d :: t, h, b0, b1, b2, b3 =>
    simp only [bt, List.getD_cons_zero, List.getD_cons_succ, List.length_cons] at *
    rcases h with ⟨rfl, _, h1, rfl⟩ | ⟨rfl, h1⟩ | ⟨rfl, h1⟩ | ⟨rfl, h1⟩
    · unfold enc
      rw [if_pos h1]
      simp
    · unfold enc
      rw [if_neg (by omega), if_pos (by omega), of_toNat (x := a) (by omega), of_toNat (x := b) (by omega)]
      rfl
    · unfold enc
      rw [if_neg (by omega), if_neg (by omega), if_pos (by omega), of_toNat (x := a) (by omega), of_toNat (x := b) (by omega), of_toNat (x := c) (by omega)]
      rfl
    · unfold enc
      rw [if_neg (by omega), if_neg (by omega), if_neg (by omega), of_toNat (x := a) (by omega), of_toNat (x := b) (by omega), of_toNat (x := c) (by omega), of_toNat (x := d) (by omega)]
      rfl
/-- all that a whole rune tells -/
theorem nx_facts {l : List UInt8} {r s : Nat} (h : nx l = (r, s, 0)) : rn r ∧ enc r = l.take s ∧ (enc r).length = s ∧ s ≤ l.length ∧ 1 ≤ s ∧ s ≤ 4 := by
  have hw := whole_of h
  have he := enc_whole hw
  have b0 := bt_lt l 0
  have hs : s ≤ l.length ∧ 1 ≤ s ∧ s ≤ 4 ∧ rn r := by unfold Whole at hw; unfold rn; omega
  refine ⟨hs.2.2.2, he, ?_, hs.1, hs.2.1, hs.2.2.1⟩
  rw [he, List.length_take]
  omega
theorem bt_app (l t : List UInt8) (k : Nat) (h : k < l.length) : bt (l ++ t) k = bt l k := by
  unfold bt
  rw [List.getD_eq_getElem?_getD, List.getElem?_append_left h, ← List.getD_eq_getElem?_getD]
theorem bt_take (l : List UInt8) (m k : Nat) (h : k < m) : bt (l.take m) k = bt l k := by
  unfold bt
  rw [List.getD_eq_getElem?_getD, List.getElem?_take, if_pos h, ← List.getD_eq_getElem?_getD]
theorem whole_same {n n' a b c d a' b' c' d' r s : Nat} (h : Whole n a b c d r s) (hn : s ≤ n') (h0 : 0 < s → a' = a) (h1 : 1 < s → b' = b) (h2 : 2 < s → c' = c) (h3 : 3 < s → d' = d) : Whole n' a' b' c' d' r s := by
  rcases h with ⟨rfl, h⟩ | ⟨rfl, h⟩ | ⟨rfl, h⟩ | ⟨rfl, h⟩
  · rw [h0 (by decide)]
    exact Or.inl ⟨rfl, hn, h.2⟩
  · rw [h0 (by decide), h1 (by decide)]
    exact Or.inr (Or.inl ⟨rfl, hn, h.2⟩)
  · rw [h0 (by decide), h1 (by decide), h2 (by decide)]
    exact Or.inr (Or.inr (Or.inl ⟨rfl, hn, h.2⟩))
  · rw [h0 (by decide), h1 (by decide), h2 (by decide), h3 (by decide)]
    exact Or.inr (Or.inr (Or.inr ⟨rfl, hn, h.2⟩))
theorem nx_app {l : List UInt8} {r s : Nat} (h : nx l = (r, s, 0)) (t : List UInt8) : nx (l ++ t) = (r, s, 0) := by
  have hf := nx_facts h
  have e := fun k => bt_app l t k
  exact nxN_whole (whole_same (whole_of h) (by rw [List.length_append]; omega) (fun _ => e 0 (by omega)) (fun _ => e 1 (by omega)) (fun _ => e 2 (by omega)) (fun _ => e 3 (by omega)))
theorem nx_take {l : List UInt8} {r s m : Nat} (h : nx l = (r, s, 0)) (hm : s ≤ m) : nx (l.take m) = (r, s, 0) := by
  have hf := nx_facts h
  have e := fun k => bt_take l m k
  exact nxN_whole (whole_same (whole_of h) (by rw [List.length_take]; omega) (fun _ => e 0 (by omega)) (fun _ => e 1 (by omega)) (fun _ => e 2 (by omega)) (fun _ => e 3 (by omega)))
theorem lo_or (a : Nat) : (a ≠ 224 ∧ a ≠ 240 ∧ lo a = 128) ∨ (a = 224 ∧ lo a = 160) ∨ (a = 240 ∧ lo a = 144) := by
  unfold lo
  split
  · omega
  · split <;> omega
theorem hi_or (a : Nat) : (a ≠ 237 ∧ a ≠ 244 ∧ hi a = 191) ∨ (a = 237 ∧ hi a = 159) ∨ (a = 244 ∧ hi a = 143) := by
  unfold hi
  split
  · omega
  · split <;> omega
/-- too short: the bytes so far begin a rune (or there are none) -/
def Front (n a b c : Nat) : Prop :=
  n = 0 ∨ (194 ≤ a ∧ a ≤ 244 ∧ (n = 1 ∨ (n = 2 ∧ 224 ≤ a ∧ lo a ≤ b ∧ b ≤ hi a) ∨ (n = 3 ∧ 240 ≤ a ∧ lo a ≤ b ∧ b ≤ hi a ∧ 128 ≤ c ∧ c ≤ 191)))
set_option maxRecDepth 100000 in
theorem nxN_front {n a b c d : Nat} (h : Front n a b c) : nxN n a b c d = (0, 0, 4) := by
  unfold Front at h
  unfold nxN
  by_cases h0 : n = 0
  · rw [if_pos h0]
  rcases h with h | ⟨h1, h2, h | h | h⟩
  · exact absurd h h0
  · rw [if_neg h0, if_neg (by omega), if_neg (by omega), if_pos h]
  · rw [if_neg h0, if_neg (by omega), if_neg (by omega), if_neg (by omega), if_neg (by omega), if_neg (by omega), if_pos (by omega)]
  · rw [if_neg h0, if_neg (by omega), if_neg (by omega), if_neg (by omega), if_neg (by omega), if_neg (by omega), if_neg (by omega), if_neg (by omega), if_neg (by omega), if_pos (by omega)]
theorem front_of {n a b c d : Nat} (h : nxN n a b c d = (0, 0, 4)) : Front n a b c := by
  unfold Front
  unfold nxN at h
  by_cases h0 : n = 0
  · exact Or.inl h0
  right
  rw [if_neg h0] at h
  repeat' split at h
  all_goals first
    | (simp at h; done)
    | exact ⟨by omega, by omega, Or.inl (by omega)⟩
    | exact ⟨by omega, by omega, Or.inr (Or.inl ⟨by omega, by omega, by omega, by omega⟩)⟩
    | exact ⟨by omega, by omega, Or.inr (Or.inr ⟨by omega, by omega, by omega, by omega, by omega, by omega⟩)⟩
theorem front_same {n a b c a' b' c' : Nat} (h : Front n a b c) (h0 : 0 < n → a' = a) (h1 : 1 < n → b' = b) (h2 : 2 < n → c' = c) : Front n a' b' c' := by
  rcases h with h | ⟨x, y, h | h | h⟩
  · exact Or.inl h
  · rw [h0 (by omega)]
    exact Or.inr ⟨x, y, Or.inl h⟩
  · rw [h0 (by omega), h1 (by omega)]
    exact Or.inr ⟨x, y, Or.inr (Or.inl h)⟩
  · rw [h0 (by omega), h1 (by omega), h2 (by omega)]
    exact Or.inr ⟨x, y, Or.inr (Or.inr h)⟩
theorem whole_cut {n a b c d r s m : Nat} (h : Whole n a b c d r s) (h1 : 1 ≤ m) (hm : m < s) : Front m a b c := by
  have hl := lo_or a
  have hh := hi_or a
  rcases h with ⟨rfl, h⟩ | ⟨rfl, h⟩ | ⟨rfl, h⟩ | ⟨rfl, h⟩
  · omega
  · exact Or.inr ⟨by omega, by omega, Or.inl (by omega)⟩
  · refine Or.inr ⟨by omega, by omega, ?_⟩
    rcases (show m = 1 ∨ m = 2 by omega) with rfl | rfl
    · exact Or.inl rfl
    · exact Or.inr (Or.inl ⟨rfl, by omega, by omega, by omega⟩)
  · refine Or.inr ⟨by omega, by omega, ?_⟩
    rcases (show m = 1 ∨ m = 2 ∨ m = 3 by omega) with rfl | rfl | rfl
    · exact Or.inl rfl
    · exact Or.inr (Or.inl ⟨rfl, by omega, by omega, by omega⟩)
    · exact Or.inr (Or.inr ⟨rfl, by omega, by omega, by omega, by omega, by omega⟩)
theorem nx_cut {l : List UInt8} {r s m : Nat} (h : nx l = (r, s, 0)) (h1 : 1 ≤ m) (hm : m < s) : nx (l.take m) = (0, 0, 4) := by
  have hf := nx_facts h
  have e := fun k => bt_take l m k
  apply nxN_front
  have hn : (l.take m).length = m := by rw [List.length_take]; omega
  rw [hn]
  exact front_same (whole_cut (whole_of h) h1 hm) (fun _ => e 0 (by omega)) (fun _ => e 1 (by omega)) (fun _ => e 2 (by omega))
theorem nx12 {l : List UInt8} (h : nx l = (0, 0, 12)) (t : List UInt8) : nx (l ++ t) = (0, 0, 12) := by
  rcases nx_cases (l ++ t) with ⟨h1, h2⟩ | h1 | h1
  · exfalso
    have h3 : nx (l ++ t) = ((nx (l ++ t)).1, (nx (l ++ t)).2.1, 0) := by rw [← h1]
    by_cases hm : (nx (l ++ t)).2.1 ≤ l.length
    · have := nx_take h3 hm
      rw [List.take_left'  rfl] at this
      rw [h] at this
      simp at this
    · by_cases hz : l.length = 0
      · have : l = [] := List.length_eq_zero_iff.1 hz
        subst this
        revert h; decide
      · have := nx_cut h3 (m := l.length) (by omega) (by omega)
        rw [List.take_left' rfl, h] at this
        simp at this
  · exfalso
    have hf := front_of h1
    have e := fun k => bt_app l t k
    rw [List.length_append] at hf
    have : nx l = (0, 0, 4) := by
      apply nxN_front
      by_cases h0 : l.length = 0
      · exact Or.inl h0
      have q0 := e 0 (by omega)
      rcases hf with hf | ⟨x, y, hf⟩
      · omega
      rw [q0] at x y hf
      by_cases h1 : l.length = 1
      · exact Or.inr ⟨x, y, Or.inl h1⟩
      rw [e 1 (by omega)] at hf
      by_cases h2 : l.length = 2
      · exact Or.inr ⟨x, y, Or.inr (Or.inl ⟨h2, by omega, by omega, by omega⟩)⟩
      rw [e 2 (by omega)] at hf
      exact Or.inr ⟨x, y, Or.inr (Or.inr ⟨by omega, by omega, by omega, by omega, by omega, by omega⟩)⟩
    rw [h] at this
    simp at this
  · exact h1
set_option maxRecDepth 100000 in
theorem nxN_ge {n m a b c d : Nat} (h1 : 4 ≤ n) (h2 : 4 ≤ m) : nxN n a b c d = nxN m a b c d := by
  unfold nxN
  rw [if_neg (show ¬ n = 0 by omega), if_neg (show ¬ n = 1 by omega), if_neg (show ¬ n = 2 by omega), if_neg (show ¬ n = 3 by omega), if_neg (show ¬ m = 0 by omega), if_neg (show ¬ m = 1 by omega), if_neg (show ¬ m = 2 by omega), if_neg (show ¬ m = 3 by omega)]
/-- four bytes tell -/
theorem nx_take4 (l : List UInt8) (m : Nat) (h : m = min l.length 4) : nx (l.take m) = nx l := by
  by_cases hl : l.length ≤ 4
  · rw [List.take_of_length_le (by omega)]
  · have hm : m = 4 := by omega
    subst hm
    unfold nx
    rw [bt_take _ _ _ (by omega), bt_take _ _ _ (by omega), bt_take _ _ _ (by omega), bt_take _ _ _ (by omega)]
    exact nxN_ge (by rw [List.length_take]; omega) (by omega)
/-- two continuations suffice -/
theorem begins_eq {l : List UInt8} (h0 : 1 ≤ l.length) (h4 : l.length ≤ 4) (hn : (nx l).2.2 ≠ 0) :
    (decide ((nx (l ++ [128, 128, 128])).2.2 = 0) || decide ((nx (l ++ [191, 191, 191])).2.2 = 0)) = decide (nx l = (0, 0, 4)) := by
  rcases nx_cases l with ⟨h, _⟩ | h | h
  · exact absurd h hn
  · rw [h]
    simp only [decide_true, Bool.or_eq_true, decide_eq_true_eq]
    have hf := front_of h
    have hl := lo_or (bt l 0)
    have hh := hi_or (bt l 0)
    unfold Front at hf
    match l, h0, h4 with
    | [a], _, _ =>
      simp only [bt, List.getD_cons_zero, List.getD_cons_succ, List.length_cons, List.length_nil, List.getD_nil] at hf hl hh
      by_cases hx : a.toNat = 224 ∨ a.toNat = 240
      · right
        obtain ⟨r, s, hw⟩ : ∃ r s, Whole ([a] ++ [191, 191, 191]).length (bt ([a] ++ [191, 191, 191]) 0) (bt ([a] ++ [191, 191, 191]) 1) (bt ([a] ++ [191, 191, 191]) 2) (bt ([a] ++ [191, 191, 191]) 3) r s := by
          simp only [bt, List.cons_append, List.nil_append, List.getD_cons_zero, List.getD_cons_succ, List.length_cons, List.length_nil]
          rw [show (191 : UInt8).toNat = 191 from rfl]
          by_cases hy0 : a.toNat < 240
          · exact ⟨_, _, Or.inr (Or.inr (Or.inl ⟨rfl, by omega, by omega, by omega, by omega, by omega, by omega, by omega, by omega, by omega, rfl⟩))⟩
          exact ⟨_, _, Or.inr (Or.inr (Or.inr ⟨rfl, by omega, by omega, by omega, by omega, by omega, by omega, by omega, by omega, by omega, by omega, by omega, rfl⟩))⟩
        rw [show nx ([a] ++ [191, 191, 191]) = (r, s, 0) from nxN_whole hw]
      · left
        obtain ⟨r, s, hw⟩ : ∃ r s, Whole ([a] ++ [128, 128, 128]).length (bt ([a] ++ [128, 128, 128]) 0) (bt ([a] ++ [128, 128, 128]) 1) (bt ([a] ++ [128, 128, 128]) 2) (bt ([a] ++ [128, 128, 128]) 3) r s := by
          simp only [bt, List.cons_append, List.nil_append, List.getD_cons_zero, List.getD_cons_succ, List.length_cons, List.length_nil]
          rw [show (128 : UInt8).toNat = 128 from rfl]
          by_cases hy0 : a.toNat < 224
          · exact ⟨_, _, Or.inr (Or.inl ⟨rfl, by omega, by omega, by omega, by omega, by omega, rfl⟩)⟩
          by_cases hy1 : a.toNat < 240
          · exact ⟨_, _, Or.inr (Or.inr (Or.inl ⟨rfl, by omega, by omega, by omega, by omega, by omega, by omega, by omega, by omega, by omega, rfl⟩))⟩
          exact ⟨_, _, Or.inr (Or.inr (Or.inr ⟨rfl, by omega, by omega, by omega, by omega, by omega, by omega, by omega, by omega, by omega, by omega, by omega, rfl⟩))⟩
        rw [show nx ([a] ++ [128, 128, 128]) = (r, s, 0) from nxN_whole hw]
    | [a, b], _, _ =>
      simp only [bt, List.getD_cons_zero, List.getD_cons_succ, List.length_cons, List.length_nil, List.getD_nil] at hf hl hh
      left
      obtain ⟨r, s, hw⟩ : ∃ r s, Whole ([a, b] ++ [128, 128, 128]).length (bt ([a, b] ++ [128, 128, 128]) 0) (bt ([a, b] ++ [128, 128, 128]) 1) (bt ([a, b] ++ [128, 128, 128]) 2) (bt ([a, b] ++ [128, 128, 128]) 3) r s := by
        simp only [bt, List.cons_append, List.nil_append, List.getD_cons_zero, List.getD_cons_succ, List.length_cons, List.length_nil]
        rw [show (128 : UInt8).toNat = 128 from rfl]
        by_cases hy0 : a.toNat < 240
        · exact ⟨_, _, Or.inr (Or.inr (Or.inl ⟨rfl, by omega, by omega, by omega, by omega, by omega, by omega, by omega, by omega, by omega, rfl⟩))⟩
        exact ⟨_, _, Or.inr (Or.inr (Or.inr ⟨rfl, by omega, by omega, by omega, by omega, by omega, by omega, by omega, by omega, by omega, by omega, by omega, rfl⟩))⟩
      rw [show nx ([a, b] ++ [128, 128, 128]) = (r, s, 0) from nxN_whole hw]
    | [a, b, c], _, _ =>
      simp only [bt, List.getD_cons_zero, List.getD_cons_succ, List.length_cons, List.length_nil] at hf hl hh
      left
      obtain ⟨r, s, hw⟩ : ∃ r s, Whole ([a, b, c] ++ [128, 128, 128]).length (bt ([a, b, c] ++ [128, 128, 128]) 0) (bt ([a, b, c] ++ [128, 128, 128]) 1) (bt ([a, b, c] ++ [128, 128, 128]) 2) (bt ([a, b, c] ++ [128, 128, 128]) 3) r s := by
        simp only [bt, List.cons_append, List.nil_append, List.getD_cons_zero, List.getD_cons_succ, List.length_cons, List.length_nil]
        rw [show (128 : UInt8).toNat = 128 from rfl]
        exact ⟨_, _, Or.inr (Or.inr (Or.inr ⟨rfl, by omega, by omega, by omega, by omega, by omega, by omega, by omega, by omega, by omega, by omega, by omega, rfl⟩))⟩
      rw [show nx ([a, b, c] ++ [128, 128, 128]) = (r, s, 0) from nxN_whole hw]
    | [a, b, c, d], _, _ => simp only [List.length_cons, List.length_nil] at hf; omega
    | a :: b :: c :: d :: e :: t, _, h4 => simp only [List.length_cons] at h4; omega
  · rw [h, nx12 h, nx12 h]
    decide
end Um
end Go.Proofs.YtpifbmcgadjhbaaGreatDoor
