/-
  UTF-8 as lists of bytes, no program in it: what stands at the front of bytes (nx: the rune, its size, the error), how it goes with the model's decoding and encoding, and what a text counts (cnt).
-/
import Derived.Test.YtpifbmcgadjhbaaGreatDoorBase
import Derived.Lib.DecodeN
import Derived.Lib.RuneCountTail
namespace Go.Proofs.YtpifbmcgadjhbaaGreatDoor
open Go.RowKit
namespace Um
def bt (l : List UInt8) (k : Nat) : Nat := (l.getD k 0).toNat
theorem bt_lt (l : List UInt8) (k : Nat) : bt l k < 256 := (l.getD k 0).toNat_lt
def lo (a : Nat) : Nat := if a = 224 then 160 else if a = 240 then 144 else 128
def hi (a : Nat) : Nat := if a = 237 then 159 else if a = 244 then 143 else 191
/-- the rune with which n bytes a b c d .. begin, its size, the error -/
def nxN (n a b c d : Nat) : Nat × Nat × Nat :=
  if n = 0 then (0, 0, 4)
  else if a < 128 then (a, 1, 0)
  else if a < 194 ∨ 244 < a then (0, 0, 12)
  else if n = 1 then (0, 0, 4)
  else if b < lo a ∨ hi a < b then (0, 0, 12)
  else if a < 224 then ((a - 192) * 64 + (b - 128), 2, 0)
  else if n = 2 then (0, 0, 4)
  else if c < 128 ∨ 191 < c then (0, 0, 12)
  else if a < 240 then ((a - 224) * 4096 + (b - 128) * 64 + (c - 128), 3, 0)
  else if n = 3 then (0, 0, 4)
  else if d < 128 ∨ 191 < d then (0, 0, 12)
  else ((a - 240) * 262144 + (b - 128) * 4096 + (c - 128) * 64 + (d - 128), 4, 0)
def nx (l : List UInt8) : Nat × Nat × Nat := nxN l.length (bt l 0) (bt l 1) (bt l 2) (bt l 3)
/-- a whole rune of s bytes, r -/
def Whole (n a b c d r s : Nat) : Prop :=
  (s = 1 ∧ 1 ≤ n ∧ a < 128 ∧ r = a)
  ∨ (s = 2 ∧ 2 ≤ n ∧ 194 ≤ a ∧ a < 224 ∧ 128 ≤ b ∧ b ≤ 191 ∧ r = (a - 192) * 64 + (b - 128))
  ∨ (s = 3 ∧ 3 ≤ n ∧ 224 ≤ a ∧ a < 240 ∧ 128 ≤ b ∧ b ≤ 191 ∧ (a = 224 → 160 ≤ b) ∧ (a = 237 → b ≤ 159) ∧ 128 ≤ c ∧ c ≤ 191 ∧ r = (a - 224) * 4096 + (b - 128) * 64 + (c - 128))
  ∨ (s = 4 ∧ 4 ≤ n ∧ 240 ≤ a ∧ a ≤ 244 ∧ 128 ≤ b ∧ b ≤ 191 ∧ (a = 240 → 144 ≤ b) ∧ (a = 244 → b ≤ 143) ∧ 128 ≤ c ∧ c ≤ 191 ∧ 128 ≤ d ∧ d ≤ 191 ∧ r = (a - 240) * 262144 + (b - 128) * 4096 + (c - 128) * 64 + (d - 128))
theorem nxN_cases (n a b c d : Nat) : ((nxN n a b c d).2.2 = 0 ∧ Whole n a b c d (nxN n a b c d).1 (nxN n a b c d).2.1) ∨ nxN n a b c d = (0, 0, 4) ∨ nxN n a b c d = (0, 0, 12) := by
  unfold nxN
  by_cases h0 : n = 0
  · simp [h0]
  by_cases h1 : a < 128
  · left; simp [h0, h1, Whole]; omega
  by_cases h2 : a < 194 ∨ 244 < a
  · simp [h0, h1, h2]
  by_cases h3 : n = 1
  · simp [h1, h2, h3]
  by_cases h4 : b < lo a ∨ hi a < b
  · simp [h0, h1, h2, h3, h4]
  have h4' : 128 ≤ b ∧ b ≤ 191 ∧ (a = 224 → 160 ≤ b) ∧ (a = 237 → b ≤ 159) ∧ (a = 240 → 144 ≤ b) ∧ (a = 244 → b ≤ 143) := by
    unfold lo hi at h4
    repeat' split at h4
    all_goals omega
  by_cases h5 : a < 224
  · left; simp [h0, h1, h2, h3, h4, h5, Whole]; omega
  by_cases h6 : n = 2
  · simp [h1, h2, h4, h5, h6]
  by_cases h7 : c < 128 ∨ 191 < c
  · simp [h0, h1, h2, h3, h4, h5, h6, h7]
  by_cases h8 : a < 240
  · left; simp [h0, h1, h2, h3, h4, h5, h6, h7, h8, Whole]; omega
  by_cases h9 : n = 3
  · simp [h1, h2, h4, h5, h7, h8, h9]
  by_cases h10 : d < 128 ∨ 191 < d
  · simp [h0, h1, h2, h3, h4, h5, h6, h7, h8, h9, h10]
  left; simp [h0, h1, h2, h3, h4, h5, h6, h7, h8, h9, h10, Whole]; omega
set_option maxRecDepth 100000 in
theorem nxN_whole {n a b c d r s : Nat} (h : Whole n a b c d r s) : nxN n a b c d = (r, s, 0) := by
  have hlo : lo a = 128 ∨ (a = 224 ∧ lo a = 160) ∨ (a = 240 ∧ lo a = 144) := by unfold lo; split; omega; split <;> omega
  have hhi : hi a = 191 ∨ (a = 237 ∧ hi a = 159) ∨ (a = 244 ∧ hi a = 143) := by unfold hi; split; omega; split <;> omega
  rcases h with ⟨rfl, h1, h2, rfl⟩ | ⟨rfl, h1, h2, h3, h4, h5, rfl⟩ | ⟨rfl, h1, h2, h3, h4, h5, h6, h7, h8, h9, rfl⟩ | ⟨rfl, h1, h2, h3, h4, h5, h6, h7, h8, h9, h10, h11, rfl⟩
  · unfold nxN
    rw [if_neg (by omega), if_pos h2]
  · unfold nxN
    rw [if_neg (by omega), if_neg (by omega), if_neg (by omega), if_neg (by omega), if_neg (by omega), if_pos (by omega)]
  · unfold nxN
    rw [if_neg (by omega), if_neg (by omega), if_neg (by omega), if_neg (by omega), if_neg (by omega), if_neg (by omega), if_neg (by omega), if_neg (by omega), if_pos (by omega)]
  · unfold nxN
    rw [if_neg (by omega), if_neg (by omega), if_neg (by omega), if_neg (by omega), if_neg (by omega), if_neg (by omega), if_neg (by omega), if_neg (by omega), if_neg (by omega), if_neg (by omega), if_neg (by omega)]

/-! The model's decoding. -/
theorem get_S (l : List UInt8) (p k : Nat) : ((S l).get! (p + k)).toNat = bt (l.drop p) k := by
  rw [← Lib.getD_get!', S_data]
  unfold bt
  simp [List.getD_eq_getElem?_getD, List.getElem?_drop]
def dc (l : List UInt8) : Nat × Nat := Lib.decodeN l.length (bt l 0) (bt l 1) (bt l 2) (bt l 3)
theorem decode_S (l : List UInt8) (p : Nat) : Utf8.decode (S l) p = dc (l.drop p) := by
  rw [Lib.decode_at, get_S, get_S, get_S, S_size]
  have := get_S l p 0
  rw [Nat.add_zero] at this
  rw [this, dc, List.length_drop]
set_option maxRecDepth 100000 in
set_option maxHeartbeats 4000000 in
theorem decodeN_whole {n a b c d r s : Nat} (h : Whole n a b c d r s) : Lib.decodeN n a b c d = (r, s) := by
  rcases h with ⟨rfl, h1, h2, rfl⟩ | ⟨rfl, h1, h2, h3, h4, h5, rfl⟩ | ⟨rfl, h1, h2, h3, h4, h5, h6, h7, h8, h9, rfl⟩ | ⟨rfl, h1, h2, h3, h4, h5, h6, h7, h8, h9, h10, h11, rfl⟩
  · unfold Lib.decodeN
    rw [if_pos h2]
  · unfold Lib.decodeN
    rw [if_neg (by omega), if_pos (by omega), if_pos (by omega)]
    apply Prod.ext <;> simp only <;> omega
  · unfold Lib.decodeN
    rw [if_neg (by omega), if_neg (by omega), if_pos (by omega), if_pos (by omega)]
    apply Prod.ext <;> simp only <;> omega
  · unfold Lib.decodeN
    rw [if_neg (by omega), if_neg (by omega), if_neg (by omega), if_pos (by omega), if_pos (by omega)]
    apply Prod.ext <;> simp only <;> omega
set_option maxRecDepth 100000 in
set_option maxHeartbeats 4000000 in
theorem decodeN_cases (n a b c d : Nat) (hn : 1 ≤ n) (ha : a < 256) (hb : b < 256) (hc : c < 256) (hd : d < 256) : Whole n a b c d (Lib.decodeN n a b c d).1 (Lib.decodeN n a b c d).2 ∨ Lib.decodeN n a b c d = (65533, 1) := by
  unfold Lib.decodeN
  repeat' split
  all_goals first
    | (right; rfl)
    | exact Or.inl (Or.inl ⟨rfl, by omega, by omega, rfl⟩)
    | exact Or.inl (Or.inr (Or.inl ⟨rfl, by omega, by omega, by omega, by omega, by omega, by simp only; omega⟩))
    | exact Or.inl (Or.inr (Or.inr (Or.inl ⟨rfl, by omega, by omega, by omega, by omega, by omega, by omega, by omega, by omega, by omega, by simp only; omega⟩)))
    | exact Or.inl (Or.inr (Or.inr (Or.inr ⟨rfl, by omega, by omega, by omega, by omega, by omega, by omega, by omega, by omega, by omega, by omega, by omega, by simp only; omega⟩)))
theorem dc_ok {l : List UInt8} {r s : Nat} (h : nx l = (r, s, 0)) : dc l = (r, s) := by
  have := nxN_cases l.length (bt l 0) (bt l 1) (bt l 2) (bt l 3)
  unfold nx at h
  rw [h] at this
  rcases this with ⟨_, h1⟩ | h1 | h1
  · exact decodeN_whole h1
  · simp at h1
  · simp at h1
theorem nx_cases (l : List UInt8) : ((nx l).2.2 = 0 ∧ Whole l.length (bt l 0) (bt l 1) (bt l 2) (bt l 3) (nx l).1 (nx l).2.1) ∨ nx l = (0, 0, 4) ∨ nx l = (0, 0, 12) := nxN_cases _ _ _ _ _
theorem dc_no {l : List UInt8} (h : (nx l).2.2 ≠ 0) (hl : 1 ≤ l.length) : dc l = (65533, 1) := by
  rcases decodeN_cases l.length (bt l 0) (bt l 1) (bt l 2) (bt l 3) hl (bt_lt _ _) (bt_lt _ _) (bt_lt _ _) (bt_lt _ _) with h1 | h1
  · exfalso
    apply h
    unfold nx
    rw [nxN_whole h1]
  · exact h1
/-- does the replacement stand in front? -/
def isF (l : List UInt8) : Bool := l.take 3 == [239, 191, 189]
theorem isF_iff (l : List UInt8) : isF l = true ↔ 3 ≤ l.length ∧ bt l 0 = 239 ∧ bt l 1 = 191 ∧ bt l 2 = 189 := by
  unfold isF bt
  match l with
  | [] => simp
  | [a] => simp
  | [a, b] => simp
  | a :: b :: c :: t =>
    simp only [beq_iff_eq, List.take_succ_cons, List.take_zero, List.cons.injEq, and_true, List.length_cons, List.getD_cons_zero, List.getD_cons_succ]
    refine ⟨fun ⟨h1, h2, h3⟩ => ⟨by omega, by rw [h1]; rfl, by rw [h2]; rfl, by rw [h3]; rfl⟩, fun ⟨_, h1, h2, h3⟩ => ⟨UInt8.toNat_inj.1 h1, UInt8.toNat_inj.1 h2, UInt8.toNat_inj.1 h3⟩⟩
/-- what the program asks of a rune that a range gives -/
theorem stands_eq (l : List UInt8) (hl : 1 ≤ l.length) : (((dc l).1 != 65533) || isF l) = decide ((nx l).2.2 = 0) := by
  rcases nx_cases l with ⟨h, hw⟩ | h | h
  · have hd := dc_ok (l := l) (r := (nx l).1) (s := (nx l).2.1) (by rw [← h])
    rw [hd, h]
    simp only [decide_true, Bool.or_eq_true, bne_iff_ne, ne_eq]
    by_cases he : (nx l).1 = 65533
    · right
      rw [isF_iff]
      rw [he] at hw
      have := bt_lt l 0
      unfold Whole at hw
      omega
    · exact Or.inl he
  all_goals
    rw [dc_no (by rw [h]; decide) hl, h]
    simp only [bne_self_eq_false, Bool.false_or]
    rw [show decide (_ = 0) = false by decide, Bool.eq_false_iff]
    intro hf
    rw [isF_iff] at hf
    have : nx l = (65533, 3, 0) := nxN_whole (by unfold Whole; omega)
    rw [this] at h
    simp at h
end Um
end Go.Proofs.YtpifbmcgadjhbaaGreatDoor
