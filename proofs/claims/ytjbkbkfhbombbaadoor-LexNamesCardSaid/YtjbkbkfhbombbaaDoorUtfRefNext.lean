/-
  What the document's Next and Len come to.
-/
import Derived.Test.YtjbkbkfhbombbaaDoorUtfRefBeg
namespace Go.Proofs.YtjbkbkfhbombbaaDoor
open Go.RowKit

namespace Um
theorem whole_lead {n a b c d r s z : Nat} (h : Whole n a b c d r s) (hz : lead z a) : s = z := by
  unfold lead at hz
  rcases h with ⟨rfl, h⟩ | ⟨rfl, h⟩ | ⟨rfl, h⟩ | ⟨rfl, h⟩ <;> omega
theorem bg_nx (l : List UInt8) (z : Nat) (hz : lead z (bt l 0)) (h1 : 1 ≤ l.length) (h2 : l.length ≤ z) : (cs l.length (bt l) (z - 1) ∧ bgEnd z l.length (bt l)) ↔ (nx l).2.2 ≠ 12 := by
  have hw : l.length = z → ((∃ r, Whole z (bt l 0) (bt l 1) (bt l 2) (bt l 3) r z) ↔ (nx l).2.2 ≠ 12) := fun e => by
    constructor
    · rintro ⟨r, h⟩
      rw [← e] at h
      have : nx l = (r, _, 0) := nxN_whole h
      rw [this]
      show (0 : Nat) ≠ 12
      decide
    · intro h
      rcases nx_cases l with ⟨_, h3⟩ | h3 | h3
      · have := whole_lead h3 hz
        rw [this, e] at h3
        exact ⟨_, h3⟩
      · exfalso
        have := front_of h3
        unfold Front at this
        unfold lead at hz
        omega
      · rw [h3] at h
        exact absurd rfl h
  have hf : l.length < z → (Front l.length (bt l 0) (bt l 1) (bt l 2) ↔ (nx l).2.2 ≠ 12) := fun e => by
    constructor
    · intro h
      have : nx l = (0, 0, 4) := nxN_front h
      rw [this]
      decide
    · intro h
      rcases nx_cases l with ⟨_, h3⟩ | h3 | h3
      · exfalso
        have := whole_lead h3 hz
        have := (nx_facts (nx_eta (by assumption))).2.2.2.1
        omega
      · exact front_of h3
      · rw [h3] at h
        exact absurd rfl h
  have hb := bt_lt l
  unfold lead at hz
  rcases hz with ⟨rfl, hz⟩ | ⟨rfl, hz⟩ | ⟨rfl, hz⟩
  · rcases (show l.length = 1 ∨ l.length = 2 by omega) with e | e
    · rw [e]
      exact (bg21 (bt l) hb (by unfold lead; omega)).trans (by have := hf (by omega); rw [e] at this; exact this)
    · rw [e]
      exact (bg22 (bt l) hb (by unfold lead; omega)).trans (hw e)
  · rcases (show l.length = 1 ∨ l.length = 2 ∨ l.length = 3 by omega) with e | e | e
    · rw [e]
      exact (bg31 (bt l) hb (by unfold lead; omega)).trans (by have := hf (by omega); rw [e] at this; exact this)
    · rw [e]
      exact (bg32 (bt l) hb (by unfold lead; omega)).trans (by have := hf (by omega); rw [e] at this; exact this)
    · rw [e]
      exact (bg33 (bt l) hb (by unfold lead; omega)).trans (hw e)
  · rcases (show l.length = 1 ∨ l.length = 2 ∨ l.length = 3 ∨ l.length = 4 by omega) with e | e | e | e
    · rw [e]
      exact (bg41 (bt l) hb (by unfold lead; omega)).trans (by have := hf (by omega); rw [e] at this; exact this)
    · rw [e]
      exact (bg42 (bt l) hb (by unfold lead; omega)).trans (by have := hf (by omega); rw [e] at this; exact this)
    · rw [e]
      exact (bg43 (bt l) hb (by unfold lead; omega)).trans (by have := hf (by omega); rw [e] at this; exact this)
    · rw [e]
      exact (bg44 (bt l) hb (by unfold lead; omega)).trans (hw e)
theorem take_whole {l : List UInt8} {z : Nat} (hz : lead z (bt l 0)) (hl : z ≤ l.length) (h : (nx (l.take z)).2.2 ≠ 12) : nx l = (lw z z (bt l) (z - 1), z, 0) := by
  have hz' := hz
  have e := fun k => bt_take l z k
  have hlen : (l.take z).length = z := by rw [List.length_take]; omega
  have e0 : bt (l.take z) 0 = bt l 0 := e 0 (by unfold lead at hz; omega)
  rcases nx_cases (l.take z) with ⟨h0, h3⟩ | h3 | h3
  · have hs := whole_lead h3 (by rw [e0]; exact hz)
    have hn := nx_app (nx_eta h0) (l.drop z)
    rw [List.take_append_drop, hs] at hn
    rw [hn]
    rw [hs] at h3
    have : (nx (l.take z)).1 = lw z z (bt l) (z - 1) := by
      rcases hz' with ⟨rfl, hz'⟩ | ⟨rfl, hz'⟩ | ⟨rfl, hz'⟩
      · rw [lw22]
        have e1 := e 1 (by omega)
        rcases h3 with h3 | ⟨_, h3⟩ | h3 | h3 <;> omega
      · rw [lw33]
        have e1 := e 1 (by omega)
        have e2 := e 2 (by omega)
        rcases h3 with h3 | h3 | ⟨_, h3⟩ | h3 <;> omega
      · rw [lw44]
        have e1 := e 1 (by omega)
        have e2 := e 2 (by omega)
        have e3 := e 3 (by omega)
        rcases h3 with h3 | h3 | h3 | ⟨_, h3⟩ <;> omega
    rw [this]
  · exfalso
    have := front_of h3
    rw [hlen, e0] at this
    unfold Front at this
    unfold lead at hz
    omega
  · rw [h3] at h
    exact absurd rfl h
theorem whole_tail {n r s : Nat} {f : Nat → Nat} (h : Whole n (f 0) (f 1) (f 2) (f 3) r s) (i : Nat) (h1 : 1 ≤ i) (h2 : i < s) : 128 ≤ f i ∧ f i ≤ 191 := by
  rcases h with ⟨rfl, h⟩ | ⟨rfl, h⟩ | ⟨rfl, h⟩ | ⟨rfl, h⟩
  · omega
  · obtain rfl : i = 1 := by omega
    omega
  · rcases (show i = 1 ∨ i = 2 by omega) with rfl | rfl <;> omega
  · rcases (show i = 1 ∨ i = 2 ∨ i = 3 by omega) with rfl | rfl | rfl <;> omega
/-- too few bytes, all of which begin one -/
theorem few_front {l : List UInt8} {z : Nat} (hz : lead z (bt l 0)) (hl : l.length < z) (h : (nx l).2.2 ≠ 12) : nx l = (0, 0, 4) := by
  rcases nx_cases l with ⟨h0, h3⟩ | h3 | h3
  · exfalso
    have := whole_lead h3 hz
    have := (nx_facts (nx_eta h0)).2.2.2.1
    omega
  · exact h3
  · rw [h3] at h
    exact absurd rfl h
theorem not_begun {l : List UInt8} {j : Nat} (h : (nx (l.take j)).2.2 = 12) : nx l = (0, 0, 12) := by
  rcases nx_cases (l.take j) with ⟨h0, _⟩ | h3 | h3
  · rw [h0] at h; exact absurd h (by decide)
  · rw [h3] at h; exact absurd h (by decide)
  · have := nx12 h3 (l.drop j)
    rwa [List.take_append_drop] at this
end Um

theorem S_mid (R : List UInt8) (a c : Nat) : (S R).extract a (a + c) = S ((R.drop a).take c) := by
  apply ByteArray.ext
  apply Array.toList_inj.1
  simp only [S, ByteArray.data_extract, Array.toList_extract, List.extract_eq_take_drop]
  congr 1
  omega
theorem bt_drop (l : List UInt8) (p k : Nat) : Um.bt (l.drop p) k = Um.bt l (p + k) := by
  unfold Um.bt
  simp [List.getD_eq_getElem?_getD, List.getElem?_drop]
def Ref1 (R : List UInt8) (z : Nat) (i : Value) : Prop := ∃ j : Nat, 1 ≤ j ∧ j ≤ z + 1 ∧ i = .int .i64 (j : Int) ∧ j - 1 ≤ R.length ∧ (2 ≤ j → (Um.nx (R.take (j - 1))).2.2 ≠ 12)
theorem ret_r3 {R : List UInt8} {a b c : Nat} (h : Um.nx R = (a, b, c)) : Ending.returned (.tuple #[.int .i64 (a : Int), .int .i64 (b : Int), .int .i64 (c : Int)]) = .returned (R3 (Um.nx R)) := by rw [h, R3]
def Ref2 (R : List UInt8) (z : Nat) (r i : Value) : Prop := ∃ j a : Nat, 1 ≤ j ∧ j ≤ z ∧ i = .int .i64 (j : Int) ∧ r = .int .i64 (a : Int) ∧ a = Um.lw z z (Um.bt R) (j - 1)
theorem NX_in (l : List UInt8) (p : Nat) (h : p ≤ l.length) : NX l (p : Int) = Um.nx (l.drop p) := by unfold NX; rw [if_neg (by omega), Int.toNat_natCast]
end Go.Proofs.YtjbkbkfhbombbaaDoor
