/-
  What the document's begins comes to.
-/
import Derived.Test.YtjbkbkfhbombbaaDoorUtfRefPut
import Derived.RegionTactic
import Derived.ChangeAlike
namespace Go.Proofs.YtjbkbkfhbombbaaDoor
open Go.RowKit

theorem S_at (l : List UInt8) (k : Nat) (h : k < (S l).size) : ((S l)[k]'h).toNat = Um.bt l k := by
  unfold Um.bt
  have h' : k < l.length := by rw [S_size] at h; exact h
  have : (S l)[k]'h = l[k] := rfl
  rw [this]
  simp [List.getD_eq_getElem?_getD, List.getElem?_eq_getElem h']
/-- what holds at the head of the loop: j - 1 bytes have been reckoned in -/
def Beg (l : List UInt8) (z : Nat) (lo hi i : Value) : Prop :=
  ∃ j a c : Nat, 1 ≤ j ∧ j ≤ z ∧ i = .int .i64 (j : Int) ∧ lo = .int .i64 (a : Int) ∧ hi = .int .i64 (c : Int) ∧ a = Um.lw z l.length (Um.bt l) (j - 1) ∧ c = Um.hg z l.length (Um.bt l) (j - 1) ∧ Um.cs l.length (Um.bt l) (j - 1)
theorem Beg.start {l : List UInt8} {z : Nat} {x : Int} (hz : 1 ≤ z) (hx : x = ((Um.bt l 0 - Um.bs z : Nat) : Int)) : Beg l z (.int .i64 x) (.int .i64 x) (.int .i64 1) := by
  subst hx
  exact ⟨1, _, _, Nat.le_refl _, hz, rfl, rfl, rfl, rfl, rfl, fun i h1 h2 _ => by omega⟩
theorem Beg.inn {l : List UInt8} {z j a c : Nat} (h1 : 1 ≤ j) (h2 : j < z) (ha : a = Um.lw z l.length (Um.bt l) (j - 1)) (hc : c = Um.hg z l.length (Um.bt l) (j - 1)) (hcs : Um.cs l.length (Um.bt l) (j - 1))
    (hin : j < l.length) (hy1 : ¬ (Um.bt l j : Int) < 128) (hy2 : ¬ (191 : Int) < (Um.bt l j : Int)) : Beg l z (.int .i64 (64 * (a : Int) + ((Um.bt l j : Int) - 128))) (.int .i64 (64 * (c : Int) + ((Um.bt l j : Int) - 128))) (.int .i64 ((j : Int) + 1)) := by
  obtain ⟨k, rfl⟩ : ∃ k, j = k + 1 := ⟨j - 1, by omega⟩
  rw [Nat.add_sub_cancel] at ha hc hcs
  refine ⟨k + 1 + 1, 64 * a + (Um.bt l (k + 1) - 128), 64 * c + (Um.bt l (k + 1) - 128), by omega, by omega, rfl, ?_, ?_, ?_, ?_, ?_⟩
  · congr 1; omega
  · congr 1; omega
  · rw [Nat.add_sub_cancel, Um.lw, if_pos hin, ← ha]
  · rw [Nat.add_sub_cancel, Um.hg, if_pos hin, ← hc]
  · rw [Nat.add_sub_cancel]
    intro i i1 i2 i3
    by_cases h : i = k + 1
    · subst h; omega
    · exact hcs i i1 (by omega) i3
theorem Beg.out {l : List UInt8} {z j a c : Nat} (h1 : 1 ≤ j) (h2 : j < z) (ha : a = Um.lw z l.length (Um.bt l) (j - 1)) (hc : c = Um.hg z l.length (Um.bt l) (j - 1)) (hcs : Um.cs l.length (Um.bt l) (j - 1))
    (hin : ¬ j < l.length) : Beg l z (.int .i64 (64 * (a : Int))) (.int .i64 (64 * (c : Int) + 63)) (.int .i64 ((j : Int) + 1)) := by
  obtain ⟨k, rfl⟩ : ∃ k, j = k + 1 := ⟨j - 1, by omega⟩
  rw [Nat.add_sub_cancel] at ha hc hcs
  refine ⟨k + 1 + 1, 64 * a, 64 * c + 63, by omega, by omega, rfl, ?_, ?_, ?_, ?_, ?_⟩
  · congr 1
  · congr 1
  · rw [Nat.add_sub_cancel, Um.lw, if_neg hin, ← ha]; rfl
  · rw [Nat.add_sub_cancel, Um.hg, if_neg hin, ← hc]
  · rw [Nat.add_sub_cancel]
    intro i i1 i2 i3
    exact hcs i i1 (by omega) i3
end Go.Proofs.YtjbkbkfhbombbaaDoor
