/-
  What the document's begins comes to.
-/
import Derived.Test.YtpifbmcgadjhbaaGreatDoorUtfRefPut
import Derived.RegionTactic
import Derived.ChangeAlike
namespace Go.Proofs.YtpifbmcgadjhbaaGreatDoor
open Go.RowKit

theorem S_at (l : List UInt8) (k : Nat) (h : k < (S l).size) : ((S l)[k]'h).toNat = Um.bt l k := by
  unfold Um.bt
  have h' : k < l.length := by rw [S_size] at h; exact h
  have : (S l)[k]'h = l[k] := rfl
  rw [this]
  simp [List.getD_eq_getElem?_getD, List.getElem?_eq_getElem h']
/-- what holds at the head of the loop: j - 1 bytes have been reckoned in -/
def Beg (l : List UInt8) (z : Nat) (lo hi i : Value) : Prop :=
  ∃ j a c : Nat, 1 ≤ j ∧ j ≤ z ∧ i = .int .i64 (j : Int) ∧ lo = .int .i64 (a : Int) ∧ hi = .int .i64 (c : Int) ∧ a = Um.lw z l.length (Um.bt l) (j - 1) ∧ c = Um.hg z l.length (Um.bt l) (j - 1) ∧ Um.cs l.length (Um.bt l) (j - 1)
theorem Beg.start {l : List UInt8} {z : Nat} {x : Int} (hz : 1 ≤ z) (hx : x = ((Um.bt l 0 - Um.bs z : Nat) : Int)) : Beg l z (.int .i64 x) (.int .i64 x) (.int .i64 1) := by
  subst hx
  exact ⟨1, _, _, Nat.le_refl _, hz, rfl, rfl, rfl, rfl, rfl, fun i h1 h2 _ => by omega⟩
theorem Beg.inn {l : List UInt8} {z j a c : Nat} (h1 : 1 ≤ j) (h2 : j < z) (ha : a = Um.lw z l.length (Um.bt l) (j - 1)) (hc : c = Um.hg z l.length (Um.bt l) (j - 1)) (hcs : Um.cs l.length (Um.bt l) (j - 1))
    (hin : j < l.length) (hy1 : ¬ (Um.bt l j : Int) < 128) (hy2 : ¬ (191 : Int) < (Um.bt l j : Int)) : Beg l z (.int .i64 (64 * (a : Int) + ((Um.bt l j : Int) - 128))) (.int .i64 (64 * (c : Int) + ((Um.bt l j : Int) - 128))) (.int .i64 ((j : Int) + 1)) := by
  obtain ⟨k, rfl⟩ : ∃ k, j = k + 1 := ⟨j - 1, by omega⟩
  rw [Nat.add_sub_cancel] at ha hc hcs
  refine ⟨k + 1 + 1, 64 * a + (Um.bt l (k + 1) - 128), 64 * c + (Um.bt l (k + 1) - 128), by omega, by omega, rfl, ?_, ?_, ?_, ?_, ?_⟩
  · congr 1; omega
  · congr 1; omega
  · rw [Nat.add_sub_cancel, Um.lw, if_pos hin, ← ha]
  · rw [Nat.add_sub_cancel, Um.hg, if_pos hin, ← hc]
  · rw [Nat.add_sub_cancel]
    intro i i1 i2 i3
    by_cases h : i = k + 1
    · subst h; omega
    · exact hcs i i1 (by omega) i3
theorem Beg.out {l : List UInt8} {z j a c : Nat} (h1 : 1 ≤ j) (h2 : j < z) (ha : a = Um.lw z l.length (Um.bt l) (j - 1)) (hc : c = Um.hg z l.length (Um.bt l) (j - 1)) (hcs : Um.cs l.length (Um.bt l) (j - 1))
    (hin : ¬ j < l.length) : Beg l z (.int .i64 (64 * (a : Int))) (.int .i64 (64 * (c : Int) + 63)) (.int .i64 ((j : Int) + 1)) := by
  obtain ⟨k, rfl⟩ : ∃ k, j = k + 1 := ⟨j - 1, by omega⟩
  rw [Nat.add_sub_cancel] at ha hc hcs
  refine ⟨k + 1 + 1, 64 * a, 64 * c + 63, by omega, by omega, rfl, ?_, ?_, ?_, ?_, ?_⟩
  · congr 1
  · congr 1
  · rw [Nat.add_sub_cancel, Um.lw, if_neg hin, ← ha]; rfl
  · rw [Nat.add_sub_cancel, Um.hg, if_neg hin, ← hc]
  · rw [Nat.add_sub_cancel]
    intro i i1 i2 i3
    exact hcs i i1 (by omega) i3
set_option maxRecDepth 100000 in
set_option maxHeartbeats 800000 in
theorem refBegins_any (l : List UInt8) (z : Nat) (zi : Int) (hzi : zi = (z : Int)) (w : World) (b : Bool) (hz : Um.lead z (Um.bt l 0)) (h1 : 1 ≤ l.length) (h2 : l.length ≤ z) (hb : b = true ↔ (Um.cs l.length (Um.bt l) (z - 1) ∧ Um.bgEnd z l.length (Um.bt l))) :
    Calls Tryz.prog 111 #[.string (S l), .int .i64 zi] w fun e w' => e = .returned (.bool b) ∧ Below w.heap.size w w' := by
  have z1 := S_size l
  have hat := S_at l
  have HB := Lib.hid hb
  have HZ := Lib.hid hz
  clear hb hz
  have q0 : 0 < l.length := by omega
  have hb0 := Um.bt_lt l 0
  rcases HZ.out with ⟨rfl, hz1, hz2⟩ | ⟨rfl, hz1, hz2⟩ | ⟨rfl, hz1, hz2⟩
  · obtain rfl : zi = 2 := hzi
    have hbs : Um.bs 2 = 192 := rfl
    go_enter Tryz.func111, Tryz.ntmps111
    go_wp2_with fail
    go_region
    go_wp2_with fail
    go_loopw [5, 6, 7] (fun lo hi i wr => Beg l 2 lo hi i ∧ Below w.heap.size w wr) (fun _ _ i _ => 2 - (intOf i).toNat)
    case atStart => exact ⟨Beg.start (by decide) (by rw [hbs]; omega), (Below.refl _ _).drew⟩
    case round =>
      obtain ⟨⟨j, a, c, hj1, hj2, rfl, rfl, rfl, ha, hc, hcs⟩, hbel⟩ := hrel
      have HA := Lib.hid ha
      have HC := Lib.hid hc
      have HS := Lib.hid hcs
      have hsz := hbel.size
      have bA : a ≤ 100000000 := by rw [ha]; exact (Um.lw_bd _ _ _ (Um.bt_lt l) _ (by omega)).1
      have bC : c ≤ 100000000 := by rw [hc]; exact (Um.lw_bd _ _ _ (Um.bt_lt l) _ (by omega)).2
      clear ha hc hcs
      by_cases hlt : (j : Int) < 2
      · by_cases hin : j < l.length
        · have hby := Um.bt_lt l j
          by_cases hy1 : (Um.bt l j : Int) < 128
          · have BF : Hid (b = false) := by
              rw [Hid, Bool.eq_false_iff]
              intro h
              have := (HB.out.1 h).1 j hj1 (by omega) hin
              omega
            go_wp2_with fail
            go_ret
            exact ⟨ret_bool BF.out.symm, hbel⟩
          by_cases hy2 : (191 : Int) < (Um.bt l j : Int)
          · have BF : Hid (b = false) := by
              rw [Hid, Bool.eq_false_iff]
              intro h
              have := (HB.out.1 h).1 j hj1 (by omega) hin
              omega
            go_wp2_with fail
            go_ret
            exact ⟨ret_bool BF.out.symm, hbel⟩
          · have HI := Lib.hid (And.intro hy1 hy2)
            go_wp2_with fail
            go_region
            all_goals
              go_wp2_with fail
              go_roundw
              case rel => exact ⟨Beg.inn hj1 (by omega) HA.out HC.out HS.out hin (by have := HI.out; omega) (by have := HI.out; omega), hbel.drew⟩
              case measure => simp [intOf]; omega
        · go_wp2_with fail
          go_roundw
          case rel => exact ⟨Beg.out hj1 (by omega) HA.out HC.out HS.out hin, hbel⟩
          case measure => simp [intOf]; omega
      · obtain rfl : j = 2 := by omega
        obtain ⟨A, eA⟩ : ∃ A : Int, A = (a : Int) := ⟨_, rfl⟩
        obtain ⟨C, eC⟩ : ∃ C : Int, C = (c : Int) := ⟨_, rfl⟩
        have hA0 : 0 ≤ A ∧ A ≤ 100000000 := by omega
        have hC0 : 0 ≤ C ∧ C ≤ 100000000 := by omega
        rw [← eA, ← eC, show ((2 : Nat) : Int) = 2 from rfl]
        have EA := Lib.hid eA
        have EC := Lib.hid eC
        have BB : Hid (∀ x : Bool, (x = true ↔ (¬ (55296 ≤ max A 128 ∧ min C 1114111 ≤ 57343) ∧ max A 128 ≤ min C 1114111)) → x = b) := fun x hx => by
          have h3 := HB.out
          unfold Um.bgEnd at h3
          rw [show Um.lst 2 = 128 from rfl, ← HA.out, ← HC.out] at h3
          have h4 := HS.out
          rw [Bool.eq_iff_iff, hx, h3, EA.out, EC.out]
          constructor
          · intro h5
            exact ⟨h4, by omega, by omega⟩
          · intro h5
            omega
        clear eA eC hlt hj1 hj2 bA bC
        go_wp2_with fail
        all_goals
          go_ret
          exact ⟨ret_bool (BB.out _ (by first | (rw [decide_eq_true_eq]; omega) | (simp only [Bool.false_eq_true, false_iff]; omega) | (simp only [true_iff]; omega))), hbel.alloc hsz _⟩
  · obtain rfl : zi = 3 := hzi
    have hbs : Um.bs 3 = 224 := rfl
    go_enter Tryz.func111, Tryz.ntmps111
    go_wp2_with fail
    go_region
    go_wp2_with fail
    go_loopw [5, 6, 7] (fun lo hi i wr => Beg l 3 lo hi i ∧ Below w.heap.size w wr) (fun _ _ i _ => 3 - (intOf i).toNat)
    case atStart => exact ⟨Beg.start (by decide) (by rw [hbs]; omega), (Below.refl _ _).drew⟩
    case round =>
      obtain ⟨⟨j, a, c, hj1, hj2, rfl, rfl, rfl, ha, hc, hcs⟩, hbel⟩ := hrel
      have HA := Lib.hid ha
      have HC := Lib.hid hc
      have HS := Lib.hid hcs
      have hsz := hbel.size
      have bA : a ≤ 100000000 := by rw [ha]; exact (Um.lw_bd _ _ _ (Um.bt_lt l) _ (by omega)).1
      have bC : c ≤ 100000000 := by rw [hc]; exact (Um.lw_bd _ _ _ (Um.bt_lt l) _ (by omega)).2
      clear ha hc hcs
      by_cases hlt : (j : Int) < 3
      · by_cases hin : j < l.length
        · have hby := Um.bt_lt l j
          by_cases hy1 : (Um.bt l j : Int) < 128
          · have BF : Hid (b = false) := by
              rw [Hid, Bool.eq_false_iff]
              intro h
              have := (HB.out.1 h).1 j hj1 (by omega) hin
              omega
            go_wp2_with fail
            go_ret
            exact ⟨ret_bool BF.out.symm, hbel⟩
          by_cases hy2 : (191 : Int) < (Um.bt l j : Int)
          · have BF : Hid (b = false) := by
              rw [Hid, Bool.eq_false_iff]
              intro h
              have := (HB.out.1 h).1 j hj1 (by omega) hin
              omega
            go_wp2_with fail
            go_ret
            exact ⟨ret_bool BF.out.symm, hbel⟩
          · have HI := Lib.hid (And.intro hy1 hy2)
            go_wp2_with fail
            go_region
            all_goals
              go_wp2_with fail
              go_roundw
              case rel => exact ⟨Beg.inn hj1 (by omega) HA.out HC.out HS.out hin (by have := HI.out; omega) (by have := HI.out; omega), hbel.drew⟩
              case measure => simp [intOf]; omega
        · go_wp2_with fail
          go_roundw
          case rel => exact ⟨Beg.out hj1 (by omega) HA.out HC.out HS.out hin, hbel⟩
          case measure => simp [intOf]; omega
      · obtain rfl : j = 3 := by omega
        obtain ⟨A, eA⟩ : ∃ A : Int, A = (a : Int) := ⟨_, rfl⟩
        obtain ⟨C, eC⟩ : ∃ C : Int, C = (c : Int) := ⟨_, rfl⟩
        have hA0 : 0 ≤ A ∧ A ≤ 100000000 := by omega
        have hC0 : 0 ≤ C ∧ C ≤ 100000000 := by omega
        rw [← eA, ← eC, show ((3 : Nat) : Int) = 3 from rfl]
        have EA := Lib.hid eA
        have EC := Lib.hid eC
        have BB : Hid (∀ x : Bool, (x = true ↔ (¬ (55296 ≤ max A 2048 ∧ min C 1114111 ≤ 57343) ∧ max A 2048 ≤ min C 1114111)) → x = b) := fun x hx => by
          have h3 := HB.out
          unfold Um.bgEnd at h3
          rw [show Um.lst 3 = 2048 from rfl, ← HA.out, ← HC.out] at h3
          have h4 := HS.out
          rw [Bool.eq_iff_iff, hx, h3, EA.out, EC.out]
          constructor
          · intro h5
            exact ⟨h4, by omega, by omega⟩
          · intro h5
            omega
        clear eA eC hlt hj1 hj2 bA bC
        go_wp2_with fail
        all_goals
          go_ret
          exact ⟨ret_bool (BB.out _ (by first | (rw [decide_eq_true_eq]; omega) | (simp only [Bool.false_eq_true, false_iff]; omega) | (simp only [true_iff]; omega))), hbel.alloc hsz _⟩
  · obtain rfl : zi = 4 := hzi
    have hbs : Um.bs 4 = 240 := rfl
    go_enter Tryz.func111, Tryz.ntmps111
    go_wp2_with fail
    go_region
    go_wp2_with fail
    go_loopw [5, 6, 7] (fun lo hi i wr => Beg l 4 lo hi i ∧ Below w.heap.size w wr) (fun _ _ i _ => 4 - (intOf i).toNat)
    case atStart => exact ⟨Beg.start (by decide) (by rw [hbs]; omega), (Below.refl _ _).drew⟩
    case round =>
      obtain ⟨⟨j, a, c, hj1, hj2, rfl, rfl, rfl, ha, hc, hcs⟩, hbel⟩ := hrel
      have HA := Lib.hid ha
      have HC := Lib.hid hc
      have HS := Lib.hid hcs
      have hsz := hbel.size
      have bA : a ≤ 100000000 := by rw [ha]; exact (Um.lw_bd _ _ _ (Um.bt_lt l) _ (by omega)).1
      have bC : c ≤ 100000000 := by rw [hc]; exact (Um.lw_bd _ _ _ (Um.bt_lt l) _ (by omega)).2
      clear ha hc hcs
      by_cases hlt : (j : Int) < 4
      · by_cases hin : j < l.length
        · have hby := Um.bt_lt l j
          by_cases hy1 : (Um.bt l j : Int) < 128
          · have BF : Hid (b = false) := by
              rw [Hid, Bool.eq_false_iff]
              intro h
              have := (HB.out.1 h).1 j hj1 (by omega) hin
              omega
            go_wp2_with fail
            go_ret
            exact ⟨ret_bool BF.out.symm, hbel⟩
          by_cases hy2 : (191 : Int) < (Um.bt l j : Int)
          · have BF : Hid (b = false) := by
              rw [Hid, Bool.eq_false_iff]
              intro h
              have := (HB.out.1 h).1 j hj1 (by omega) hin
              omega
            go_wp2_with fail
            go_ret
            exact ⟨ret_bool BF.out.symm, hbel⟩
          · have HI := Lib.hid (And.intro hy1 hy2)
            go_wp2_with fail
            go_region
            all_goals
              go_wp2_with fail
              go_roundw
              case rel => exact ⟨Beg.inn hj1 (by omega) HA.out HC.out HS.out hin (by have := HI.out; omega) (by have := HI.out; omega), hbel.drew⟩
              case measure => simp [intOf]; omega
        · go_wp2_with fail
          go_roundw
          case rel => exact ⟨Beg.out hj1 (by omega) HA.out HC.out HS.out hin, hbel⟩
          case measure => simp [intOf]; omega
      · obtain rfl : j = 4 := by omega
        obtain ⟨A, eA⟩ : ∃ A : Int, A = (a : Int) := ⟨_, rfl⟩
        obtain ⟨C, eC⟩ : ∃ C : Int, C = (c : Int) := ⟨_, rfl⟩
        have hA0 : 0 ≤ A ∧ A ≤ 100000000 := by omega
        have hC0 : 0 ≤ C ∧ C ≤ 100000000 := by omega
        rw [← eA, ← eC, show ((4 : Nat) : Int) = 4 from rfl]
        have EA := Lib.hid eA
        have EC := Lib.hid eC
        have BB : Hid (∀ x : Bool, (x = true ↔ (¬ (55296 ≤ max A 65536 ∧ min C 1114111 ≤ 57343) ∧ max A 65536 ≤ min C 1114111)) → x = b) := fun x hx => by
          have h3 := HB.out
          unfold Um.bgEnd at h3
          rw [show Um.lst 4 = 65536 from rfl, ← HA.out, ← HC.out] at h3
          have h4 := HS.out
          rw [Bool.eq_iff_iff, hx, h3, EA.out, EC.out]
          constructor
          · intro h5
            exact ⟨h4, by omega, by omega⟩
          · intro h5
            omega
        clear eA eC hlt hj1 hj2 bA bC
        go_wp2_with fail
        all_goals
          go_ret
          exact ⟨ret_bool (BB.out _ (by first | (rw [decide_eq_true_eq]; omega) | (simp only [Bool.false_eq_true, false_iff]; omega) | (simp only [true_iff]; omega))), hbel.alloc hsz _⟩
end Go.Proofs.YtpifbmcgadjhbaaGreatDoor
