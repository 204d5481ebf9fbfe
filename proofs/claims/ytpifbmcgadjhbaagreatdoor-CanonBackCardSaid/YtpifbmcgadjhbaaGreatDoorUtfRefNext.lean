/-
  What the document's Next and Len come to.
-/
import Derived.Test.YtpifbmcgadjhbaaGreatDoorUtfRefBeg
namespace Go.Proofs.YtpifbmcgadjhbaaGreatDoor
open Go.RowKit

namespace Um
theorem whole_lead {n a b c d r s z : Nat} (h : Whole n a b c d r s) (hz : lead z a) : s = z := by
  unfold lead at hz
  rcases h with ⟨rfl, h⟩ | ⟨rfl, h⟩ | ⟨rfl, h⟩ | ⟨rfl, h⟩ <;> omega
theorem bg_nx (l : List UInt8) (z : Nat) (hz : lead z (bt l 0)) (h1 : 1 ≤ l.length) (h2 : l.length ≤ z) : (cs l.length (bt l) (z - 1) ∧ bgEnd z l.length (bt l)) ↔ (nx l).2.2 ≠ 12 := by
  have hw : l.length = z → ((∃ r, Whole z (bt l 0) (bt l 1) (bt l 2) (bt l 3) r z) ↔ (nx l).2.2 ≠ 12) := fun e => by
    constructor
    · rintro ⟨r, h⟩
      rw [← e] at h
      have : nx l = (r, _, 0) := nxN_whole h
      rw [this]
      show (0 : Nat) ≠ 12
      decide
    · intro h
      rcases nx_cases l with ⟨_, h3⟩ | h3 | h3
      · have := whole_lead h3 hz
        rw [this, e] at h3
        exact ⟨_, h3⟩
      · exfalso
        have := front_of h3
        unfold Front at this
        unfold lead at hz
        omega
      · rw [h3] at h
        exact absurd rfl h
  have hf : l.length < z → (Front l.length (bt l 0) (bt l 1) (bt l 2) ↔ (nx l).2.2 ≠ 12) := fun e => by
    constructor
    · intro h
      have : nx l = (0, 0, 4) := nxN_front h
      rw [this]
      decide
    · intro h
      rcases nx_cases l with ⟨_, h3⟩ | h3 | h3
      · exfalso
        have := whole_lead h3 hz
        have := (nx_facts (nx_eta (by assumption))).2.2.2.1
        omega
      · exact front_of h3
      · rw [h3] at h
        exact absurd rfl h
  have hb := bt_lt l
  unfold lead at hz
  rcases hz with ⟨rfl, hz⟩ | ⟨rfl, hz⟩ | ⟨rfl, hz⟩
  · rcases (show l.length = 1 ∨ l.length = 2 by omega) with e | e
    · rw [e]
      exact (bg21 (bt l) hb (by unfold lead; omega)).trans (by have := hf (by omega); rw [e] at this; exact this)
    · rw [e]
      exact (bg22 (bt l) hb (by unfold lead; omega)).trans (hw e)
  · rcases (show l.length = 1 ∨ l.length = 2 ∨ l.length = 3 by omega) with e | e | e
    · rw [e]
      exact (bg31 (bt l) hb (by unfold lead; omega)).trans (by have := hf (by omega); rw [e] at this; exact this)
    · rw [e]
      exact (bg32 (bt l) hb (by unfold lead; omega)).trans (by have := hf (by omega); rw [e] at this; exact this)
    · rw [e]
      exact (bg33 (bt l) hb (by unfold lead; omega)).trans (hw e)
  · rcases (show l.length = 1 ∨ l.length = 2 ∨ l.length = 3 ∨ l.length = 4 by omega) with e | e | e | e
    · rw [e]
      exact (bg41 (bt l) hb (by unfold lead; omega)).trans (by have := hf (by omega); rw [e] at this; exact this)
    · rw [e]
      exact (bg42 (bt l) hb (by unfold lead; omega)).trans (by have := hf (by omega); rw [e] at this; exact this)
    · rw [e]
      exact (bg43 (bt l) hb (by unfold lead; omega)).trans (by have := hf (by omega); rw [e] at this; exact this)
    · rw [e]
      exact (bg44 (bt l) hb (by unfold lead; omega)).trans (hw e)
theorem take_whole {l : List UInt8} {z : Nat} (hz : lead z (bt l 0)) (hl : z ≤ l.length) (h : (nx (l.take z)).2.2 ≠ 12) : nx l = (lw z z (bt l) (z - 1), z, 0) := by
  have hz' := hz
  have e := fun k => bt_take l z k
  have hlen : (l.take z).length = z := by rw [List.length_take]; omega
  have e0 : bt (l.take z) 0 = bt l 0 := e 0 (by unfold lead at hz; omega)
  rcases nx_cases (l.take z) with ⟨h0, h3⟩ | h3 | h3
  · have hs := whole_lead h3 (by rw [e0]; exact hz)
    have hn := nx_app (nx_eta h0) (l.drop z)
    rw [List.take_append_drop, hs] at hn
    rw [hn]
    rw [hs] at h3
    have : (nx (l.take z)).1 = lw z z (bt l) (z - 1) := by
      rcases hz' with ⟨rfl, hz'⟩ | ⟨rfl, hz'⟩ | ⟨rfl, hz'⟩
      · rw [lw22]
        have e1 := e 1 (by omega)
        rcases h3 with h3 | ⟨_, h3⟩ | h3 | h3 <;> omega
      · rw [lw33]
        have e1 := e 1 (by omega)
        have e2 := e 2 (by omega)
        rcases h3 with h3 | h3 | ⟨_, h3⟩ | h3 <;> omega
      · rw [lw44]
        have e1 := e 1 (by omega)
        have e2 := e 2 (by omega)
        have e3 := e 3 (by omega)
        rcases h3 with h3 | h3 | h3 | ⟨_, h3⟩ <;> omega
    rw [this]
  · exfalso
    have := front_of h3
    rw [hlen, e0] at this
    unfold Front at this
    unfold lead at hz
    omega
  · rw [h3] at h
    exact absurd rfl h
theorem whole_tail {n r s : Nat} {f : Nat → Nat} (h : Whole n (f 0) (f 1) (f 2) (f 3) r s) (i : Nat) (h1 : 1 ≤ i) (h2 : i < s) : 128 ≤ f i ∧ f i ≤ 191 := by
  rcases h with ⟨rfl, h⟩ | ⟨rfl, h⟩ | ⟨rfl, h⟩ | ⟨rfl, h⟩
  · omega
  · obtain rfl : i = 1 := by omega
    omega
  · rcases (show i = 1 ∨ i = 2 by omega) with rfl | rfl <;> omega
  · rcases (show i = 1 ∨ i = 2 ∨ i = 3 by omega) with rfl | rfl | rfl <;> omega
/-- too few bytes, all of which begin one -/
theorem few_front {l : List UInt8} {z : Nat} (hz : lead z (bt l 0)) (hl : l.length < z) (h : (nx l).2.2 ≠ 12) : nx l = (0, 0, 4) := by
  rcases nx_cases l with ⟨h0, h3⟩ | h3 | h3
  · exfalso
    have := whole_lead h3 hz
    have := (nx_facts (nx_eta h0)).2.2.2.1
    omega
  · exact h3
  · rw [h3] at h
    exact absurd rfl h
theorem not_begun {l : List UInt8} {j : Nat} (h : (nx (l.take j)).2.2 = 12) : nx l = (0, 0, 12) := by
  rcases nx_cases (l.take j) with ⟨h0, _⟩ | h3 | h3
  · rw [h0] at h; exact absurd h (by decide)
  · rw [h3] at h; exact absurd h (by decide)
  · have := nx12 h3 (l.drop j)
    rwa [List.take_append_drop] at this
end Um

theorem refBegins_at {w0 w : World} (h : Below w0.heap.size w0 w) (l : List UInt8) (z : Nat) (zi : Int) (hzi : zi = (z : Int)) (hz : Um.lead z (Um.bt l 0)) (h1 : 1 ≤ l.length) (h2 : l.length ≤ z) {b : Bool} (hb : b = decide ((Um.nx l).2.2 ≠ 12)) :
    Calls Tryz.prog 111 #[.string (S l), .int .i64 zi] w fun e w' => e = .returned (.bool b) ∧ Below w0.heap.size w0 w' :=
  from_ h (refBegins_any l z zi hzi w b hz h1 h2 (by rw [hb, decide_eq_true_eq]; exact (Um.bg_nx l z hz h1 h2).symm))
theorem S_mid (R : List UInt8) (a c : Nat) : (S R).extract a (a + c) = S ((R.drop a).take c) := by
  apply ByteArray.ext
  apply Array.toList_inj.1
  simp only [S, ByteArray.data_extract, Array.toList_extract, List.extract_eq_take_drop]
  congr 1
  omega
theorem bt_drop (l : List UInt8) (p k : Nat) : Um.bt (l.drop p) k = Um.bt l (p + k) := by
  unfold Um.bt
  simp [List.getD_eq_getElem?_getD, List.getElem?_drop]
def Ref1 (R : List UInt8) (z : Nat) (i : Value) : Prop := ∃ j : Nat, 1 ≤ j ∧ j ≤ z + 1 ∧ i = .int .i64 (j : Int) ∧ j - 1 ≤ R.length ∧ (2 ≤ j → (Um.nx (R.take (j - 1))).2.2 ≠ 12)
theorem ret_r3 {R : List UInt8} {a b c : Nat} (h : Um.nx R = (a, b, c)) : Ending.returned (.tuple #[.int .i64 (a : Int), .int .i64 (b : Int), .int .i64 (c : Int)]) = .returned (R3 (Um.nx R)) := by rw [h, R3]
def Ref2 (R : List UInt8) (z : Nat) (r i : Value) : Prop := ∃ j a : Nat, 1 ≤ j ∧ j ≤ z ∧ i = .int .i64 (j : Int) ∧ r = .int .i64 (a : Int) ∧ a = Um.lw z z (Um.bt R) (j - 1)
set_option maxRecDepth 100000 in
set_option maxHeartbeats 1600000 in
theorem refNext_any (l : List UInt8) (k : Int) (w : World) (hl : l.length ≤ 100000000) :
    Calls Tryz.prog 88 #[.string (S l), .int .i64 k] w fun e w' => e = .returned (R3 (NX l k)) ∧ Below w.heap.size w w' := by
  have z1 := S_size l
  by_cases h1 : k < 0
  · have hN : NX l k = (0, 0, 1) := by unfold NX; rw [if_pos (Or.inl h1)]
    rw [hN]
    go_enter Tryz.func88, Tryz.ntmps88
    go_wp2_with fail
    go_ret3
    exact ⟨rfl, Below.refl _ _⟩
  by_cases h2 : (l.length : Int) < k
  · have hN : NX l k = (0, 0, 1) := by unfold NX; rw [if_pos (Or.inr h2)]
    rw [hN]
    go_enter Tryz.func88, Tryz.ntmps88
    go_wp2_with fail
    go_ret3
    exact ⟨rfl, Below.refl _ _⟩
  obtain ⟨p, rfl⟩ : ∃ p : Nat, k = (p : Int) := ⟨k.toNat, by omega⟩
  have hN : NX l p = Um.nx (l.drop p) := by unfold NX; rw [if_neg (by omega), Int.toNat_natCast]
  rw [hN]
  obtain ⟨R, hR⟩ : ∃ R, R = l.drop p := ⟨_, rfl⟩
  have zR : R.length = l.length - p := by rw [hR, List.length_drop]
  by_cases h3 : p = l.length
  · have hx : Um.nx (l.drop p) = (0, 0, 4) := by
      rw [← hR]
      have : R = [] := List.length_eq_zero_iff.1 (by omega)
      rw [this]
      rfl
    rw [hx]
    have hq : ((p : Int) == (l.length : Int)) = true := by rw [beq_iff_eq]; omega
    clear hN hR zR hx h3
    go_enter Tryz.func88, Tryz.ntmps88
    go_wp2_with fail
    go_ret3
    exact ⟨rfl, Below.refl _ _⟩
  have hq : ((p : Int) == (l.length : Int)) = false := by rw [beq_eq_false_iff_ne]; omega
  have hpl : p < l.length := by omega
  have hat := S_at l
  have hb0 := Um.bt_lt l p
  have e0 : Um.bt R 0 = Um.bt l p := by rw [hR, bt_drop]; rfl
  rw [← hR]
  have ZR := Lib.hid zR
  have E0 := Lib.hid e0
  have HR := Lib.hid hR
  clear hN hR zR h3 e0
  by_cases c1 : (Um.bt l p : Int) < 128
  · have hx : Hid (Um.nx R = (Um.bt l p, 1, 0)) := by
      have h4 := ZR.out
      have h5 := E0.out
      exact Um.nxN_whole (Or.inl ⟨rfl, by omega, by omega, by omega⟩)
    rw [hx.out]
    go_enter Tryz.func88, Tryz.ntmps88
    go_wp2_with fail
    go_ret3
    exact ⟨rfl, Below.refl _ _⟩
  by_cases c2 : (Um.bt l p : Int) < 192
  · have hx : Hid (Um.nx R = (0, 0, 12)) := by
      have h4 := ZR.out
      have h5 := E0.out
      unfold Hid Um.nx Um.nxN
      rw [if_neg (by omega), if_neg (by omega), if_pos (by omega)]
    rw [hx.out]
    go_enter Tryz.func88, Tryz.ntmps88
    go_wp2_with fail
    go_ret3
    exact ⟨rfl, Below.refl _ _⟩
  by_cases c3 : (247 : Int) < (Um.bt l p : Int)
  · have hx : Hid (Um.nx R = (0, 0, 12)) := by
      have h4 := ZR.out
      have h5 := E0.out
      unfold Hid Um.nx Um.nxN
      rw [if_neg (by omega), if_neg (by omega), if_pos (by omega)]
    rw [hx.out]
    go_enter Tryz.func88, Tryz.ntmps88
    go_wp2_with fail
    go_ret3
    exact ⟨rfl, Below.refl _ _⟩
  by_cases c4 : (Um.bt l p : Int) < 224
  · skip
    have hz : Hid (Um.lead 2 (Um.bt R 0)) := by
      rw [E0.out]
      unfold Hid Um.lead
      omega
    go_enter Tryz.func88, Tryz.ntmps88
    go_wp2_with fail
    go_loopw [9] (fun i wr => Ref1 R 2 i ∧ Below w.heap.size w wr) (fun i _ => 2 + 2 - (intOf i).toNat)
    case atStart => exact ⟨⟨1, by omega, by omega, rfl, by omega, fun h => by omega⟩, Below.refl _ _⟩
    case round =>
      obtain ⟨⟨j, hj1, hj2, rfl, hj3, hj4⟩, hbel⟩ := hrel
      have HJ := Lib.hid hj4
      have hsz := hbel.size
      clear hj4
      by_cases c5 : (j : Int) ≤ 2
      · by_cases c6 : (l.length : Int) < (p : Int) + (j : Int)
        · have HX : Hid (Um.nx R = (0, 0, 4)) := by
            have h4 := ZR.out
            have h5 := HJ.out (by omega)
            rw [List.take_of_length_le (by omega)] at h5
            exact Um.few_front hz.out (by omega) h5
          go_wp2_with fail
          go_ret3
          exact ⟨ret_r3 HX.out, hbel⟩
        · have hm := S_mid l p j
          rw [← HR.out] at hm
          have h6 : p + j ≤ l.length := by omega
          have hzz := ZR.out
          have hL : Hid (Um.lead 2 (Um.bt (R.take j) 0)) := by rw [Um.bt_take _ _ _ (by omega)]; exact hz
          have hlen : (R.take j).length = j := by rw [List.length_take]; omega
          obtain ⟨b, hb⟩ : ∃ b, b = decide ((Um.nx (R.take j)).2.2 ≠ 12) := ⟨_, rfl⟩
          have HB := Lib.hid hb
          have HLEN := Lib.hid hlen
          clear hb hzz hlen
          go_wp2_with fail
          refine (refBegins_at hbel (R.take j) 2 2 rfl hL.out (by have := HLEN.out; omega) (by have := HLEN.out; omega) HB.out).mono ?_; rintro e w1 ⟨rfl, hb1⟩
          cases b
          · have HX : Hid (Um.nx R = (0, 0, 12)) := by
              have := HB.out
              exact Um.not_begun (by simpa using this.symm)
            go_wp2_with fail
            go_ret3
            exact ⟨ret_r3 HX.out, hb1⟩
          · have hX : (Um.nx (R.take j)).2.2 ≠ 12 := by
              have := HB.out
              simpa using this.symm
            have HX := Lib.hid hX
            clear hX
            go_wp2_with fail
            go_roundw
            case rel =>
              have := ZR.out
              exact ⟨⟨j + 1, by omega, by omega, rfl, by rw [Nat.add_sub_cancel]; omega, fun _ => by rw [Nat.add_sub_cancel]; exact HX.out⟩, hb1⟩
            case measure => simp [intOf]; omega
      · have hlen : Hid (2 ≤ R.length) := by unfold Hid; omega
        have HX : Hid (Um.nx R = (Um.lw 2 2 (Um.bt R) (2 - 1), 2, 0)) := by
          have h5 := HJ.out (by omega)
          rw [show j - 1 = 2 by omega] at h5
          exact Um.take_whole hz.out hlen.out h5
        have HZL := Lib.hid (show p + 2 ≤ l.length by have := ZR.out; have := hlen.out; omega)
        have HBl : Hid (192 ≤ Um.bt l p) := by
          have h5 := hz.out
          rw [E0.out] at h5
          unfold Um.lead at h5
          unfold Hid
          omega
        have HB2 : Hid (Below w.heap.size w (wr.alloc (.cells #[.int .i64 0, .int .i64 0, .int .i64 192, .int .i64 224, .int .i64 240] 3))) := hbel.alloc hsz _
        clear hj1 hj2 hj3 HJ
        go_wp2_with fail
        go_loopw [10, 11] (fun r i w2 => Ref2 R 2 r i ∧ w2 = wr.alloc (.cells #[.int .i64 0, .int .i64 0, .int .i64 192, .int .i64 224, .int .i64 240] 3)) (fun _ i _ => 2 + 2 - (intOf i).toNat)
        case atStart =>
          refine ⟨⟨1, Um.bt R 0 - Um.bs 2, Nat.le_refl _, by decide, rfl, ?_, rfl⟩, rfl⟩
          rw [E0.out, show Um.bs 2 = 192 from rfl]
          congr 1
          have := HBl.out
          omega
        case round =>
          obtain ⟨⟨q, a, hq1, hq2, rfl, rfl, ha⟩, rfl⟩ := hrel
          have HA := Lib.hid ha
          have bA : a ≤ 100000000 := by rw [ha]; exact (Um.lw_bd _ _ _ (Um.bt_lt R) _ (by omega)).1
          clear ha
          by_cases c7 : (q : Int) < 2
          · have h8 : p + q < l.length := by have := HZL.out; omega
            have e9 : Um.bt R q = Um.bt l (p + q) := by rw [HR.out, bt_drop]
            have hy : 128 ≤ Um.bt R q ∧ Um.bt R q ≤ 191 := Um.whole_tail (Um.whole_of HX.out) q hq1 (by omega)
            have hy1 : 128 ≤ Um.bt l (p + q) := by omega
            have hy2 : Um.bt l (p + q) ≤ 191 := by omega
            have E9 := Lib.hid e9
            clear e9 hy
            go_wp2_with fail
            go_roundw
            case rel =>
              refine ⟨⟨q + 1, 64 * a + (Um.bt l (p + q) - 128), by omega, by omega, rfl, ?_, ?_⟩, by first | trivial | rfl⟩
              · congr 1; omega
              · rw [Nat.add_sub_cancel, HA.out]
                obtain ⟨t, rfl⟩ : ∃ t, q = t + 1 := ⟨q - 1, by omega⟩
                rw [Nat.add_sub_cancel, Um.lw, if_pos (by omega), E9.out]
            case measure => simp [intOf]; omega
          · have HX2 : Hid (Um.nx R = (a, 2, 0)) := by
              have := HX.out
              rw [HA.out, show q = 2 by omega]
              exact this
            go_wp2_with fail
            go_ret3
            exact ⟨ret_r3 HX2.out, HB2.out⟩
  by_cases c5 : (Um.bt l p : Int) < 240
  · skip
    have hz : Hid (Um.lead 3 (Um.bt R 0)) := by
      rw [E0.out]
      unfold Hid Um.lead
      omega
    go_enter Tryz.func88, Tryz.ntmps88
    go_wp2_with fail
    go_loopw [9] (fun i wr => Ref1 R 3 i ∧ Below w.heap.size w wr) (fun i _ => 3 + 2 - (intOf i).toNat)
    case atStart => exact ⟨⟨1, by omega, by omega, rfl, by omega, fun h => by omega⟩, Below.refl _ _⟩
    case round =>
      obtain ⟨⟨j, hj1, hj2, rfl, hj3, hj4⟩, hbel⟩ := hrel
      have HJ := Lib.hid hj4
      have hsz := hbel.size
      clear hj4
      by_cases c5 : (j : Int) ≤ 3
      · by_cases c6 : (l.length : Int) < (p : Int) + (j : Int)
        · have HX : Hid (Um.nx R = (0, 0, 4)) := by
            have h4 := ZR.out
            have h5 := HJ.out (by omega)
            rw [List.take_of_length_le (by omega)] at h5
            exact Um.few_front hz.out (by omega) h5
          go_wp2_with fail
          go_ret3
          exact ⟨ret_r3 HX.out, hbel⟩
        · have hm := S_mid l p j
          rw [← HR.out] at hm
          have h6 : p + j ≤ l.length := by omega
          have hzz := ZR.out
          have hL : Hid (Um.lead 3 (Um.bt (R.take j) 0)) := by rw [Um.bt_take _ _ _ (by omega)]; exact hz
          have hlen : (R.take j).length = j := by rw [List.length_take]; omega
          obtain ⟨b, hb⟩ : ∃ b, b = decide ((Um.nx (R.take j)).2.2 ≠ 12) := ⟨_, rfl⟩
          have HB := Lib.hid hb
          have HLEN := Lib.hid hlen
          clear hb hzz hlen
          go_wp2_with fail
          refine (refBegins_at hbel (R.take j) 3 3 rfl hL.out (by have := HLEN.out; omega) (by have := HLEN.out; omega) HB.out).mono ?_; rintro e w1 ⟨rfl, hb1⟩
          cases b
          · have HX : Hid (Um.nx R = (0, 0, 12)) := by
              have := HB.out
              exact Um.not_begun (by simpa using this.symm)
            go_wp2_with fail
            go_ret3
            exact ⟨ret_r3 HX.out, hb1⟩
          · have hX : (Um.nx (R.take j)).2.2 ≠ 12 := by
              have := HB.out
              simpa using this.symm
            have HX := Lib.hid hX
            clear hX
            go_wp2_with fail
            go_roundw
            case rel =>
              have := ZR.out
              exact ⟨⟨j + 1, by omega, by omega, rfl, by rw [Nat.add_sub_cancel]; omega, fun _ => by rw [Nat.add_sub_cancel]; exact HX.out⟩, hb1⟩
            case measure => simp [intOf]; omega
      · have hlen : Hid (3 ≤ R.length) := by unfold Hid; omega
        have HX : Hid (Um.nx R = (Um.lw 3 3 (Um.bt R) (3 - 1), 3, 0)) := by
          have h5 := HJ.out (by omega)
          rw [show j - 1 = 3 by omega] at h5
          exact Um.take_whole hz.out hlen.out h5
        have HZL := Lib.hid (show p + 3 ≤ l.length by have := ZR.out; have := hlen.out; omega)
        have HBl : Hid (224 ≤ Um.bt l p) := by
          have h5 := hz.out
          rw [E0.out] at h5
          unfold Um.lead at h5
          unfold Hid
          omega
        have HB2 : Hid (Below w.heap.size w (wr.alloc (.cells #[.int .i64 0, .int .i64 0, .int .i64 192, .int .i64 224, .int .i64 240] 3))) := hbel.alloc hsz _
        clear hj1 hj2 hj3 HJ
        go_wp2_with fail
        go_loopw [10, 11] (fun r i w2 => Ref2 R 3 r i ∧ w2 = wr.alloc (.cells #[.int .i64 0, .int .i64 0, .int .i64 192, .int .i64 224, .int .i64 240] 3)) (fun _ i _ => 3 + 2 - (intOf i).toNat)
        case atStart =>
          refine ⟨⟨1, Um.bt R 0 - Um.bs 3, Nat.le_refl _, by decide, rfl, ?_, rfl⟩, rfl⟩
          rw [E0.out, show Um.bs 3 = 224 from rfl]
          congr 1
          have := HBl.out
          omega
        case round =>
          obtain ⟨⟨q, a, hq1, hq2, rfl, rfl, ha⟩, rfl⟩ := hrel
          have HA := Lib.hid ha
          have bA : a ≤ 100000000 := by rw [ha]; exact (Um.lw_bd _ _ _ (Um.bt_lt R) _ (by omega)).1
          clear ha
          by_cases c7 : (q : Int) < 3
          · have h8 : p + q < l.length := by have := HZL.out; omega
            have e9 : Um.bt R q = Um.bt l (p + q) := by rw [HR.out, bt_drop]
            have hy : 128 ≤ Um.bt R q ∧ Um.bt R q ≤ 191 := Um.whole_tail (Um.whole_of HX.out) q hq1 (by omega)
            have hy1 : 128 ≤ Um.bt l (p + q) := by omega
            have hy2 : Um.bt l (p + q) ≤ 191 := by omega
            have E9 := Lib.hid e9
            clear e9 hy
            go_wp2_with fail
            go_roundw
            case rel =>
              refine ⟨⟨q + 1, 64 * a + (Um.bt l (p + q) - 128), by omega, by omega, rfl, ?_, ?_⟩, by first | trivial | rfl⟩
              · congr 1; omega
              · rw [Nat.add_sub_cancel, HA.out]
                obtain ⟨t, rfl⟩ : ∃ t, q = t + 1 := ⟨q - 1, by omega⟩
                rw [Nat.add_sub_cancel, Um.lw, if_pos (by omega), E9.out]
            case measure => simp [intOf]; omega
          · have HX2 : Hid (Um.nx R = (a, 3, 0)) := by
              have := HX.out
              rw [HA.out, show q = 3 by omega]
              exact this
            go_wp2_with fail
            go_ret3
            exact ⟨ret_r3 HX2.out, HB2.out⟩
  · skip
    have hz : Hid (Um.lead 4 (Um.bt R 0)) := by
      rw [E0.out]
      unfold Hid Um.lead
      omega
    go_enter Tryz.func88, Tryz.ntmps88
    go_wp2_with fail
    go_loopw [9] (fun i wr => Ref1 R 4 i ∧ Below w.heap.size w wr) (fun i _ => 4 + 2 - (intOf i).toNat)
    case atStart => exact ⟨⟨1, by omega, by omega, rfl, by omega, fun h => by omega⟩, Below.refl _ _⟩
    case round =>
      obtain ⟨⟨j, hj1, hj2, rfl, hj3, hj4⟩, hbel⟩ := hrel
      have HJ := Lib.hid hj4
      have hsz := hbel.size
      clear hj4
      by_cases c5 : (j : Int) ≤ 4
      · by_cases c6 : (l.length : Int) < (p : Int) + (j : Int)
        · have HX : Hid (Um.nx R = (0, 0, 4)) := by
            have h4 := ZR.out
            have h5 := HJ.out (by omega)
            rw [List.take_of_length_le (by omega)] at h5
            exact Um.few_front hz.out (by omega) h5
          go_wp2_with fail
          go_ret3
          exact ⟨ret_r3 HX.out, hbel⟩
        · have hm := S_mid l p j
          rw [← HR.out] at hm
          have h6 : p + j ≤ l.length := by omega
          have hzz := ZR.out
          have hL : Hid (Um.lead 4 (Um.bt (R.take j) 0)) := by rw [Um.bt_take _ _ _ (by omega)]; exact hz
          have hlen : (R.take j).length = j := by rw [List.length_take]; omega
          obtain ⟨b, hb⟩ : ∃ b, b = decide ((Um.nx (R.take j)).2.2 ≠ 12) := ⟨_, rfl⟩
          have HB := Lib.hid hb
          have HLEN := Lib.hid hlen
          clear hb hzz hlen
          go_wp2_with fail
          refine (refBegins_at hbel (R.take j) 4 4 rfl hL.out (by have := HLEN.out; omega) (by have := HLEN.out; omega) HB.out).mono ?_; rintro e w1 ⟨rfl, hb1⟩
          cases b
          · have HX : Hid (Um.nx R = (0, 0, 12)) := by
              have := HB.out
              exact Um.not_begun (by simpa using this.symm)
            go_wp2_with fail
            go_ret3
            exact ⟨ret_r3 HX.out, hb1⟩
          · have hX : (Um.nx (R.take j)).2.2 ≠ 12 := by
              have := HB.out
              simpa using this.symm
            have HX := Lib.hid hX
            clear hX
            go_wp2_with fail
            go_roundw
            case rel =>
              have := ZR.out
              exact ⟨⟨j + 1, by omega, by omega, rfl, by rw [Nat.add_sub_cancel]; omega, fun _ => by rw [Nat.add_sub_cancel]; exact HX.out⟩, hb1⟩
            case measure => simp [intOf]; omega
      · have hlen : Hid (4 ≤ R.length) := by unfold Hid; omega
        have HX : Hid (Um.nx R = (Um.lw 4 4 (Um.bt R) (4 - 1), 4, 0)) := by
          have h5 := HJ.out (by omega)
          rw [show j - 1 = 4 by omega] at h5
          exact Um.take_whole hz.out hlen.out h5
        have HZL := Lib.hid (show p + 4 ≤ l.length by have := ZR.out; have := hlen.out; omega)
        have HBl : Hid (240 ≤ Um.bt l p) := by
          have h5 := hz.out
          rw [E0.out] at h5
          unfold Um.lead at h5
          unfold Hid
          omega
        have HB2 : Hid (Below w.heap.size w (wr.alloc (.cells #[.int .i64 0, .int .i64 0, .int .i64 192, .int .i64 224, .int .i64 240] 3))) := hbel.alloc hsz _
        clear hj1 hj2 hj3 HJ
        go_wp2_with fail
        go_loopw [10, 11] (fun r i w2 => Ref2 R 4 r i ∧ w2 = wr.alloc (.cells #[.int .i64 0, .int .i64 0, .int .i64 192, .int .i64 224, .int .i64 240] 3)) (fun _ i _ => 4 + 2 - (intOf i).toNat)
        case atStart =>
          refine ⟨⟨1, Um.bt R 0 - Um.bs 4, Nat.le_refl _, by decide, rfl, ?_, rfl⟩, rfl⟩
          rw [E0.out, show Um.bs 4 = 240 from rfl]
          congr 1
          have := HBl.out
          omega
        case round =>
          obtain ⟨⟨q, a, hq1, hq2, rfl, rfl, ha⟩, rfl⟩ := hrel
          have HA := Lib.hid ha
          have bA : a ≤ 100000000 := by rw [ha]; exact (Um.lw_bd _ _ _ (Um.bt_lt R) _ (by omega)).1
          clear ha
          by_cases c7 : (q : Int) < 4
          · have h8 : p + q < l.length := by have := HZL.out; omega
            have e9 : Um.bt R q = Um.bt l (p + q) := by rw [HR.out, bt_drop]
            have hy : 128 ≤ Um.bt R q ∧ Um.bt R q ≤ 191 := Um.whole_tail (Um.whole_of HX.out) q hq1 (by omega)
            have hy1 : 128 ≤ Um.bt l (p + q) := by omega
            have hy2 : Um.bt l (p + q) ≤ 191 := by omega
            have E9 := Lib.hid e9
            clear e9 hy
            go_wp2_with fail
            go_roundw
            case rel =>
              refine ⟨⟨q + 1, 64 * a + (Um.bt l (p + q) - 128), by omega, by omega, rfl, ?_, ?_⟩, by first | trivial | rfl⟩
              · congr 1; omega
              · rw [Nat.add_sub_cancel, HA.out]
                obtain ⟨t, rfl⟩ : ∃ t, q = t + 1 := ⟨q - 1, by omega⟩
                rw [Nat.add_sub_cancel, Um.lw, if_pos (by omega), E9.out]
            case measure => simp [intOf]; omega
          · have HX2 : Hid (Um.nx R = (a, 4, 0)) := by
              have := HX.out
              rw [HA.out, show q = 4 by omega]
              exact this
            go_wp2_with fail
            go_ret3
            exact ⟨ret_r3 HX2.out, HB2.out⟩
theorem refNext_at {w0 w : World} (h : Below w0.heap.size w0 w) (l : List UInt8) (k : Int) (hl : l.length ≤ 100000000) {x : Nat × Nat × Nat} (hx : NX l k = x) :
    Calls Tryz.prog 88 #[.string (S l), .int .i64 k] w fun e w' => e = .returned (.tuple #[.int .i64 (x.1 : Int), .int .i64 (x.2.1 : Int), .int .i64 (x.2.2 : Int)]) ∧ Below w0.heap.size w0 w' := by
  subst hx
  exact from_ h (refNext_any l k w hl)
theorem NX_in (l : List UInt8) (p : Nat) (h : p ≤ l.length) : NX l (p : Int) = Um.nx (l.drop p) := by unfold NX; rw [if_neg (by omega), Int.toNat_natCast]
set_option maxHeartbeats 400000 in
theorem refLen_any (l : List UInt8) (w : World) (hl : l.length ≤ 100000000) :
    Calls Tryz.prog 72 #[.string (S l)] w fun e w' => e = .returned (.tuple #[.int .i64 ((LEN l).1 : Int), .bool (LEN l).2]) ∧ Below w.heap.size w w' := by
  have z1 := S_size l
  go_enter Tryz.func72, Tryz.ntmps72
  go_wp2_with fail
  go_loopw [4, 5, 6, 7, 8] (fun n i _ _ _ wr => ∃ p k : Nat, i = .int .i64 (p : Int) ∧ n = .int .i64 (k : Int) ∧ p ≤ l.length ∧ k ≤ p ∧ Um.cnt l = (Um.cnt (l.drop p)).map (· + k) ∧ Below w.heap.size w wr) (fun _ i _ _ _ _ => l.length - (intOf i).toNat)
  case atStart => exact ⟨0, 0, rfl, rfl, Nat.zero_le _, Nat.le_refl _, by simp, Below.refl _ _⟩
  case round =>
    obtain ⟨p, k, rfl, rfl, hp, hk, hc, hbel⟩ := hrel
    have HC := Lib.hid hc
    clear hc
    by_cases hlt : p < l.length
    · obtain ⟨R, hR⟩ : ∃ R, R = l.drop p := ⟨_, rfl⟩
      have zR : R.length = l.length - p := by rw [hR, List.length_drop]
      have hN := NX_in l p hp
      rw [← hR] at hN
      by_cases h0 : (Um.nx R).2.2 = 0
      · have hx1 := Um.nx_eta h0
        obtain ⟨r, hr⟩ : ∃ r, r = (Um.nx R).1 := ⟨_, rfl⟩
        obtain ⟨z, hz⟩ : ∃ z, z = (Um.nx R).2.1 := ⟨_, rfl⟩
        rw [← hr, ← hz] at hx1
        have hfx := Um.nx_facts hx1
        rw [hx1] at hN
        have HR : Hid (Um.cnt l = (Um.cnt (l.drop (p + z))).map (· + (k + 1))) := by
          unfold Hid
          rw [HC.out, ← hR, Um.cnt_ok hx1, hR, List.drop_drop, Option.map_map]
          congr 1
          funext x
          simp only [Function.comp]
          omega
        have HZ := Lib.hid hfx.2.2
        have HZR := Lib.hid zR
        have HN := Lib.hid hN
        have hz4 : z ≤ 4 := hfx.2.2.2.2.2
        clear hx1 h0 hr hz hfx hR zR HC hN
        go_wp2_with fail
        refine (refNext_at hbel l p hl HN.out).mono ?_; rintro e w1 ⟨rfl, hb1⟩
        go_wp2_with fail
        go_roundw
        case rel =>
          have := HZ.out
          have := HZR.out
          exact ⟨p + z, k + 1, by go_num, by go_num, by omega, by omega, HR.out, hb1⟩
        case measure =>
          have := HZ.out
          simp [intOf]
          omega
      · have HR : Hid (LEN l = (0, false)) := by
          apply LEN_none
          rw [HC.out, ← hR, Um.cnt_no h0 (by omega)]
          rfl
        obtain ⟨e, he⟩ : ∃ e : Nat, e = (Um.nx R).2.2 := ⟨_, rfl⟩
        have hne : ((e : Int) != 0) = true := by rw [bne_iff_ne]; omega
        have HE := Lib.hid he
        have HN := Lib.hid hN
        clear h0 hR zR HC hN he
        go_wp2_with fail
        refine (refNext_at hbel l p hl HN.out).mono ?_; rintro e w1 ⟨rfl, hb1⟩
        rw [← HE.out]
        go_wp2_with fail
        go_ret2
        exact ⟨ret_len HR.out, hb1⟩
    · have HR : Hid (LEN l = (k, true)) := by
        apply LEN_some
        rw [HC.out, drop_end l p hlt]
        simp
      clear HC
      go_wp2_with fail
      go_ret2
      exact ⟨ret_len HR.out, hbel⟩
theorem refLen_at {w0 w : World} (h : Below w0.heap.size w0 w) (l : List UInt8) (hl : l.length ≤ 100000000) {x : Nat × Bool} (hx : LEN l = x) :
    Calls Tryz.prog 72 #[.string (S l)] w fun e w' => e = .returned (.tuple #[.int .i64 (x.1 : Int), .bool x.2]) ∧ Below w0.heap.size w0 w' := by
  subst hx
  exact from_ h (refLen_any l w hl)
end Go.Proofs.YtpifbmcgadjhbaaGreatDoor
