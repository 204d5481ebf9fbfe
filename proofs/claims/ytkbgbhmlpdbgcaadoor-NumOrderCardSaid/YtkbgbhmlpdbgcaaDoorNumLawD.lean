/-
  NumOrder.
-/
import Derived.Test.YtkbgbhmlpdbgcaaDoorNumOrd
namespace Go.Proofs.YtkbgbhmlpdbgcaaDoor
open Go.RowKit
open Go.Lib (itoa decDigits)

set_option maxHeartbeats 4000000 in
set_option maxRecDepth 3000 in
theorem law_NumOrder (a b : Int) (w : World) (ha : -9223372036854775808 ≤ a ∧ a ≤ 9223372036854775807) (hb : -9223372036854775808 ≤ b ∧ b ≤ 9223372036854775807) (hT : TabN w) :
    Calls Tryd.prog 7 #[.int .i64 a, .int .i64 b] w fun e w' => e = .returned (.bool true) ∧ Below w.heap.size w w' := by
  have cA := fun w hT => Show_any a w hT ha.1 ha.2
  have cB := fun w hT => Show_any b w hT hb.1 hb.2
  obtain ⟨a0, a45, a46⟩ := Nm.first_itoa a
  obtain ⟨b0, _, _⟩ := Nm.first_itoa b
  obtain ⟨ae, ae'⟩ := Tx_full (itoa a) a0
  obtain ⟨be, be'⟩ := Tx_full (itoa b) b0
  have hat := Tx_at (itoa a)
  have zA := S_size (itoa a)
  have zB := S_size (itoa b)
  have hLS := fun hs => Nm.less_itoa (a := a) (b := b) hs
  have heq : ((S (itoa a)).toList == (S (itoa b)).toList) = decide (a = b) := by
    rw [S_toList, S_toList, Bool.eq_iff_iff, beq_iff_eq, decide_eq_true_eq]
    exact ⟨Nm.itoa_inj, fun h => by rw [h]⟩
  have la : (itoa a).length ≤ 21 := Go.Lib.itoa_length_le a ha.1 ha.2
  have lb : (itoa b).length ≤ 21 := Go.Lib.itoa_length_le b hb.1 hb.2
  by_cases hab : a = b
  · subst hab
    have hq : ((S (itoa a)).toList == (S (itoa a)).toList) = true := by rw [heq]; exact decide_eq_true rfl
    have hn : (a == a) = true := beq_self_eq_true a
    clear heq hLS
    generalize itoa a = I at *
    by_cases hs : a < 0
    · have h45 := a45 hs
      clear a45 a46
      go_enter Tryd.func7, Tryd.ntmps7
      go_wp2_with fail
      refine (cA w hT).mono ?_; rintro e w1 ⟨rfl, b1⟩
      have T1 := hT.below b1
      go_wp2_with fail
      refine (cB w1 T1).mono ?_; rintro e w2 ⟨rfl, b2⟩
      have c2 := b1.trans (b2.mono b1.size)
      clear b1 b2 T1
      go_wp2_with fail
      refine (awake_any w2 (hT.below c2)).mono ?_; rintro e w3 ⟨rfl, b3⟩
      have c3 := c2.trans (b3.mono c2.size)
      clear b3 c2
      go_wp2_with fail
      go_ret
      exact ⟨ret_bool (by first | rfl | (simp; done) | (simp; omega)), c3⟩
    · have h45 : ((Tx.bt I 0 : Int) == 45) = false := beq_eq_false_iff_ne.2 (by have := a46 hs; omega)
      clear a45 a46
      go_enter Tryd.func7, Tryd.ntmps7
      go_wp2_with fail
      refine (cA w hT).mono ?_; rintro e w1 ⟨rfl, b1⟩
      have T1 := hT.below b1
      go_wp2_with fail
      refine (cB w1 T1).mono ?_; rintro e w2 ⟨rfl, b2⟩
      have c2 := b1.trans (b2.mono b1.size)
      clear b1 b2 T1
      go_wp2_with fail
      refine (awake_any w2 (hT.below c2)).mono ?_; rintro e w3 ⟨rfl, b3⟩
      have c3 := c2.trans (b3.mono c2.size)
      clear b3 c2
      go_wp2_with fail
      go_ret
      exact ⟨ret_bool (by first | rfl | (simp; done) | (simp; omega)), c3⟩
  have hq : ((S (itoa a)).toList == (S (itoa b)).toList) = false := by rw [heq]; exact decide_eq_false hab
  have hn : (a == b) = false := beq_eq_false_iff_ne.2 hab
  clear heq
  have hLL : ∀ L, Op.bytesLess (S (itoa a)).toList (S (itoa b)).toList = L → (a < 0 ↔ b < 0) → (decide ((itoa a).length < (itoa b).length) || (decide ((itoa a).length = (itoa b).length) && L)) = if a < 0 then decide (b < a) else decide (a < b) := fun L hL hs => by
    rw [S_toList, S_toList] at hL
    rw [← hL]
    exact hLS hs
  clear hLS
  generalize itoa a = I at *
  generalize itoa b = J at *
  by_cases hs : a < 0
  · have h45 := a45 hs
    clear a45 a46
    by_cases hr : b < 0
    · have hL := fun L h => hLL L h (by omega)
      clear hLL
      simp only [if_pos hs] at hL
      by_cases hc : a < b
      · have hd : ¬ b < a := by omega
        generalize hbl : Op.bytesLess (S I).toList (S J).toList = L at *
        have hv := hL L rfl
        clear hL
        rw [decide_eq_false (hd)] at hv
        have hl : ¬ I.length < J.length := fun h => by rw [decide_eq_true h] at hv; cases hv
        have hli : ¬ (I.length : Int) < (J.length : Int) := by omega
        by_cases hle : I.length = J.length
        · rw [decide_eq_false hl, decide_eq_true hle, Bool.false_or, Bool.true_and] at hv
          subst hv
          have hlb : ((I.length : Int) == (J.length : Int)) = true := beq_iff_eq.2 (by omega)
          go_enter Tryd.func7, Tryd.ntmps7
          go_wp2_with fail
          refine (cA w hT).mono ?_; rintro e w1 ⟨rfl, b1⟩
          have T1 := hT.below b1
          go_wp2_with fail
          refine (cB w1 T1).mono ?_; rintro e w2 ⟨rfl, b2⟩
          have c2 := b1.trans (b2.mono b1.size)
          clear b1 b2 T1
          go_wp2_with fail
          refine (awake_any w2 (hT.below c2)).mono ?_; rintro e w3 ⟨rfl, b3⟩
          have c3 := c2.trans (b3.mono c2.size)
          clear b3 c2
          go_wp2_with fail
          go_ret
          exact ⟨ret_bool (by first | rfl | (simp; done) | (simp; omega)), c3⟩
        · have hlb : ((I.length : Int) == (J.length : Int)) = false := beq_eq_false_iff_ne.2 (by omega)
          clear hv
          go_enter Tryd.func7, Tryd.ntmps7
          go_wp2_with fail
          refine (cA w hT).mono ?_; rintro e w1 ⟨rfl, b1⟩
          have T1 := hT.below b1
          go_wp2_with fail
          refine (cB w1 T1).mono ?_; rintro e w2 ⟨rfl, b2⟩
          have c2 := b1.trans (b2.mono b1.size)
          clear b1 b2 T1
          go_wp2_with fail
          refine (awake_any w2 (hT.below c2)).mono ?_; rintro e w3 ⟨rfl, b3⟩
          have c3 := c2.trans (b3.mono c2.size)
          clear b3 c2
          go_wp2_with fail
          go_ret
          exact ⟨ret_bool (by first | rfl | (simp; done) | (simp; omega)), c3⟩
      · have hd : b < a := by omega
        generalize hbl : Op.bytesLess (S I).toList (S J).toList = L at *
        have hv := hL L rfl
        clear hL
        rw [decide_eq_true (hd)] at hv
        by_cases hl : I.length < J.length
        · have hli : (I.length : Int) < (J.length : Int) := by omega
          clear hv
          go_enter Tryd.func7, Tryd.ntmps7
          go_wp2_with fail
          refine (cA w hT).mono ?_; rintro e w1 ⟨rfl, b1⟩
          have T1 := hT.below b1
          go_wp2_with fail
          refine (cB w1 T1).mono ?_; rintro e w2 ⟨rfl, b2⟩
          have c2 := b1.trans (b2.mono b1.size)
          clear b1 b2 T1
          go_wp2_with fail
          refine (awake_any w2 (hT.below c2)).mono ?_; rintro e w3 ⟨rfl, b3⟩
          have c3 := c2.trans (b3.mono c2.size)
          clear b3 c2
          go_wp2_with fail
          go_ret
          exact ⟨ret_bool (by first | rfl | (simp; done) | (simp; omega)), c3⟩
        · have hle : I.length = J.length := Classical.byContradiction fun h => by rw [decide_eq_false hl, decide_eq_false h] at hv; cases hv
          rw [decide_eq_false hl, decide_eq_true hle, Bool.false_or, Bool.true_and] at hv
          subst hv
          have hli : ¬ (I.length : Int) < (J.length : Int) := by omega
          have hlb : ((I.length : Int) == (J.length : Int)) = true := beq_iff_eq.2 (by omega)
          go_enter Tryd.func7, Tryd.ntmps7
          go_wp2_with fail
          refine (cA w hT).mono ?_; rintro e w1 ⟨rfl, b1⟩
          have T1 := hT.below b1
          go_wp2_with fail
          refine (cB w1 T1).mono ?_; rintro e w2 ⟨rfl, b2⟩
          have c2 := b1.trans (b2.mono b1.size)
          clear b1 b2 T1
          go_wp2_with fail
          refine (awake_any w2 (hT.below c2)).mono ?_; rintro e w3 ⟨rfl, b3⟩
          have c3 := c2.trans (b3.mono c2.size)
          clear b3 c2
          go_wp2_with fail
          go_ret
          exact ⟨ret_bool (by first | rfl | (simp; done) | (simp; omega)), c3⟩
    · clear hLL
      go_enter Tryd.func7, Tryd.ntmps7
      go_wp2_with fail
      refine (cA w hT).mono ?_; rintro e w1 ⟨rfl, b1⟩
      have T1 := hT.below b1
      go_wp2_with fail
      refine (cB w1 T1).mono ?_; rintro e w2 ⟨rfl, b2⟩
      have c2 := b1.trans (b2.mono b1.size)
      clear b1 b2 T1
      go_wp2_with fail
      refine (awake_any w2 (hT.below c2)).mono ?_; rintro e w3 ⟨rfl, b3⟩
      have c3 := c2.trans (b3.mono c2.size)
      clear b3 c2
      go_wp2_with fail
      go_ret
      exact ⟨ret_bool (by first | rfl | (simp; done) | (simp; omega)), c3⟩
  · have h45 : ((Tx.bt I 0 : Int) == 45) = false := beq_eq_false_iff_ne.2 (by have := a46 hs; omega)
    clear a45 a46
    by_cases hr : b < 0
    · clear hLL
      go_enter Tryd.func7, Tryd.ntmps7
      go_wp2_with fail
      refine (cA w hT).mono ?_; rintro e w1 ⟨rfl, b1⟩
      have T1 := hT.below b1
      go_wp2_with fail
      refine (cB w1 T1).mono ?_; rintro e w2 ⟨rfl, b2⟩
      have c2 := b1.trans (b2.mono b1.size)
      clear b1 b2 T1
      go_wp2_with fail
      refine (awake_any w2 (hT.below c2)).mono ?_; rintro e w3 ⟨rfl, b3⟩
      have c3 := c2.trans (b3.mono c2.size)
      clear b3 c2
      go_wp2_with fail
      go_ret
      exact ⟨ret_bool (by first | rfl | (simp; done) | (simp; omega)), c3⟩
    · have hL := fun L h => hLL L h (by omega)
      clear hLL
      simp only [if_neg hs] at hL
      by_cases hc : a < b
      · have hd : ¬ b < a := by omega
        generalize hbl : Op.bytesLess (S I).toList (S J).toList = L at *
        have hv := hL L rfl
        clear hL
        rw [decide_eq_true (hc)] at hv
        by_cases hl : I.length < J.length
        · have hli : (I.length : Int) < (J.length : Int) := by omega
          clear hv
          go_enter Tryd.func7, Tryd.ntmps7
          go_wp2_with fail
          refine (cA w hT).mono ?_; rintro e w1 ⟨rfl, b1⟩
          have T1 := hT.below b1
          go_wp2_with fail
          refine (cB w1 T1).mono ?_; rintro e w2 ⟨rfl, b2⟩
          have c2 := b1.trans (b2.mono b1.size)
          clear b1 b2 T1
          go_wp2_with fail
          refine (awake_any w2 (hT.below c2)).mono ?_; rintro e w3 ⟨rfl, b3⟩
          have c3 := c2.trans (b3.mono c2.size)
          clear b3 c2
          go_wp2_with fail
          go_ret
          exact ⟨ret_bool (by first | rfl | (simp; done) | (simp; omega)), c3⟩
        · have hle : I.length = J.length := Classical.byContradiction fun h => by rw [decide_eq_false hl, decide_eq_false h] at hv; cases hv
          rw [decide_eq_false hl, decide_eq_true hle, Bool.false_or, Bool.true_and] at hv
          subst hv
          have hli : ¬ (I.length : Int) < (J.length : Int) := by omega
          have hlb : ((I.length : Int) == (J.length : Int)) = true := beq_iff_eq.2 (by omega)
          go_enter Tryd.func7, Tryd.ntmps7
          go_wp2_with fail
          refine (cA w hT).mono ?_; rintro e w1 ⟨rfl, b1⟩
          have T1 := hT.below b1
          go_wp2_with fail
          refine (cB w1 T1).mono ?_; rintro e w2 ⟨rfl, b2⟩
          have c2 := b1.trans (b2.mono b1.size)
          clear b1 b2 T1
          go_wp2_with fail
          refine (awake_any w2 (hT.below c2)).mono ?_; rintro e w3 ⟨rfl, b3⟩
          have c3 := c2.trans (b3.mono c2.size)
          clear b3 c2
          go_wp2_with fail
          go_ret
          exact ⟨ret_bool (by first | rfl | (simp; done) | (simp; omega)), c3⟩
      · have hd : b < a := by omega
        generalize hbl : Op.bytesLess (S I).toList (S J).toList = L at *
        have hv := hL L rfl
        clear hL
        rw [decide_eq_false (hc)] at hv
        have hl : ¬ I.length < J.length := fun h => by rw [decide_eq_true h] at hv; cases hv
        have hli : ¬ (I.length : Int) < (J.length : Int) := by omega
        by_cases hle : I.length = J.length
        · rw [decide_eq_false hl, decide_eq_true hle, Bool.false_or, Bool.true_and] at hv
          subst hv
          have hlb : ((I.length : Int) == (J.length : Int)) = true := beq_iff_eq.2 (by omega)
          go_enter Tryd.func7, Tryd.ntmps7
          go_wp2_with fail
          refine (cA w hT).mono ?_; rintro e w1 ⟨rfl, b1⟩
          have T1 := hT.below b1
          go_wp2_with fail
          refine (cB w1 T1).mono ?_; rintro e w2 ⟨rfl, b2⟩
          have c2 := b1.trans (b2.mono b1.size)
          clear b1 b2 T1
          go_wp2_with fail
          refine (awake_any w2 (hT.below c2)).mono ?_; rintro e w3 ⟨rfl, b3⟩
          have c3 := c2.trans (b3.mono c2.size)
          clear b3 c2
          go_wp2_with fail
          go_ret
          exact ⟨ret_bool (by first | rfl | (simp; done) | (simp; omega)), c3⟩
        · have hlb : ((I.length : Int) == (J.length : Int)) = false := beq_eq_false_iff_ne.2 (by omega)
          clear hv
          go_enter Tryd.func7, Tryd.ntmps7
          go_wp2_with fail
          refine (cA w hT).mono ?_; rintro e w1 ⟨rfl, b1⟩
          have T1 := hT.below b1
          go_wp2_with fail
          refine (cB w1 T1).mono ?_; rintro e w2 ⟨rfl, b2⟩
          have c2 := b1.trans (b2.mono b1.size)
          clear b1 b2 T1
          go_wp2_with fail
          refine (awake_any w2 (hT.below c2)).mono ?_; rintro e w3 ⟨rfl, b3⟩
          have c3 := c2.trans (b3.mono c2.size)
          clear b3 c2
          go_wp2_with fail
          go_ret
          exact ⟨ret_bool (by first | rfl | (simp; done) | (simp; omega)), c3⟩
end Go.Proofs.YtkbgbhmlpdbgcaaDoor
