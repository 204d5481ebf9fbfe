/-
  NumBack.
-/
import Derived.Test.YtkbgbhmlpdbgcaaDoorNumLawB
import Derived.Lib.QuietBelow
namespace Go.Proofs.YtkbgbhmlpdbgcaaDoor
open Go.RowKit
open Go.Lib (itoa)

theorem Nm.txt_mid {A I B : List UInt8} (hI : I.all Nm.more = true) (hB : ∀ d r, B = d :: r → Nm.more d = false) : Nm.txt (A ++ (I ++ B)) A.length = I := by
  unfold Nm.txt
  rw [List.drop_left]
  induction I with
  | nil =>
    cases B with
    | nil => rfl
    | cons d r => rw [List.nil_append, List.takeWhile_cons, if_neg (by rw [hB d r rfl]; exact Bool.false_ne_true)]
  | cons a r ih =>
    simp only [List.all_cons, Bool.and_eq_true] at hI
    rw [List.cons_append, List.takeWhile_cons, if_pos hI.1, ih hI.2]
theorem Nm.READ_mid {A B : List UInt8} {n : Int} (h : -9223372036854775808 ≤ n ∧ n ≤ 9223372036854775807) (hB : ∀ d r, B = d :: r → Nm.more d = false) :
    Nm.READ (A ++ (itoa n ++ B)) (A.length : Int) = (n, (A.length : Int) + ((itoa n).length : Int), 0) := by
  unfold Nm.READ
  rw [if_pos (by simp only [List.length_append]; omega), Int.toNat_natCast, Nm.txt_mid (Nm.more_form (Nm.form_itoa n)) hB, Nm.form_itoa, Nm.val_itoa, Nm.inR_iff.2 h]
  rfl
theorem Nm.READ_ways (l : List UInt8) (a : Int) :
    (∃ x, x ≠ 0 ∧ Nm.READ l a = (0, 0, x)) ∨ (∃ (k : Nat) (t : List UInt8), a = (k : Int) ∧ t = Nm.txt l k ∧ Nm.form t = true ∧ Nm.inR (Nm.val t) = true ∧ Nm.READ l a = (Nm.val t, (k : Int) + (t.length : Int), 0) ∧ 0 < t.length ∧ k + t.length ≤ l.length ∧ (l.drop k).take t.length = t) := by
  by_cases ha : 0 ≤ a ∧ a ≤ (l.length : Int)
  · obtain ⟨k, rfl⟩ : ∃ k : Nat, a = (k : Int) := ⟨a.toNat, by omega⟩
    have hR : Nm.READ l (k : Int) = (if Nm.form (Nm.txt l k) then (if Nm.inR (Nm.val (Nm.txt l k)) then (Nm.val (Nm.txt l k), (k : Int) + ((Nm.txt l k).length : Int), 0) else (0, 0, 9)) else (0, 0, 3)) := by
      unfold Nm.READ
      rw [if_pos (by omega), Int.toNat_natCast]
    cases hf : Nm.form (Nm.txt l k) with
    | false =>
      rw [hf] at hR
      exact .inl ⟨3, by omega, hR⟩
    | true =>
      cases hr : Nm.inR (Nm.val (Nm.txt l k)) with
      | false =>
        rw [hf, hr] at hR
        exact .inl ⟨9, by omega, hR⟩
      | true =>
        rw [hf, hr] at hR
        refine .inr ⟨k, _, rfl, rfl, hf, hr, hR, ?_, Nm.txt_len l k (by omega), Nm.txt_take l k⟩
        have := Nm.form_ne hf
        cases h : Nm.txt l k with
        | nil => exact absurd h this
        | cons _ _ => simp
  · exact .inl ⟨1, by omega, by unfold Nm.READ; rw [if_neg ha]⟩
set_option maxHeartbeats 4000000 in
set_option maxRecDepth 3000 in
theorem law_NumBack (n : Int) (ta tb : ByteArray) (a : Int) (w : World) (hn : -9223372036854775808 ≤ n ∧ n ≤ 9223372036854775807) (_ : ta.size ≤ maxLen) (_ : tb.size ≤ maxLen) (hT : TabN w) :
    Calls Tryd.prog 6 #[.int .i64 n, .string ta, .string tb, .int .i64 a] w fun e w' => e = .returned (.bool true) ∧ Below w.heap.size w w' := by
  obtain ⟨A, rfl⟩ := as_S ta
  obtain ⟨B, rfl⟩ := as_S tb
  have zA := S_size A
  have zB := S_size B
  by_cases hA : (3000 : Int) < (A.length : Int)
  · go_enter Tryd.func6, Tryd.ntmps6
    go_wp2_with fail
    refine (awake_any w hT).mono ?_; rintro e w1 ⟨rfl, hb⟩
    go_wp2_with fail
    go_ret
    exact ⟨rfl, hb⟩
  by_cases hB : (3000 : Int) < (B.length : Int)
  · go_enter Tryd.func6, Tryd.ntmps6
    go_wp2_with fail
    refine (awake_any w hT).mono ?_; rintro e w1 ⟨rfl, hb⟩
    go_wp2_with fail
    go_ret
    exact ⟨rfl, hb⟩
  have dn := fun w hT => Show_any n w hT hn.1 hn.2
  have hI21 : (itoa n).length ≤ 21 := Go.Lib.itoa_length_le n hn.1 hn.2
  have hmid : (∀ d r, B = d :: r → Nm.more d = false) → Nm.READ (A ++ (itoa n ++ B)) (A.length : Int) = (n, (A.length : Int) + ((itoa n).length : Int), 0) := fun h => Nm.READ_mid hn h
  generalize itoa n = I at *
  have zI := S_size I
  have hadd1 : ∀ w, (Op.stringOp .add (S A) (S I)).run Tryd.prog w = .ok (.string (S (A ++ I))) w := fun w => add_S A I (by omega) w
  have hadd2 : ∀ w, (Op.stringOp .add (S (A ++ I)) (S B)).run Tryd.prog w = .ok (.string (S (A ++ (I ++ B)))) w := fun w => by
    have := add_S (A ++ I) B (by rw [List.length_append]; omega) w
    rw [List.append_assoc] at this
    exact this
  have hlen : (A ++ (I ++ B)).length ≤ 10000 := by simp only [List.length_append]; omega
  have zM : (S (A ++ I)).size = A.length + I.length := by rw [S_size, List.length_append]
  generalize A ++ I = M at hadd1 hadd2 zM
  generalize A ++ (I ++ B) = l at *
  have zl := S_size l
  have hadd1c : True := trivial
  have c1 := fun w hT => Read_any l (A.length : Int) w hT (by omega)
  have hat := Tx_at B
  by_cases h1 : ∀ d r, B = d :: r → Nm.more d = false
  · have hR1 := hmid h1
    rw [hR1] at c1
    clear hmid hR1
    by_cases hB0 : B.length = 0
    · obtain ⟨hem, hem'⟩ := Tx_empty B hB0
      go_enter Tryd.func6, Tryd.ntmps6
      go_wp2_with fail
      refine (awake_any w hT).mono ?_; rintro e w1 ⟨rfl, b1⟩
      have T1 := hT.below b1
      go_wp2_with fail
      refine (dn _ T1).mono ?_; rintro e w2 ⟨rfl, b2⟩
      have cc2 := b1.trans (b2.mono b1.size)
      clear b1 b2 T1
      go_wp2_with fail
      refine (c1 _ (hT.below cc2)).mono ?_; rintro e w3 ⟨rfl, b3⟩
      have cc := cc2.trans (b3.mono cc2.size)
      clear cc2 b3 c1 dn
      clear h1 hadd1c
      have c2 := fun w hT => Read_any l a w hT (by omega)
      rcases Nm.READ_ways l a with ⟨x, hx, hR⟩ | ⟨k, t, hk, ht, hf, hr, hR, ht0, htl, hsl⟩
      · rw [hR] at c2
        have hxb : (x != 0) = true := bne_iff_ne.2 hx
        go_wp2_with fail
        refine (c2 _ (hT.below cc)).mono ?_; rintro e w6 ⟨rfl, b6⟩
        go_wp2_with fail
        go_ret
        exact ⟨ret_bool (by simp), cc.trans (b6.mono cc.size)⟩
      · rw [hR] at c2
        have hv := Nm.inR_iff.1 hr
        have d := fun w hT => Show_any (Nm.val t) w hT hv.1 hv.2
        rw [Nm.itoa_val hf] at d
        generalize Nm.val t = v at *
        subst hk
        obtain ⟨p, hp⟩ : ∃ p : Nat, p = k + t.length := ⟨_, rfl⟩
        have hpi : (k : Int) + (t.length : Int) = (p : Int) := by omega
        rw [hpi] at c2
        have hex : (S l).extract k p = S t := by rw [hp, Tx_mid, hsl]
        have hkp : (k : Int) < (p : Int) := by omega
        have hkp' : k < p := by omega
        have hle : (k : Int) ≤ (p : Int) := by omega
        have hle' : k ≤ p := by omega
        have hpl : (p : Int) ≤ (l.length : Int) := by omega
        have hpl' : p ≤ l.length := by omega
        clear hpi hp hR hf hr hv hsl htl ht0 ht
        go_wp2_with fail
        refine (c2 _ (hT.below cc)).mono ?_; rintro e w6 ⟨rfl, b6⟩
        have c6 := cc.trans (b6.mono cc.size)
        have T6 := hT.below c6
        clear b6 cc c2
        go_wp2_with fail
        have cQ : ∀ dd os, Calls Tryd.prog 13 #[.int .i64 v] (Go.Sort.grow (redrawn w6 dd) os) fun e w'' => e = .returned (.string (S t)) ∧ ∃ p : Regrown, w'' = Go.Sort.grow (redrawn w6 p.d) p.os := fun dd os => Calls.regrown_of (d _ (T6.below (below_regrown w6 dd os)))
        refine wp_region_quiet_below (by kernel_rfl) (by kernel_rfl) ?_
        repeat (quiet_step (exact cQ _ _))
        refine wpQuiet_nil ?_
        intro _ hw'
        obtain ⟨⟨dq, osq⟩, hw''⟩ := hw'
        subst hw''
        go_wp2_with fail
        go_ret
        exact ⟨ret_bool (by simp), c6.trans ((below_regrown w6 dq osq).mono c6.size)⟩
    · obtain ⟨hem, hem'⟩ := Tx_full B (by omega)
      obtain ⟨dB, rB, hBe, hBd⟩ := Nm.bt_ne (show 0 < B.length by omega)
      have hm := h1 dB rB hBe
      have cm := fun w => more_any dB w
      rw [hBd, hm] at cm
      clear hBe hm hBd
      go_enter Tryd.func6, Tryd.ntmps6
      go_wp2_with fail
      refine (awake_any w hT).mono ?_; rintro e w1 ⟨rfl, b1⟩
      have T1 := hT.below b1
      go_wp2_with fail
      refine (dn _ T1).mono ?_; rintro e w2 ⟨rfl, b2⟩
      have cc2 := b1.trans (b2.mono b1.size)
      clear b1 b2 T1
      go_wp2_with fail
      refine (c1 _ (hT.below cc2)).mono ?_; rintro e w3 ⟨rfl, b3⟩
      have cc := cc2.trans (b3.mono cc2.size)
      clear cc2 b3 c1 dn
      go_wp2_with fail
      refine (cm _).mono ?_; rintro e w4 ⟨rfl, rfl⟩
      clear cm
      clear h1 hadd1c
      have c2 := fun w hT => Read_any l a w hT (by omega)
      rcases Nm.READ_ways l a with ⟨x, hx, hR⟩ | ⟨k, t, hk, ht, hf, hr, hR, ht0, htl, hsl⟩
      · rw [hR] at c2
        have hxb : (x != 0) = true := bne_iff_ne.2 hx
        go_wp2_with fail
        refine (c2 _ (hT.below cc)).mono ?_; rintro e w6 ⟨rfl, b6⟩
        go_wp2_with fail
        go_ret
        exact ⟨ret_bool (by simp), cc.trans (b6.mono cc.size)⟩
      · rw [hR] at c2
        have hv := Nm.inR_iff.1 hr
        have d := fun w hT => Show_any (Nm.val t) w hT hv.1 hv.2
        rw [Nm.itoa_val hf] at d
        generalize Nm.val t = v at *
        subst hk
        obtain ⟨p, hp⟩ : ∃ p : Nat, p = k + t.length := ⟨_, rfl⟩
        have hpi : (k : Int) + (t.length : Int) = (p : Int) := by omega
        rw [hpi] at c2
        have hex : (S l).extract k p = S t := by rw [hp, Tx_mid, hsl]
        have hkp : (k : Int) < (p : Int) := by omega
        have hkp' : k < p := by omega
        have hle : (k : Int) ≤ (p : Int) := by omega
        have hle' : k ≤ p := by omega
        have hpl : (p : Int) ≤ (l.length : Int) := by omega
        have hpl' : p ≤ l.length := by omega
        clear hpi hp hR hf hr hv hsl htl ht0 ht
        go_wp2_with fail
        refine (c2 _ (hT.below cc)).mono ?_; rintro e w6 ⟨rfl, b6⟩
        have c6 := cc.trans (b6.mono cc.size)
        have T6 := hT.below c6
        clear b6 cc c2
        go_wp2_with fail
        have cQ : ∀ dd os, Calls Tryd.prog 13 #[.int .i64 v] (Go.Sort.grow (redrawn w6 dd) os) fun e w'' => e = .returned (.string (S t)) ∧ ∃ p : Regrown, w'' = Go.Sort.grow (redrawn w6 p.d) p.os := fun dd os => Calls.regrown_of (d _ (T6.below (below_regrown w6 dd os)))
        refine wp_region_quiet_below (by kernel_rfl) (by kernel_rfl) ?_
        repeat (quiet_step (exact cQ _ _))
        refine wpQuiet_nil ?_
        intro _ hw'
        obtain ⟨⟨dq, osq⟩, hw''⟩ := hw'
        subst hw''
        go_wp2_with fail
        go_ret
        exact ⟨ret_bool (by simp), c6.trans ((below_regrown w6 dq osq).mono c6.size)⟩
  · have hB0 : 0 < B.length := by
      refine Nat.pos_of_ne_zero fun h => h1 fun d r hBe => ?_
      rw [hBe] at h
      simp at h
    obtain ⟨hem, hem'⟩ := Tx_full B hB0
    obtain ⟨dB, rB, hBe, hBd⟩ := Nm.bt_ne hB0
    have hm : Nm.more dB = true := by
      cases hc : Nm.more dB with
      | true => rfl
      | false => exact absurd (fun d r h => by rw [hBe] at h; simp only [List.cons.injEq] at h; rw [← h.1]; exact hc) h1
    have cm := fun w => more_any dB w
    rw [hBd, hm] at cm
    clear hBe hm hBd hmid
    generalize Nm.READ l (A.length : Int) = R1 at c1
    obtain ⟨r1, r2, r3⟩ := R1
    go_enter Tryd.func6, Tryd.ntmps6
    go_wp2_with fail
    refine (awake_any w hT).mono ?_; rintro e w1 ⟨rfl, b1⟩
    have T1 := hT.below b1
    go_wp2_with fail
    refine (dn _ T1).mono ?_; rintro e w2 ⟨rfl, b2⟩
    have cc2 := b1.trans (b2.mono b1.size)
    clear b1 b2 T1
    go_wp2_with fail
    refine (c1 _ (hT.below cc2)).mono ?_; rintro e w3 ⟨rfl, b3⟩
    have cc := cc2.trans (b3.mono cc2.size)
    clear cc2 b3 c1 dn
    go_wp2_with fail
    refine (cm _).mono ?_; rintro e w4 ⟨rfl, rfl⟩
    clear cm
    clear h1 hadd1c
    have c2 := fun w hT => Read_any l a w hT (by omega)
    rcases Nm.READ_ways l a with ⟨x, hx, hR⟩ | ⟨k, t, hk, ht, hf, hr, hR, ht0, htl, hsl⟩
    · rw [hR] at c2
      have hxb : (x != 0) = true := bne_iff_ne.2 hx
      go_wp2_with fail
      refine (c2 _ (hT.below cc)).mono ?_; rintro e w6 ⟨rfl, b6⟩
      go_wp2_with fail
      go_ret
      exact ⟨ret_bool (by simp), cc.trans (b6.mono cc.size)⟩
    · rw [hR] at c2
      have hv := Nm.inR_iff.1 hr
      have d := fun w hT => Show_any (Nm.val t) w hT hv.1 hv.2
      rw [Nm.itoa_val hf] at d
      generalize Nm.val t = v at *
      subst hk
      obtain ⟨p, hp⟩ : ∃ p : Nat, p = k + t.length := ⟨_, rfl⟩
      have hpi : (k : Int) + (t.length : Int) = (p : Int) := by omega
      rw [hpi] at c2
      have hex : (S l).extract k p = S t := by rw [hp, Tx_mid, hsl]
      have hkp : (k : Int) < (p : Int) := by omega
      have hkp' : k < p := by omega
      have hle : (k : Int) ≤ (p : Int) := by omega
      have hle' : k ≤ p := by omega
      have hpl : (p : Int) ≤ (l.length : Int) := by omega
      have hpl' : p ≤ l.length := by omega
      clear hpi hp hR hf hr hv hsl htl ht0 ht
      go_wp2_with fail
      refine (c2 _ (hT.below cc)).mono ?_; rintro e w6 ⟨rfl, b6⟩
      have c6 := cc.trans (b6.mono cc.size)
      have T6 := hT.below c6
      clear b6 cc c2
      go_wp2_with fail
      have cQ : ∀ dd os, Calls Tryd.prog 13 #[.int .i64 v] (Go.Sort.grow (redrawn w6 dd) os) fun e w'' => e = .returned (.string (S t)) ∧ ∃ p : Regrown, w'' = Go.Sort.grow (redrawn w6 p.d) p.os := fun dd os => Calls.regrown_of (d _ (T6.below (below_regrown w6 dd os)))
      refine wp_region_quiet_below (by kernel_rfl) (by kernel_rfl) ?_
      repeat (quiet_step (exact cQ _ _))
      refine wpQuiet_nil ?_
      intro _ hw'
      obtain ⟨⟨dq, osq⟩, hw''⟩ := hw'
      subst hw''
      go_wp2_with fail
      go_ret
      exact ⟨ret_bool (by simp), c6.trans ((below_regrown w6 dq osq).mono c6.size)⟩
end Go.Proofs.YtkbgbhmlpdbgcaaDoor
