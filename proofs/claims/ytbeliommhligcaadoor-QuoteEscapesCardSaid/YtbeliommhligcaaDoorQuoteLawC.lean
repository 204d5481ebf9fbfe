/-
  The walk of QuoteBack: it comes to true.
-/
import Derived.Test.YtbeliommhligcaaDoorQuoteLawA
import Derived.Deep.QuietTactic
import Derived.BigQuiet
namespace Go.Proofs.YtbeliommhligcaaDoor
open Go.RowKit

namespace Qm
theorem quo_drop (l : List UInt8) : (quo l).drop 1 = esc l ++ [34] := rfl
theorem esc_drop {Q : List UInt8} {g : Nat} {c : UInt8} {t r : List UInt8} (h : Q.drop g = esc (c :: t) ++ r) (hc : c = 34 ∨ c = 92) :
    g < Q.length ∧ Um.bt Q g = 92 ∧ g + 1 < Q.length ∧ Um.bt Q (g + 1) = c.toNat ∧ Q.drop (g + 2) = esc t ++ r := by
  rw [esc_cons, if_pos hc] at h
  simp only [List.cons_append, List.nil_append] at h
  obtain ⟨h1, h2, h3⟩ := at_drop h
  obtain ⟨h4, h5, h6⟩ := at_drop h3
  exact ⟨h1, h2, h4, h5, h6⟩
theorem plain_drop {Q : List UInt8} {g : Nat} {c : UInt8} {t r : List UInt8} (h : Q.drop g = esc (c :: t) ++ r) (hc : ¬ (c = 34 ∨ c = 92)) :
    g < Q.length ∧ Um.bt Q g = c.toNat ∧ Q.drop (g + 1) = esc t ++ r := by
  rw [esc_cons, if_neg hc] at h
  simp only [List.cons_append, List.nil_append] at h
  exact at_drop h
/-- what is read of the one form, wherever it stands -/
theorem RD_back (A l B : List UInt8) (hv : Um.cnt l ≠ none) (hl : l.length ≤ 4096) (h : lowB l = false) : RD (A ++ (quo l ++ B)) (A.length : Int) = (l, A.length + (quo l).length, 0) := by
  have hd : (A ++ (quo l ++ B)).drop A.length = 34 :: (esc l ++ (34 :: B)) := by
    rw [List.drop_left]
    unfold quo
    simp
  rw [RD_in _ _ _ _ hd, if_pos rfl, RDF_esc (l.length + 1) l (34 :: B) 0 (by omega) hv h (by omega), RDF_end, cons_ok, cons_ok]
  unfold quo
  simp only [List.nil_append, List.append_nil, List.length_cons, List.length_append, List.length_nil]
  congr 2
  omega
theorem RD_low (A l B : List UInt8) (hv : Um.cnt l ≠ none) (hl : l.length ≤ 4096) (h : lowB l = true) : RD (A ++ (quo l ++ B)) (A.length : Int) = ([], 0, 3) := by
  have hd : (A ++ (quo l ++ B)).drop A.length = 34 :: (esc l ++ (34 :: B)) := by
    rw [List.drop_left]
    unfold quo
    simp
  rw [RD_in _ _ _ _ hd, if_pos rfl, RDF_low (l.length + 1) l (34 :: B) 0 (by omega) hv h (by omega), cons_no _ _ (by decide)]
end Qm
theorem cnt_valid {a : List UInt8} (h : (LEN a).2 = true) : Um.cnt a ≠ none := by
  intro hc
  rw [LEN_none hc] at h
  simp at h
theorem low_any (l : List UInt8) (w : World) (hl : l.length ≤ 100000000) :
    Calls Tryd.prog 14 #[.string (S l)] w fun e w' => e = .returned (.bool (Qm.lowB l)) ∧ w = w' := by
  have z1 := S_size l
  have hat := S_at l
  go_enter Tryd.func14, Tryd.ntmps14
  go_wp2_with fail
  go_loop [3] (fun i => ∃ k : Nat, k ≤ l.length ∧ i = .int .i64 (k : Int) ∧ Hid (Qm.lowB (l.take k) = false)) (fun i => l.length - (intOf i).toNat)
  case atStart => exact ⟨0, Nat.zero_le _, rfl, rfl⟩
  case round =>
    obtain ⟨k, hk, rfl, HL⟩ := hrel
    by_cases hlt : k < l.length
    · have hbt := bt_get hlt
      obtain ⟨c, hc⟩ : ∃ c, l[k] = c := ⟨_, rfl⟩
      rw [hc] at hbt
      by_cases h : (c.toNat : Int) < 32
      · have HR : Hid (Qm.lowB l = true) := by
          unfold Qm.lowB Hid
          rw [List.any_eq_true]
          refine ⟨c, by rw [← hc]; exact List.getElem_mem _, ?_⟩
          rw [decide_eq_true_eq, UInt8.lt_iff_toNat_lt, show (32 : UInt8).toNat = 32 from rfl]
          omega
        clear hc
        go_wp2_with fail
        go_ret
        exact ⟨ret_bool HR.out.symm, rfl⟩
      · have HL2 : Hid (Qm.lowB (l.take (k + 1)) = false) := by
          have h' : ¬ c < 32 := by rw [UInt8.lt_iff_toNat_lt, show (32 : UInt8).toNat = 32 from rfl]; omega
          unfold Hid
          rw [List.take_succ_eq_append_getElem hlt, Qm.lowB_append, HL.out, hc]
          simpa [Qm.lowB] using h'
        clear hc HL
        go_wp2_with fail
        go_round
        case rel => exact ⟨k + 1, by omega, by go_num, HL2⟩
        case measure => simp [intOf]; omega
    · have HR : Hid (Qm.lowB l = false) := by
        have := HL.out
        rw [List.take_of_length_le (by omega)] at this
        exact this
      go_wp2_with fail
      go_ret
      exact ⟨ret_bool HR.out.symm, rfl⟩
theorem low_at (l : List UInt8) (w : World) (hl : l.length ≤ 100000000) {b : Bool} (hb : Qm.lowB l = b) :
    Calls Tryd.prog 14 #[.string (S l)] w fun e w' => e = .returned (.bool b) ∧ w = w' := by
  subst hb
  exact low_any l w hl
set_option maxRecDepth 100000 in
set_option maxHeartbeats 3200000 in
theorem law_QuoteBack (s a b : ByteArray) (w : World) (hs : s.size ≤ maxLen) (ha : a.size ≤ maxLen) (hb : b.size ≤ maxLen) (hT : Tab w) :
    Calls Tryd.prog 4 #[.string s, .string a, .string b] w fun e w' => e = .returned (.bool true) ∧ Below w.heap.size w w' := by
  unfold maxLen at hs ha hb
  obtain ⟨l, rfl⟩ := as_S s
  obtain ⟨A, rfl⟩ := as_S a
  obtain ⟨B, rfl⟩ := as_S b
  have z1 := S_size l
  have z2 := S_size A
  have z3 := S_size B
  by_cases h1 : (3000 : Int) < (l.length : Int)
  · go_enter Tryd.func4, Tryd.ntmps4
    go_wp2_with fail
    refine (awake_any _ hT).mono ?_; rintro e w3 ⟨rfl, h3⟩
    go_wp2_with fail
    go_ret
    exact ⟨rfl, h3⟩
  by_cases h2 : (1000 : Int) < (A.length : Int)
  · go_enter Tryd.func4, Tryd.ntmps4
    go_wp2_with fail
    refine (awake_any _ hT).mono ?_; rintro e w3 ⟨rfl, h3⟩
    go_wp2_with fail
    go_ret
    exact ⟨rfl, h3⟩
  by_cases h3 : (1000 : Int) < (B.length : Int)
  · go_enter Tryd.func4, Tryd.ntmps4
    go_wp2_with fail
    refine (awake_any _ hT).mono ?_; rintro e w3 ⟨rfl, h3⟩
    go_wp2_with fail
    go_ret
    exact ⟨rfl, h3⟩
  cases hv : (LEN l).2
  · have HX := Lib.hid (QUO_no (l := l) (by omega) hv)
    have HV := Lib.hid hv
    have e0 : (S []).toList = [] := S_toList []
    clear hv
    go_enter Tryd.func4, Tryd.ntmps4
    go_wp2_with fail
    refine (awake_any _ hT).mono ?_; rintro e w1 ⟨rfl, h1⟩
    go_wp2_with fail
    refine (Quote_at h1 l (by omega) HX.out).mono ?_; rintro e w2 ⟨rfl, h2⟩
    go_wp2_with fail
    refine (Valid_at h2 l (by omega) HV.out).mono ?_; rintro e w3 ⟨rfl, h3⟩
    go_wp2_with fail
    go_ret
    exact ⟨rfl, h3⟩
  have HX := QUO_ok (l := l) (by omega) hv
  have HV := Lib.hid hv
  have hq := Qm.quo_len l
  have hcnt := cnt_valid hv
  have hback : ∀ x, Qm.lowB l = x → Qm.RD (A ++ (Qm.quo l ++ B)) (A.length : Int) = if x then ([], 0, 3) else (l, A.length + (Qm.quo l).length, 0) := fun x hx => by
    cases x
    · exact Qm.RD_back A l B hcnt (by omega) hx
    · exact Qm.RD_low A l B hcnt (by omega) hx
  have hd1 := Qm.quo_drop l
  have hq0 : Um.bt (Qm.quo l) 0 = 34 := rfl
  generalize Qm.quo l = Q at *
  have HX := Lib.hid HX
  have HB := Lib.hid hback
  have HD := Lib.hid hd1
  have z4 := S_size Q
  have hat := S_at l
  have haq := S_at Q
  have a1 := add_S A Q (by omega)
  have a2 := add_S (A ++ Q) B (by rw [List.length_append]; omega)
  clear hv hcnt hback hd1
  go_enter Tryd.func4, Tryd.ntmps4
  go_wp2_with fail
  refine (awake_any _ hT).mono ?_; rintro e w1 ⟨rfl, h1⟩
  go_wp2_with fail
  refine (Quote_at h1 l (by omega) HX.out).mono ?_; rintro e w2 ⟨rfl, h2⟩
  go_wp2_with fail
  refine (Valid_at h2 l (by omega) HV.out).mono ?_; rintro e w3 ⟨rfl, h3⟩
  go_wp2_with fail
  go_loopw [9, 10] (fun at' i wr => ∃ k g : Nat, k ≤ l.length ∧ g ≤ Q.length ∧ i = .int .i64 (k : Int) ∧ at' = .int .i64 (g : Int) ∧ Hid (Q.drop g = Qm.esc (l.drop k) ++ [34]) ∧ Below w.heap.size w wr) (fun _ i _ => l.length - (intOf i).toNat)
  case atStart => exact ⟨0, 1, by omega, by omega, rfl, rfl, HD.out, h3⟩
  case round =>
    clear HD h3 h1 h2
    obtain ⟨k, g, hk, hg, rfl, rfl, HD, hbel⟩ := hrel
    by_cases hlt : k < l.length
    · obtain ⟨c, t, hc⟩ := drop_at hlt
      obtain ⟨_, hbt, ht⟩ := at_drop hc
      have hdd := HD.out
      rw [hc] at hdd
      by_cases h3 : c = 34 ∨ c = 92
      · obtain ⟨d1, d2, d3, d4, d5⟩ := Qm.esc_drop hdd h3
        rw [← ht] at d5
        have HD2 := Lib.hid d5
        obtain ⟨g1, hg1⟩ : ∃ g1 : Nat, (g : Int) + 1 = (g1 : Int) := ⟨g + 1, by omega⟩
        rw [show g + 1 = g1 by omega] at d3 d4
        clear hdd d5 hc ht HD
        rcases h3 with rfl | rfl
        all_goals
          first | rw [show (34 : UInt8).toNat = 34 from rfl] at d4 hbt | rw [show (92 : UInt8).toNat = 92 from rfl] at d4 hbt
          go_wp2_with fail
          go_quiet (fail)
          go_wp2_with fail
          go_roundw
          case rel => exact ⟨k + 1, g + 2, by omega, by omega, by go_num, by go_num, HD2.out, hbel.trans ⟨rfl, rfl, rfl, Nat.le_refl _, fun _ _ => rfl⟩⟩
          case measure => simp [intOf]; omega
      · obtain ⟨d1, d2, d5⟩ := Qm.plain_drop hdd h3
        rw [← ht] at d5
        have HD2 := Lib.hid d5
        have n1 : ((c.toNat : Int) == 34) = false := by
          rw [beq_eq_false_iff_ne]
          intro e
          exact h3 (.inl (UInt8.toNat_inj.1 (show c.toNat = 34 by omega)))
        have n2 : ((c.toNat : Int) == 92) = false := by
          rw [beq_eq_false_iff_ne]
          intro e
          exact h3 (.inr (UInt8.toNat_inj.1 (show c.toNat = 92 by omega)))
        clear hdd d5 hc ht HD h3
        go_wp2_with fail
        go_quiet (fail)
        go_wp2_with fail
        go_roundw
        case rel => exact ⟨k + 1, g + 1, by omega, by omega, by go_num, by go_num, HD2.out, hbel.trans ⟨rfl, rfl, rfl, Nat.le_refl _, fun _ _ => rfl⟩⟩
        case measure => simp [intOf]; omega
    · have hdd := HD.out
      rw [bt_nil l k (by omega), Qm.esc_nil, List.nil_append] at hdd
      obtain ⟨d1, d2, d3⟩ := at_drop hdd
      rw [show (34 : UInt8).toNat = 34 from rfl] at d2
      have d4 : Q.length = g + 1 := by
        have := congrArg List.length d3
        rw [List.length_drop, List.length_nil] at this
        omega
      have hQ : (A ++ (Q ++ B)).length ≤ 100000000 := by simp only [List.length_append]; omega
      have HQ := Lib.hid hQ
      clear hdd d3 HD hQ
      cases hlow : Qm.lowB l
      · have HR : Hid (Qm.RD (A ++ (Q ++ B)) (A.length : Int) = (l, A.length + Q.length, 0)) := HB.out false hlow
        have HL := Lib.hid hlow
        clear hlow HB
        go_wp2_with fail
        refine (Read_at hbel hT (A ++ (Q ++ B)) _ HQ.out HR.out).mono ?_; rintro e w4 ⟨rfl, h4⟩
        go_wp2_with fail
        refine (low_at l _ (by omega) HL.out).mono ?_; rintro e w5 ⟨rfl, rfl⟩
        go_wp2_with fail
        go_ret
        exact ⟨rfl, h4⟩
      · have HR : Hid (Qm.RD (A ++ (Q ++ B)) (A.length : Int) = ([], 0, 3)) := HB.out true hlow
        have HL := Lib.hid hlow
        clear hlow HB
        go_wp2_with fail
        refine (Read_at hbel hT (A ++ (Q ++ B)) _ HQ.out HR.out).mono ?_; rintro e w4 ⟨rfl, h4⟩
        go_wp2_with fail
        refine (low_at l _ (by omega) HL.out).mono ?_; rintro e w5 ⟨rfl, rfl⟩
        go_wp2_with fail
        go_ret
        exact ⟨rfl, h4⟩
end Go.Proofs.YtbeliommhligcaaDoor
