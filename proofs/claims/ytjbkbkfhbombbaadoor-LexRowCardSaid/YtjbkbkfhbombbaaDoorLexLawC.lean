/-
  The law LexRow.
-/
import Derived.Test.YtjbkbkfhbombbaaDoorLexAwake
import Derived.Test.YtjbkbkfhbombbaaDoorLexMore
import Derived.Test.YtjbkbkfhbombbaaDoorLexBlank
import Derived.BigQuiet
import Derived.Sort.AtCall
import Derived.Deep.QuietTactic
import Derived.Test.YtjbkbkfhbombbaaDoorRegBig
namespace Go.Proofs.YtjbkbkfhbombbaaDoor
open Go.RowKit

namespace Lm
structure Here (l : List UInt8) (ms : List Mark) (p i : Nat) (m : Mark) : Prop where
  get : ms[i]? = some m
  at_ : m.a = skip l p
  le : m.a ≤ m.b
  in_ : m.b ≤ l.length
  k1 : 1 ≤ m.k
  k11 : m.k ≤ 11
  last : m.k = 11 ↔ i + 1 = ms.length
  more : m.k ≠ 11 → m.a < m.b ∧ Row l m.b (ms.drop (i + 1))
  stop : m.k = 11 → m.b = l.length
  num : m.k ≠ 9 → m.n = 0
  text : m.k ≠ 10 → m.t = []
theorem Row.round {l : List UInt8} {ms : List Mark} {p i : Nat} (hp : p ≤ l.length) (hi : i < ms.length) (h : Row l p (ms.drop i)) : ∃ m, Here l ms p i m := by
  have hd := List.drop_eq_getElem_cons hi
  rw [hd] at h
  refine ⟨ms[i], ?_⟩
  have hg := List.getElem?_eq_getElem hi
  generalize ms[i] = m at *
  have hdl : (ms.drop (i + 1)).length = ms.length - (i + 1) := List.length_drop
  generalize hrest : ms.drop (i + 1) = rest at *
  cases h with
  | stop h hk =>
    obtain ⟨hm, hs⟩ := end_is hp h hk
    have hkin := mark_kinds (skip_le hp) h
    rw [List.length_nil] at hdl
    refine ⟨hg, by rw [hm, hs], by rw [hm]; exact Nat.le_refl _, by rw [hm]; exact Nat.le_refl _, by omega, by omega, ⟨fun _ => by omega, fun _ => hk⟩, fun h => absurd hk h, fun _ => by rw [hm], hkin.1, hkin.2⟩
  | step h hk hr =>
    have hon := on_le hp h hk
    have hkin := mark_kinds (skip_le hp) h
    have hne := List.length_pos_iff.2 hr.ne
    refine ⟨hg, hon.1, by omega, hon.2.2.1, by omega, by omega, ⟨fun h => absurd h hk, fun _ => by omega⟩, fun _ => ⟨by omega, by rw [hrest]; exact hr⟩, fun h => absurd h hk, hkin.1, hkin.2⟩
theorem gap_ws (l : List UInt8) (p a : Nat) (ha : a ≤ skip l p) : ∀ c ∈ (l.drop p).take (a - p), ws c = true := by
  intro c hc
  obtain ⟨j, hj⟩ := List.mem_iff_getElem?.1 hc
  have hj1 : j < a - p := by
    have := (List.getElem?_eq_some_iff.1 hj).1
    rw [List.length_take] at this
    omega
  rw [List.getElem?_take_of_lt hj1, List.getElem?_drop] at hj
  obtain ⟨d, h1, h2⟩ := skip_blanks l p (p + j) (by omega) (by omega)
  rw [hj] at h1
  obtain rfl : c = d := by simpa using h1
  exact h2
end Lm
set_option maxHeartbeats 8000000 in
set_option maxRecDepth 3000 in
theorem law_LexRow (s : ByteArray) (w : World) (hs : s.size ≤ maxLen) (hT : TabL w) :
    Calls Tryd.prog 4 #[.string s] w fun e w' => e = .returned (.bool true) ∧ Below w.heap.size w w' := by
  obtain ⟨l, rfl⟩ := as_S s
  have z1 := S_size l
  by_cases hL : (3000 : Int) < (l.length : Int)
  · go_enter Tryd.func4, Tryd.ntmps4
    go_wp2_with fail
    refine (awake_any _ hT).mono ?_; rintro e w1 ⟨rfl, b1⟩
    go_wp2_with fail
    go_ret
    exact ⟨rfl, b1⟩
  rcases Lm.ALL_ways (l := l) (by omega) with ⟨ms, hr, hA⟩ | ⟨q, c, _, hc, hq, hA⟩
  · obtain ⟨m0, ms', hms⟩ : ∃ m0 ms', ms = m0 :: ms' := by
      cases ms with
      | nil => exact absurd rfl hr.ne
      | cons a b => exact ⟨a, b, rfl⟩
    obtain ⟨N, hN⟩ : ∃ N, ms.length = N := ⟨_, rfl⟩
    have hN1 : ms'.length + 1 = N := by rw [← hN, hms]; rfl
    have hNl := hr.len (Nat.zero_le _)
    have cA := fun w hT => all_ok (l := l) w hT (by omega) (hms ▸ hA)
    rw [hN1, ← hms] at cA
    have HRow := Lib.hid hr
    clear hA hr hms
    go_enter Tryd.func4, Tryd.ntmps4
    go_wp2_with fail
    refine (awake_any _ hT).mono ?_; rintro e w1 ⟨rfl, b1⟩
    have T1 := hT.below b1
    go_wp2_with fail
    refine (cA _ T1).mono ?_; rintro e w2 ⟨g, cap, rfl, _, R2, b2⟩
    have c2 := b1.trans (b2.mono b1.size)
    clear b1 b2 T1 cA
    go_wp2_with fail
    go_loopw [6, 7] (fun av iv wr => ∃ (p i : Nat), av = .int .i64 (p : Int) ∧ iv = .int .i64 (i : Int) ∧ i ≤ N ∧ p ≤ l.length ∧ Hid (i < N → Lm.Row l p (ms.drop i)) ∧ Hid (i = N → p = l.length) ∧ RowAt wr g ms ∧ Below w.heap.size w wr) (fun _ iv _ => N - (intOf iv).toNat)
    case atStart => exact ⟨0, 0, rfl, rfl, by omega, by omega, fun _ => HRow.out, fun h => by omega, R2, c2⟩
    case round =>
      clear R2 c2
      obtain ⟨p, i, rfl, rfl, hi, hp, HR, HE, R2, c2⟩ := hrel
      by_cases hlt : (i : Int) < (N : Int)
      · obtain ⟨m, hm⟩ := (HR.out (by omega)).round hp (by omega)
        have HM := Lib.hid hm
        obtain ⟨kI, hkI⟩ : ∃ x : Int, x = (m.k : Int) := ⟨_, rfl⟩
        obtain ⟨aI, haI⟩ : ∃ x : Int, x = (m.a : Int) := ⟨_, rfl⟩
        obtain ⟨bI, hbI⟩ : ∃ x : Int, x = (m.b : Int) := ⟨_, rfl⟩
        obtain ⟨q0, q1, q2, q3, q4⟩ := R2.five hm.get hkI haI hbI
        have hsk := Lm.skip_ge l p
        have e1 : (p : Int) ≤ aI := by have := hm.at_; omega
        have e2 : aI ≤ bI := by have := hm.le; omega
        have e3 : bI ≤ (l.length : Int) := by have := hm.in_; omega
        have e6 : aI ≤ (l.length : Int) := by omega
        have e7 : 0 ≤ aI := by omega
        have e4 : 1 ≤ kI := by have := hm.k1; omega
        have e5 : kI ≤ 11 := by have := hm.k11; omega
        obtain ⟨X, hX⟩ : ∃ X, (l.drop p).take (m.a - p) = X := ⟨_, rfl⟩
        have hsl : (S l).extract p aI.toNat = S X := by
          have h := Tx_mid l p (m.a - p)
          rw [show p + (m.a - p) = aI.toNat by omega, hX] at h
          exact h
        have cK := fun w => (blank_any X w (by rw [← hX, List.length_take]; omega) (by rw [← hX]; exact Lm.gap_ws l p m.a (by rw [hm.at_]; exact Nat.le_refl _))).mono fun _ _ h => (⟨h.1, h.2.symm⟩ : _ ∧ _)
        obtain ⟨t, ht⟩ : ∃ t, m.t = t := ⟨_, rfl⟩
        obtain ⟨n, hn⟩ : ∃ n, m.n = n := ⟨_, rfl⟩
        rw [ht] at q4
        rw [hn] at q3
        have HA := Lib.hid haI
        have HB := Lib.hid hbI
        have HK := Lib.hid hkI
        clear hX haI hbI hkI hm HR hsk
        have HR2 : Hid (i + 1 < N → Lm.Row l m.b (ms.drop (i + 1))) := fun h => (HM.out.more (fun e => by have := HM.out.last.1 e; omega)).2
        have HE2 : Hid (i + 1 = N → m.b = l.length) := fun h => HM.out.stop (HM.out.last.2 (by omega))
        have z0 : (S []).toList = [] := S_toList []
        have z2 : (S []).toList.isEmpty = true := by rw [z0]; rfl
        by_cases k11 : kI = 11
        · have hil : ((i : Int) == (N : Int) - 1) = true := beq_iff_eq.2 (by have := HM.out.last.1 (by have := HK.out; omega); omega)
          obtain rfl : n = 0 := by rw [← hn]; exact HM.out.num (by have := HK.out; omega)
          obtain rfl : t = [] := by rw [← ht]; exact HM.out.text (by have := HK.out; omega)
          clear hn ht
          subst k11
          go_wp2_with fail
          have n1 : ¬ aI < (p : Int) := Int.not_lt.2 e1
          have n2 : ¬ bI < aI := Int.not_lt.2 e2
          have n3 : ¬ (l.length : Int) < bI := Int.not_lt.2 e3
          try simp only [List.append_eq, List.cons_append, List.nil_append]
          refine wp_region_quiet_lit (by kernel_rfl) (Rq.lexB_of _ (by kernel_rfl) rfl (by kernel_rfl)) ?_
          repeat (go_big_quiet_step (first | (go_at_call_has 11 (Value.string (S X)); exact Calls.quiet_of_same (cK _))))
          refine wpQuiet_nil ?_
          intro _ hw'
          obtain ⟨nq, hw''⟩ := hw'
          subst hw''
          go_wp2_with fail
          go_roundw
          case rel => exact ⟨m.b, i + 1, by rw [HB.out], by go_num, by omega, HM.out.in_, HR2, HE2, R2, c2.trans ⟨rfl, rfl, rfl, Nat.le_refl _, fun _ _ => rfl⟩⟩
          case measure => simp [intOf]; omega
        have hil : ((i : Int) == (N : Int) - 1) = false := beq_eq_false_iff_ne.2 (fun h => by have := HM.out.last.2 (by omega); have := HK.out; omega)
        have hab : (aI == bI) = false := beq_eq_false_iff_ne.2 (by have := (HM.out.more (by have := HK.out; omega)).1; have := HA.out; have := HB.out; omega)
        by_cases k9 : kI = 9
        · obtain rfl : t = [] := by rw [← ht]; exact HM.out.text (by have := HK.out; omega)
          clear hn ht
          subst k9
          go_wp2_with fail
          have n1 : ¬ aI < (p : Int) := Int.not_lt.2 e1
          have n2 : ¬ bI < aI := Int.not_lt.2 e2
          have n3 : ¬ (l.length : Int) < bI := Int.not_lt.2 e3
          try simp only [List.append_eq, List.cons_append, List.nil_append]
          refine wp_region_quiet_lit (by kernel_rfl) (Rq.lexB_of _ (by kernel_rfl) rfl (by kernel_rfl)) ?_
          repeat (go_big_quiet_step (first | (go_at_call_has 11 (Value.string (S X)); exact Calls.quiet_of_same (cK _))))
          refine wpQuiet_nil ?_
          intro _ hw'
          obtain ⟨nq, hw''⟩ := hw'
          subst hw''
          go_wp2_with fail
          go_roundw
          case rel => exact ⟨m.b, i + 1, by rw [HB.out], by go_num, by omega, HM.out.in_, HR2, HE2, R2, c2.trans ⟨rfl, rfl, rfl, Nat.le_refl _, fun _ _ => rfl⟩⟩
          case measure => simp [intOf]; omega
        by_cases k10 : kI = 10
        · obtain rfl : n = 0 := by rw [← hn]; exact HM.out.num (by have := HK.out; omega)
          clear hn ht
          subst k10
          go_wp2_with fail
          have n1 : ¬ aI < (p : Int) := Int.not_lt.2 e1
          have n2 : ¬ bI < aI := Int.not_lt.2 e2
          have n3 : ¬ (l.length : Int) < bI := Int.not_lt.2 e3
          try simp only [List.append_eq, List.cons_append, List.nil_append]
          refine wp_region_quiet_lit (by kernel_rfl) (Rq.lexB_of _ (by kernel_rfl) rfl (by kernel_rfl)) ?_
          repeat (go_big_quiet_step (first | (go_at_call_has 11 (Value.string (S X)); exact Calls.quiet_of_same (cK _))))
          refine wpQuiet_nil ?_
          intro _ hw'
          obtain ⟨nq, hw''⟩ := hw'
          subst hw''
          go_wp2_with fail
          go_roundw
          case rel => exact ⟨m.b, i + 1, by rw [HB.out], by go_num, by omega, HM.out.in_, HR2, HE2, R2, c2.trans ⟨rfl, rfl, rfl, Nat.le_refl _, fun _ _ => rfl⟩⟩
          case measure => simp [intOf]; omega
        · obtain rfl : n = 0 := by rw [← hn]; exact HM.out.num (by have := HK.out; omega)
          obtain rfl : t = [] := by rw [← ht]; exact HM.out.text (by have := HK.out; omega)
          have x11 : (kI == 11) = false := beq_eq_false_iff_ne.2 k11
          have x9 : (kI == 9) = false := beq_eq_false_iff_ne.2 k9
          have x10 : (kI == 10) = false := beq_eq_false_iff_ne.2 k10
          have y11 : (kI != 11) = true := bne_iff_ne.2 k11
          have y9 : (kI != 9) = true := bne_iff_ne.2 k9
          have y10 : (kI != 10) = true := bne_iff_ne.2 k10
          clear hn ht k11 k9 k10
          go_wp2_with fail
          have n4 : ¬ kI < 1 := Int.not_lt.2 e4
          have n5 : ¬ 11 < kI := Int.not_lt.2 e5
          have n1 : ¬ aI < (p : Int) := Int.not_lt.2 e1
          have n2 : ¬ bI < aI := Int.not_lt.2 e2
          have n3 : ¬ (l.length : Int) < bI := Int.not_lt.2 e3
          try simp only [List.append_eq, List.cons_append, List.nil_append]
          refine wp_region_quiet_lit (by kernel_rfl) (Rq.lexB_of _ (by kernel_rfl) rfl (by kernel_rfl)) ?_
          repeat (go_big_quiet_step (first | (go_at_call_has 11 (Value.string (S X)); exact Calls.quiet_of_same (cK _))))
          refine wpQuiet_nil ?_
          intro _ hw'
          obtain ⟨nq, hw''⟩ := hw'
          subst hw''
          go_wp2_with fail
          go_roundw
          case rel => exact ⟨m.b, i + 1, by rw [HB.out], by go_num, by omega, HM.out.in_, HR2, HE2, R2, c2.trans ⟨rfl, rfl, rfl, Nat.le_refl _, fun _ _ => rfl⟩⟩
          case measure => simp [intOf]; omega
      · obtain rfl : i = N := by omega
        have he : p = l.length := HE.out rfl
        subst he
        go_wp2_with fail
        go_ret
        exact ⟨rfl, c2⟩
  · have n0 : ((c : Int) != 0) = true := by rw [bne_iff_ne]; omega
    obtain ⟨cI, hcI⟩ : ∃ x : Int, x = (c : Int) := ⟨_, rfl⟩
    obtain ⟨qI, hqI⟩ : ∃ x : Int, x = (q : Int) := ⟨_, rfl⟩
    rw [← hcI] at n0
    have hq0 : 0 ≤ qI := by omega
    have hq1 : qI ≤ (l.length : Int) := by omega
    have cA := fun w hT => all_no (l := l) w hT (by omega) hA hqI hcI
    clear hA hcI hqI hc
    go_enter Tryd.func4, Tryd.ntmps4
    go_wp2_with fail
    refine (awake_any _ hT).mono ?_; rintro e w1 ⟨rfl, b1⟩
    have T1 := hT.below b1
    go_wp2_with fail
    refine (cA _ T1).mono ?_; rintro e w2 ⟨p, kk, rfl, b2⟩
    have c2 := b1.trans (b2.mono b1.size)
    go_wp2_with fail
    go_ret
    exact ⟨rfl, c2⟩
end Go.Proofs.YtjbkbkfhbombbaaDoor
