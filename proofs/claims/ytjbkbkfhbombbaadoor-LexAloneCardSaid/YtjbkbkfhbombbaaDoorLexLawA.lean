/-
  The law LexAlone.
-/
import Derived.Test.YtjbkbkfhbombbaaDoorLexAwake
import Derived.Test.YtjbkbkfhbombbaaDoorLexMore
import Derived.Deep.QuietTactic
import Derived.BigQuiet
namespace Go.Proofs.YtjbkbkfhbombbaaDoor
open Go.RowKit

theorem pick_index (k : Int) (n : Nat) (hn : 0 < n) : ∃ i : Nat, i < n ∧ (IntKind.u64.wrap k).tmod (n : Int) = (i : Int) := by
  obtain ⟨x, hx⟩ : ∃ x, x = IntKind.u64.wrap k := ⟨_, rfl⟩
  have hx0 : 0 ≤ x := by rw [hx, IntKind.wrap_u64]; omega
  rw [← hx, Int.tmod_eq_emod_of_nonneg hx0]
  have h1 := Int.emod_nonneg x (show (n : Int) ≠ 0 by omega)
  have h2 := Int.emod_lt_of_pos x (show 0 < (n : Int) by omega)
  exact ⟨(x % (n : Int)).toNat, by omega, by omega⟩
set_option maxHeartbeats 4000000 in
set_option maxRecDepth 3000 in
theorem law_LexAlone (s : ByteArray) (k : Int) (w : World) (hs : s.size ≤ maxLen) (hT : TabL w) :
    Calls Tryd.prog 7 #[.string s, .int .i64 k] w fun e w' => e = .returned (.bool true) ∧ Below w.heap.size w w' := by
  obtain ⟨l, rfl⟩ := as_S s
  have z1 := S_size l
  by_cases hL : (3000 : Int) < (l.length : Int)
  · go_enter Tryd.func7, Tryd.ntmps7
    go_wp2_with fail
    refine (awake_any _ hT).mono ?_; rintro e w1 ⟨rfl, b1⟩
    go_wp2_with fail
    go_ret
    exact ⟨rfl, b1⟩
  rcases Lm.ALL_ways (l := l) (by omega) with ⟨ms, hr, hA⟩ | ⟨q, c, _, hc, _, hA⟩
  · obtain ⟨m0, ms', hms⟩ : ∃ m0 ms', ms = m0 :: ms' := by
      cases ms with
      | nil => exact absurd rfl hr.ne
      | cons a b => exact ⟨a, b, rfl⟩
    obtain ⟨N, hN⟩ : ∃ N, ms.length = N := ⟨_, rfl⟩
    have hN1 : ms'.length + 1 = N := by rw [← hN, hms]; rfl
    have hNl := hr.len (Nat.zero_le _)
    obtain ⟨i, hi, hpi⟩ := pick_index k N (by omega)
    obtain ⟨m, hm⟩ : ∃ m, ms[i]? = some m := ⟨ms[i]'(by omega), List.getElem?_eq_getElem (by omega)⟩
    have cA := fun w hT => all_ok (l := l) w hT (by omega) (hms ▸ hA)
    rw [hN1, ← hms] at cA
    have HM := Lib.hid hm
    have HRow := Lib.hid hr
    clear hA hr hms hm
    go_enter Tryd.func7, Tryd.ntmps7
    go_wp2_with fail
    refine (awake_any _ hT).mono ?_; rintro e w1 ⟨rfl, b1⟩
    have T1 := hT.below b1
    go_wp2_with fail
    refine (cA _ T1).mono ?_; rintro e w2 ⟨g, cap, rfl, _, R2, b2⟩
    have T2 := T1.below b2
    have c2 := b1.trans (b2.mono b1.size)
    clear b1 b2 T1
    obtain ⟨kI, hkI⟩ : ∃ x : Int, x = (m.k : Int) := ⟨_, rfl⟩
    obtain ⟨aI, haI⟩ : ∃ x : Int, x = (m.a : Int) := ⟨_, rfl⟩
    obtain ⟨bI, hbI⟩ : ∃ x : Int, x = (m.b : Int) := ⟨_, rfl⟩
    obtain ⟨q0, q1, q2, q3, q4⟩ := R2.five HM.out hkI haI hbI
    obtain ⟨t, ht⟩ : ∃ t, m.t = t := ⟨_, rfl⟩
    obtain ⟨n, hn⟩ : ∃ n, m.n = n := ⟨_, rfl⟩
    rw [ht] at q4
    rw [hn] at q3
    obtain ⟨q, hq, hmk⟩ := HRow.out.mem (Nat.zero_le _) m (List.mem_of_getElem? HM.out)
    have HMK := Lib.hid hmk
    clear hmk
    obtain ⟨W3, hW3⟩ : ∃ W, W = w2.alloc (.cells #[.int .u8 kI, .int .i64 aI, .int .i64 bI, .int .i64 n, .string (S t)] 28) := ⟨_, rfl⟩
    have M3 : MkAt w2.heap.size W3 (.int .u8 kI) (.int .i64 aI) (.int .i64 bI) (.int .i64 n) (.string (S t)) := by rw [hW3]; exact MkAt.new ..
    have d3 : Below w2.heap.size w2 W3 := by rw [hW3]; exact (Below.refl _ _).alloc (Nat.le_refl _) _
    by_cases hk : m.k = 11
    · obtain ⟨hme, hse⟩ := Lm.end_is hq HMK.out hk
      have hnx : Lm.NEXT l (l.length : Int) = (⟨11, l.length, l.length, 0, []⟩, 0) := by
        rw [Lm.NEXT_in (Nat.le_refl _), ← hse, Lm.skip_skip, HMK.out, hme, hse]
      have hke : kI = 11 := by rw [hkI, hk]; rfl
      have hae : aI = (l.length : Int) := by rw [haI, hme]
      have hbe : bI = (l.length : Int) := by rw [hbI, hme]
      obtain rfl : n = 0 := by rw [← hn, hme]
      obtain rfl : t = [] := by rw [← ht, hme]
      have hnx2 : Lm.NEXT l aI = (⟨11, l.length, l.length, 0, []⟩, 0) := by rw [hae]; exact hnx
      have cN := fun w hT => next_is (l := l) w hT (by omega) hnx2 (kI := kI) (xI := aI) (yI := bI) hke hae hbe (cI := 0) rfl
      have cB := fun w hT => all_ok (l := []) w hT (by decide) (Lm.ALL_row Lm.empty_row (by decide))
      have hsl : (S l).extract aI.toNat bI.toNat = S [] := by
        have h := Tx_mid l l.length 0
        rw [Nat.add_zero, List.take_zero] at h
        rw [hae, hbe, Int.toNat_natCast]
        exact h
      have hab : aI ≤ bI := by omega
      have hbl : bI ≤ (l.length : Int) := by omega
      have ha0 : 0 ≤ aI := by omega
      have hk11 : (kI == 11) = true := beq_iff_eq.2 hke
      clear hme hse hnx hnx2 hke hae hbe hkI haI hbI hn ht hk
      go_wp2_with fail
      rw [← hW3]
      clear hW3 q0 q1 q2 q3 q4 R2
      have T3 := T2.below d3
      have c3 := c2.trans (d3.mono c2.size)
      obtain ⟨⟨q0, q1, q2, q3, q4⟩, qf⟩ := M3.cells
      clear d3 c2 T2
      go_wp2_with fail
      refine (cB _ T3).mono ?_; rintro e w4 ⟨g2, cap2, rfl, hg2, R4, b4⟩
      have T4 := T3.below b4
      have c4 := c3.trans (b4.mono c3.size)
      have M4 := M3.below b4
      clear q0 q1 q2 q3 q4 qf
      obtain ⟨⟨q0, q1, q2, q3, q4⟩, qf⟩ := M4.cells
      clear T3 b4 c3 M3 R4
      go_wp2_with fail
      refine (cN _ T4).mono ?_; rintro e w5 ⟨rfl, b5⟩
      have c5 := c4.trans (b5.mono c4.size)
      have M5 := M4.below b5
      have d6 : Below w5.heap.size w5 (w5.alloc (.cells #[.int .u8 kI, .int .i64 aI, .int .i64 bI, .int .i64 0, .string (S [])] 28)) := (Below.refl _ _).alloc (Nat.le_refl _) _
      have N6 := MkAt.new w5 (.int .u8 kI) (.int .i64 aI) (.int .i64 bI) (.int .i64 0) (.string (S []))
      have M6 := M5.below d6
      have c6 := c5.trans (d6.mono c5.size)
      clear q0 q1 q2 q3 q4 qf T4 b5 c4 M4 d6 M5
      obtain ⟨⟨q0, q1, q2, q3, q4⟩, qf⟩ := M6.cells
      obtain ⟨⟨r0, r1, r2, r3, r4⟩, _⟩ := N6.cells
      clear M6 N6
      go_wp2_with fail
      go_ret
      exact ⟨rfl, c6⟩
    · have hon := Lm.on_le hq HMK.out hk
      have hal := Lm.ALL_row (Lm.alone_row hq HMK.out hk) (by rw [List.length_take]; omega)
      have hnx : Lm.NEXT l aI = (⟨m.k, m.a, m.b, n, t⟩, 0) := by
        rw [haI, Lm.NEXT_in (by omega), hon.1, Lm.skip_skip, HMK.out, ← hn, ← ht, ← hon.1]
      have cN := fun w hT => next_is (l := l) w hT (by omega) hnx hkI haI hbI (cI := 0) rfl
      rw [hn, ht] at hal
      have cB := fun w hT => all_ok (l := (l.drop m.a).take (m.b - m.a)) w hT (by rw [List.length_take]; omega) hal
      have hsl : (S l).extract m.a m.b = S ((l.drop m.a).take (m.b - m.a)) := by
        have := Tx_mid l m.a (m.b - m.a)
        rw [show m.a + (m.b - m.a) = m.b by omega] at this
        exact this
      have hab : aI ≤ bI := by omega
      have hbl : bI ≤ (l.length : Int) := by omega
      have ha0 : 0 ≤ aI := by omega
      have hta : aI.toNat = m.a := by omega
      have htb : bI.toNat = m.b := by omega
      have hk11 : (kI == 11) = false := beq_eq_false_iff_ne.2 (by omega)
      obtain ⟨X, hX⟩ : ∃ X, (l.drop m.a).take (m.b - m.a) = X := ⟨_, rfl⟩
      rw [hX] at cB hsl
      have HX := Lib.hid hX
      have HON := Lib.hid hon
      have HKI := Lib.hid hkI
      have HAI := Lib.hid haI
      have HBI := Lib.hid hbI
      clear hX hon hal hnx hk hkI haI hbI
      rw [← hta, ← htb] at hsl
      clear hta htb
      go_wp2_with fail
      rw [← hW3]
      clear hW3 q0 q1 q2 q3 q4 R2
      have T3 := T2.below d3
      have c3 := c2.trans (d3.mono c2.size)
      have hsz2 := c2.size
      have hsz3 : w2.heap.size < W3.heap.size := (Array.getElem?_eq_some_iff.1 M3).1
      obtain ⟨⟨q0, q1, q2, q3, q4⟩, qf⟩ := M3.cells
      clear d3 c2 T2
      go_wp2_with fail
      refine (cB _ T3).mono ?_; rintro e w4 ⟨g2, cap2, rfl, hg2, R4, b4⟩
      have T4 := T3.below b4
      have c4 := c3.trans (b4.mono c3.size)
      have M4 := M3.below b4
      clear q0 q1 q2 q3 q4 qf
      obtain ⟨⟨q0, q1, q2, q3, q4⟩, qf⟩ := M4.cells
      clear T3 b4 c3 M3
      go_wp2_with fail
      refine (cN _ T4).mono ?_; rintro e w5 ⟨rfl, b5⟩
      have c5 := c4.trans (b5.mono c4.size)
      have M5 := M4.below b5
      have R5 := R4.below b5
      obtain ⟨W6, hW6⟩ : ∃ W, W = w5.alloc (.cells #[.int .u8 kI, .int .i64 aI, .int .i64 bI, .int .i64 n, .string (S t)] 28) := ⟨_, rfl⟩
      have N6 : MkAt w5.heap.size W6 (.int .u8 kI) (.int .i64 aI) (.int .i64 bI) (.int .i64 n) (.string (S t)) := by rw [hW6]; exact MkAt.new ..
      have d6 : Below w5.heap.size w5 W6 := by rw [hW6]; exact (Below.refl _ _).alloc (Nat.le_refl _) _
      have M6 := M5.below d6
      have R6 := R5.below d6
      have c6 := c5.trans (d6.mono c5.size)
      clear q0 q1 q2 q3 q4 qf T4 b5 c4 M4 R4 d6 M5 R5
      subst hW6
      obtain ⟨⟨q0, q1, q2, q3, q4⟩, qf⟩ := M6.cells
      obtain ⟨⟨r0, r1, r2, r3, r4⟩, _⟩ := N6.cells
      go_wp2_with fail
      have MU := M6.move (.int .i64 0) (.int .i64 (bI - aI))
      have RU := (R6.set (b := w2.heap.size) (i := 1) (by omega) (.int .i64 0)).set (b := w2.heap.size) (i := 2) (by omega) (.int .i64 (bI - aI))
      have cU := (c6.setCell (p := ⟨w2.heap.size, 1, none⟩) hsz2 (.int .i64 0)).setCell (p := ⟨w2.heap.size, 2, none⟩) hsz2 (.int .i64 (bI - aI))
      clear M6 R6 c6 N6 q0 q1 q2 q3 q4 qf r0 r1 r2 r3 r4
      generalize ((w5.alloc (.cells #[.int .u8 kI, .int .i64 aI, .int .i64 bI, .int .i64 n, .string (S t)] 28)).setCell ⟨w2.heap.size, 1, none⟩ (.int .i64 0)).setCell ⟨w2.heap.size, 2, none⟩ (.int .i64 (bI - aI)) = U at *
      obtain ⟨⟨q0, q1, q2, q3, q4⟩, _⟩ := MU.cells
      obtain ⟨r0, r1, r2, r3, r4⟩ := RU.five (i := 0) rfl (k := kI) (a := 0) (b := bI - aI) HKI.out rfl (by show bI - aI = ((m.b - m.a : Nat) : Int); have := HAI.out; have := HBI.out; have := HON.out; omega)
      have r0 : U.cell? ⟨g2, 0, none⟩ = some (.int .u8 kI) := r0
      have r1 : U.cell? ⟨g2, 1, none⟩ = some (.int .i64 0) := r1
      have r2 : U.cell? ⟨g2, 2, none⟩ = some (.int .i64 (bI - aI)) := r2
      have r3 : U.cell? ⟨g2, 3, none⟩ = some (.int .i64 n) := r3
      have r4 : U.cell? ⟨g2, 4, none⟩ = some (.string (S t)) := r4
      clear MU RU
      go_quiet (fail)
      go_wp2_with fail
      go_ret
      exact ⟨rfl, cU.trans ⟨rfl, rfl, rfl, Nat.le_refl _, fun _ _ => rfl⟩⟩
  · have n0 : ((c : Int) != 0) = true := by rw [bne_iff_ne]; omega
    obtain ⟨cI, hcI⟩ : ∃ x : Int, x = (c : Int) := ⟨_, rfl⟩
    obtain ⟨qI, hqI⟩ : ∃ x : Int, x = (q : Int) := ⟨_, rfl⟩
    rw [← hcI] at n0
    have cA := fun w hT => all_no (l := l) w hT (by omega) hA hqI hcI
    clear hA hcI hqI hc
    go_enter Tryd.func7, Tryd.ntmps7
    go_wp2_with fail
    refine (awake_any _ hT).mono ?_; rintro e w1 ⟨rfl, b1⟩
    have T1 := hT.below b1
    go_wp2_with fail
    refine (cA _ T1).mono ?_; rintro e w2 ⟨p, kk, rfl, b2⟩
    have c2 := b1.trans (b2.mono b1.size)
    go_wp2_with fail
    go_ret
    exact ⟨rfl, c2⟩
end Go.Proofs.YtjbkbkfhbombbaaDoor
