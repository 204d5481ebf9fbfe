/-
  The law LexBlanks.
-/
import Derived.Test.YtjbkbkfhbombbaaDoorLexAwake
import Derived.Test.YtjbkbkfhbombbaaDoorLexBlankd
namespace Go.Proofs.YtjbkbkfhbombbaaDoor
open Go.RowKit

/-- the blanks that the law puts in -/
def BY (r : Nat) : List UInt8 := if r = 0 then [32] else if r = 1 then [9] else if r = 2 then [10, 13] else [32, 32, 9]
theorem BY_ws (r : Nat) : (BY r).all Lm.ws = true ∧ BY r ≠ [] ∧ (BY r).length ≤ 3 := by
  unfold BY
  repeat' split
  all_goals decide
theorem by_cell (w : World) {r : Nat} (h : r < 4) : (w.alloc (.cells #[.string ⟨#[32]⟩, .string ⟨#[9]⟩, .string ⟨#[10, 13]⟩, .string ⟨#[32, 32, 9]⟩] 9)).cell? ⟨w.heap.size, r, none⟩ = some (.string (S (BY r))) := by
  rw [cell_of_row _ _ _ _ _ _ (heap_alloc_new w _)]
  rcases (show r = 0 ∨ r = 1 ∨ r = 2 ∨ r = 3 by omega) with rfl | rfl | rfl | rfl <;> rfl
theorem rem_four (x : UInt8) : ∃ r : Nat, r < 4 ∧ ((x.toNat : Int)).tmod 4 = (r : Int) := by
  refine ⟨x.toNat % 4, Nat.mod_lt _ (by decide), ?_⟩
  rw [Int.tmod_eq_emod_of_nonneg (by omega)]
  omega
set_option maxHeartbeats 4000000 in
set_option maxRecDepth 3000 in
theorem law_LexBlanks (s : ByteArray) (x : UInt8) (w : World) (hs : s.size ≤ maxLen) (hT : TabL w) :
    Calls Tryd.prog 5 #[.string s, .int .u8 (x.toNat : Int)] w fun e w' => e = .returned (.bool true) ∧ Below w.heap.size w w' := by
  obtain ⟨l, rfl⟩ := as_S s
  have z1 := S_size l
  by_cases hL : (1500 : Int) < (l.length : Int)
  · go_enter Tryd.func5, Tryd.ntmps5
    go_wp2_with fail
    refine (awake_any _ hT).mono ?_; rintro e w1 ⟨rfl, b1⟩
    go_wp2_with fail
    go_ret
    exact ⟨rfl, b1⟩
  rcases Lm.ALL_ways (l := l) (by omega) with ⟨ms, hr, hA⟩ | ⟨q, c, _, hc, hq, hA⟩
  · obtain ⟨m0, ms', hms⟩ : ∃ m0 ms', ms = m0 :: ms' := by
      cases ms with
      | nil => exact absurd rfl hr.ne
      | cons a b => exact ⟨a, b, rfl⟩
    obtain ⟨N, hN⟩ : ∃ N, ms.length = N := ⟨_, rfl⟩
    have hN1 : ms'.length + 1 = N := by rw [← hN, hms]; rfl
    have hNl := hr.len (Nat.zero_le _)
    obtain ⟨r, hr4, hmod⟩ := rem_four x
    obtain ⟨hz1, hz2, hz3⟩ := BY_ws r
    have hbc := fun w => by_cell w hr4
    generalize BY r = z at *
    have hjl := Lm.joined_le l z hr (Nat.zero_le _)
    have hzm : z.length * ms.length ≤ 3 * 1501 := Nat.mul_le_mul hz3 (by omega)
    have hJl : (Lm.joined l z ms).length ≤ 6100 := by omega
    have hrow := Lm.blanked_row hz1 hz2 hr (Nat.zero_le _) []
    rw [List.nil_append, List.length_nil] at hrow
    have hA2 := Lm.ALL_row hrow (by omega)
    obtain ⟨J, hJ⟩ : ∃ J, Lm.joined l z ms = J := ⟨_, rfl⟩
    obtain ⟨ns, hns⟩ : ∃ ns, Lm.moved z.length 0 ms = ns := ⟨_, rfl⟩
    have hnl : ns.length = N := by rw [← hns, Lm.moved_len, hN]
    obtain ⟨n0, ns', hnss⟩ : ∃ n0 ns', ns = n0 :: ns' := by
      cases ns with
      | nil => simp at hnl; omega
      | cons a b => exact ⟨a, b, rfl⟩
    have hn1 : ns'.length + 1 = N := by rw [← hnl, hnss]; rfl
    rw [hJ, hns] at hA2
    have cA := fun w hT => all_ok (l := l) w hT (by omega) (hms ▸ hA)
    rw [hN1, ← hms] at cA
    have cC := fun w hT => all_ok (l := J) w hT (by rw [← hJ]; omega) (hnss ▸ hA2)
    rw [hn1, ← hnss] at cC
    have cB := fun g cap w hR => blanked_any l z ms N g cap w (by omega) hz3 hN (by omega) (hr.lies (Nat.zero_le _)) hJl hR
    rw [hJ, hns] at cB
    have HNL := Lib.hid hnl
    have hNb : (N : Int) ≤ 1501 := by omega
    have hN0 : 0 < N := by omega
    clear hA hA2 hr hms hrow hjl hzm hJl hJ hns hnss hn1 hN1 hNl hN hz1 hz2 hz3 hnl
    go_enter Tryd.func5, Tryd.ntmps5
    go_wp2_with fail
    refine (awake_any _ hT).mono ?_; rintro e w1 ⟨rfl, b1⟩
    have T1 := hT.below b1
    go_wp2_with fail
    refine (cA _ T1).mono ?_; rintro e w2 ⟨g, cap, rfl, _, R2, b2⟩
    have c2 := b1.trans (b2.mono b1.size)
    have T2 := T1.below b2
    clear b1 b2 T1 cA
    obtain ⟨W3, hW3⟩ : ∃ W, W = w2.alloc (.cells #[.string ⟨#[32]⟩, .string ⟨#[9]⟩, .string ⟨#[10, 13]⟩, .string ⟨#[32, 32, 9]⟩] 9) := ⟨_, rfl⟩
    have a3 : Below w2.heap.size w2 W3 := by rw [hW3]; exact (Below.refl _ _).alloc (Nat.le_refl _) _
    have R3 := R2.below a3
    have T3 := T2.below a3
    have c3 := c2.trans (a3.mono c2.size)
    have hbc2 := hbc w2
    clear hbc R2 T2 c2 a3
    go_wp2_with fail
    rw [← hW3]
    clear hW3 hbc2
    refine (cB g cap _ R3).mono ?_; rintro e w4 ⟨v, rfl, ho, b4⟩
    obtain ⟨g4, cap4, rfl, _, R4⟩ := row_form ho hN0
    have c4 := c3.trans (b4.mono c3.size)
    have T4 := T3.below b4
    clear cB R3 b4 T3 c3 ho
    go_wp2_with fail
    refine (cC _ T4).mono ?_; rintro e w5 ⟨g5, cap5, rfl, _, R5, b5⟩
    have c5 := c4.trans (b5.mono c4.size)
    have R4 := R4.below b5
    clear T4 b5 c4 cC
    go_wp2_with fail
    go_loopw [14] (fun iv wr => ∃ i : Nat, iv = .int .i64 (i : Int) ∧ i ≤ N ∧ RowAt wr g4 ns ∧ RowAt wr g5 ns ∧ Below w.heap.size w wr) (fun iv _ => N - (intOf iv).toNat)
    case atStart => exact ⟨0, rfl, Nat.zero_le _, R4, R5, c5⟩
    case round =>
      clear R4 R5 c5
      obtain ⟨i, rfl, hi, R4, R5, c5⟩ := hrel
      by_cases hlt : (i : Int) < (N : Int)
      · obtain ⟨m, hm⟩ : ∃ m, ns[i]? = some m := ⟨ns[i]'(by have := HNL.out; omega), List.getElem?_eq_getElem _⟩
        obtain ⟨kI, hkI⟩ : ∃ x : Int, x = (m.k : Int) := ⟨_, rfl⟩
        obtain ⟨aI, haI⟩ : ∃ x : Int, x = (m.a : Int) := ⟨_, rfl⟩
        obtain ⟨bI, hbI⟩ : ∃ x : Int, x = (m.b : Int) := ⟨_, rfl⟩
        obtain ⟨q0, q1, q2, q3, q4⟩ := R4.five hm hkI haI hbI
        obtain ⟨r0, r1, r2, r3, r4⟩ := R5.five hm hkI haI hbI
        generalize m.t = t at *
        generalize m.n = n at *
        clear hkI haI hbI hm
        go_wp2_with fail
        go_quiet (fail)
        go_wp2_with fail
        go_roundw
        case rel => exact ⟨i + 1, by go_num, by omega, R4, R5, c5.trans ⟨rfl, rfl, rfl, Nat.le_refl _, fun _ _ => rfl⟩⟩
        case measure => simp [intOf]; omega
      · go_wp2_with fail
        go_ret
        exact ⟨rfl, c5⟩
  · have n0 : ((c : Int) != 0) = true := by rw [bne_iff_ne]; omega
    obtain ⟨cI, hcI⟩ : ∃ x : Int, x = (c : Int) := ⟨_, rfl⟩
    obtain ⟨qI, hqI⟩ : ∃ x : Int, x = (q : Int) := ⟨_, rfl⟩
    rw [← hcI] at n0
    have cA := fun w hT => all_no (l := l) w hT (by omega) hA hqI hcI
    clear hA hcI hqI hc
    go_enter Tryd.func5, Tryd.ntmps5
    go_wp2_with fail
    refine (awake_any _ hT).mono ?_; rintro e w1 ⟨rfl, b1⟩
    have T1 := hT.below b1
    go_wp2_with fail
    refine (cA _ T1).mono ?_; rintro e w2 ⟨p, kk, rfl, b2⟩
    have c2 := b1.trans (b2.mono b1.size)
    go_wp2_with fail
    go_ret
    exact ⟨rfl, c2⟩
end Go.Proofs.YtjbkbkfhbombbaaDoor
