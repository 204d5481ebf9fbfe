/-
  The law LexNames.
-/
import Derived.Test.YtjbkbkfhbombbaaDoorLexFill
namespace Go.Proofs.YtjbkbkfhbombbaaDoor
open Go.RowKit

set_option maxHeartbeats 8000000 in
set_option maxRecDepth 10000 in
theorem law_LexNames (w : World) (hT : TabL w) :
    Calls Tryd.prog 3 #[] w fun e w' => e = .returned (.bool true) ∧ Below w.heap.size w w' := by
  obtain ⟨N, hN⟩ : ∃ N : Nat, N = 65537 := ⟨_, rfl⟩
  have HN := Lib.hid hN
  have n1 : 65536 ≤ N := by omega
  have n2 : (N : Int) ≤ 65537 := by omega
  have n3 : (65536 : Int) ≤ (N : Int) := by omega
  clear hN
  go_enter Tryd.func3, Tryd.ntmps3
  go_wp2_with fail
  refine (awake_any _ hT).mono ?_; rintro e w1 ⟨rfl, b1⟩
  have T1 := hT.below b1
  go_wp2_with fail
  refine (all_ok _ T1 (by decide) Lm.nm1).mono ?_; rintro e w2 ⟨g, cap, rfl, _, R2, b2⟩
  have T2 := T1.below b2
  have c2 := b1.trans (b2.mono b1.size)
  have HT := Lib.hid hT
  clear b1 b2 T1 hT
  go_wp2_with fail
  have R2 : RowAt w2 g Lm.MS1 := R2
  go_loopw [4] (fun iv wr => ∃ i : Nat, iv = .int .i64 (i : Int) ∧ i ≤ 11 ∧ w2 = wr) (fun iv _ => 11 - (intOf iv).toNat)
  case atStart => exact ⟨0, rfl, by omega, rfl⟩
  case round =>
    obtain ⟨i, rfl, hi, rfl⟩ := hrel
    by_cases hlt : (i : Int) < 11
    · obtain ⟨m, hm, hk⟩ := Lm.nm1_kind (show i < 11 by omega)
      obtain ⟨q0, _⟩ := R2.five hm hk rfl rfl
      clear hm hk R2
      go_wp2_with fail
      go_roundw
      case rel => exact ⟨i + 1, by go_num, by omega, by first | trivial | rfl⟩
      case measure => simp [intOf]; omega
    · obtain rfl : i = 11 := by omega
      clear hlt
      rw [show ((11 : Nat) : Int) = 11 from rfl]
      have f36 : w2.cell? ⟨g, 36, none⟩ = some (.int .i64 11) := R2.2 36 _ rfl
      have f37 : w2.cell? ⟨g, 37, none⟩ = some (.int .i64 16) := R2.2 37 _ rfl
      have f43 : w2.cell? ⟨g, 43, none⟩ = some (.int .i64 (-5)) := R2.2 43 _ rfl
      have f49 : w2.cell? ⟨g, 49, none⟩ = some (.string ⟨#[120]⟩) := R2.2 49 _ rfl
      have f51 : w2.cell? ⟨g, 51, none⟩ = some (.int .i64 21) := R2.2 51 _ rfl
      have f52 : w2.cell? ⟨g, 52, none⟩ = some (.int .i64 21) := R2.2 52 _ rfl
      clear R2
      go_wp2_with fail
      clear f36 f37 f43 f49 f51 f52
      obtain ⟨W3, hW3⟩ : ∃ W, W = w2.alloc (.cells EXC 29) := ⟨_, rfl⟩
      have X3 : ExAt w2.heap.size W3 := by rw [hW3]; exact heap_alloc_new w2 _
      have a3 : Below w2.heap.size w2 W3 := by rw [hW3]; exact (Below.refl _ _).alloc (Nat.le_refl _) _
      have T3 := T2.below a3
      have c3 := c2.trans (a3.mono c2.size)
      clear a3 c2 T2
      unfold EXC at hW3
      rw [← hW3]
      clear hW3
      obtain ⟨B, hB⟩ : ∃ B, w2.heap.size = B := ⟨_, rfl⟩
      rw [hB] at X3
      rw [hB]
      clear hB
      go_loopw [125] (fun iv wr => ∃ i : Nat, iv = .int .i64 (i : Int) ∧ i ≤ 20 ∧ ExAt B wr ∧ TabL wr ∧ Below w.heap.size w wr) (fun iv _ => 20 - (intOf iv).toNat)
      case atStart => exact ⟨0, rfl, by omega, X3, T3, c3⟩
      case round =>
        clear X3 T3 c3
        obtain ⟨i, rfl, hi, X3, T3, c3⟩ := hrel
        by_cases hlt : (i : Int) < 20
        · by_cases h10 : i = 10
          · subst h10
            obtain ⟨e0, e1, e2⟩ := X3.row (i := 10) (by omega) rfl (aI := 1) (eI := 0) rfl rfl
            have e0 : wr.cell? ⟨B, 30, none⟩ = some (.string (S [49, 116, 114, 117, 101])) := e0
            have e1 : wr.cell? ⟨B, 31, none⟩ = some (.int .i64 1) := e1
            have e2 : wr.cell? ⟨B, 32, none⟩ = some (.int .i64 0) := e2
            obtain ⟨W4, hW4⟩ : ∃ W, W = wr.alloc (.cells #[.string (S [49, 116, 114, 117, 101]), .int .i64 1, .int .i64 0] 29) := ⟨_, rfl⟩
            have X4 : XAt wr.heap.size W4 [49, 116, 114, 117, 101] 1 0 := by rw [hW4]; exact heap_alloc_new wr _
            have a4 : Below wr.heap.size wr W4 := by rw [hW4]; exact (Below.refl _ _).alloc (Nat.le_refl _) _
            have T4 := T3.below a4
            have X3 := X3.below a4
            have c4 := c3.trans (a4.mono c3.size)
            obtain ⟨p0, p1, p2⟩ := X4.cells
            rw [hW4] at p0 p1 p2
            clear T3 c3 a4
            rw [show ((10 : Nat) : Int) = 10 from rfl]
            go_wp2_with fail
            rw [← hW4]
            clear hW4 p0 p1 p2 e0 e1 e2
            refine (all_ok _ T4 (by decide) Lm.ex_good).mono ?_; rintro e w5 ⟨g5, k5, rfl, _, _, b5⟩
            have T5 := T4.below b5
            have X5 := X4.below b5
            have X3 := X3.below b5
            have c5 := c4.trans (b5.mono c4.size)
            obtain ⟨p0, p1, p2⟩ := X5.cells
            clear T4 X4 b5 c4
            go_wp2_with fail
            go_roundw
            case rel => exact ⟨11, rfl, by omega, X3, T5, c5⟩
            case measure => simp [intOf]
          · obtain ⟨s, a, e, hx, hA, he, hsl⟩ := Lm.ex_bad (show i < 20 by omega) h10
            obtain ⟨aI, haI⟩ : ∃ x : Int, x = (a : Int) := ⟨_, rfl⟩
            obtain ⟨eI, heI⟩ : ∃ x : Int, x = (e : Int) := ⟨_, rfl⟩
            obtain ⟨e0, e1, e2⟩ := X3.row (show i < 20 by omega) hx haI heI
            have cA := fun w hT => all_no (l := s) w hT (by omega) hA haI heI
            have n0 : (eI != 0) = true := by rw [bne_iff_ne]; omega
            have n4 : (eI == 0) = false := by rw [beq_eq_false_iff_ne]; omega
            obtain ⟨W4, hW4⟩ : ∃ W, W = wr.alloc (.cells #[.string (S s), .int .i64 aI, .int .i64 eI] 29) := ⟨_, rfl⟩
            have X4 : XAt wr.heap.size W4 s aI eI := by rw [hW4]; exact heap_alloc_new wr _
            have a4 : Below wr.heap.size wr W4 := by rw [hW4]; exact (Below.refl _ _).alloc (Nat.le_refl _) _
            have T4 := T3.below a4
            have X3 := X3.below a4
            have c4 := c3.trans (a4.mono c3.size)
            obtain ⟨p0, p1, p2⟩ := X4.cells
            rw [hW4] at p0 p1 p2
            clear T3 c3 a4 hx hA he hsl haI heI h10
            go_wp2_with fail
            rw [← hW4]
            clear hW4 p0 p1 p2 e0 e1 e2
            refine (cA _ T4).mono ?_; rintro e w5 ⟨pp, kk, rfl, b5⟩
            have T5 := T4.below b5
            have X5 := X4.below b5
            have X3 := X3.below b5
            have c5 := c4.trans (b5.mono c4.size)
            obtain ⟨p0, p1, p2⟩ := X5.cells
            clear T4 X4 b5 c4 cA
            go_wp2_with fail
            go_roundw
            case rel => exact ⟨i + 1, by go_num, by omega, X3, T5, c5⟩
            case measure => simp [intOf]; omega
        · obtain rfl : i = 20 := by omega
          clear hlt
          rw [show ((20 : Nat) : Int) = 20 from rfl]
          have hmk := run_make_BB N 65537 (by rw [HN.out]; rfl) (by omega)
          go_wp2_with fail
          have hR : Hid ((wr.alloc (.cells (BB (Lm.Bz N 0)) 5)).heap[wr.heap.size]? = some (.cells (BB (Lm.Bz N 0)) 5 (0, 0))) := heap_alloc_new wr _
          have a6 : Below wr.heap.size wr (wr.alloc (.cells (BB (Lm.Bz N 0)) 5)) := (Below.refl _ _).alloc (Nat.le_refl _) _
          have T6 := T3.below a6
          have c6 := c3.trans (a6.mono c3.size)
          have hq := c3.size
          obtain ⟨D, hD⟩ : ∃ D, wr.heap.size = D := ⟨_, rfl⟩
          rw [hD] at hR hq
          rw [hD]
          clear hmk X3 T3 c3 a6 hD
          go_loopw [11] (fun iv w7 => ∃ k : Nat, iv = .int .i64 (k : Int) ∧ k ≤ N ∧ Hid (w7.heap[D]? = some (.cells (BB (Lm.Bz N k)) 5 (0, 0))) ∧ Below w.heap.size w w7) (fun iv _ => N - (intOf iv).toNat)
          case atStart => exact ⟨0, rfl, by omega, hR, c6⟩
          case round =>
            clear hR c6
            obtain ⟨k, rfl, hk, hR, c6⟩ := hrel
            by_cases hlt : (k : Int) < (N : Int)
            · have hc := cell_BB wr D _ _ _ hR.out k (by rw [Lm.Bz_length _ _ hk]; omega)
              have hf := frozen_of_row wr D k _ _ hR.out
              have hs := Lib.hid (set_BB wr D N _ _ k (by omega) hR.out)
              go_wp2_with fail
              go_roundw
              case rel => exact ⟨k + 1, by go_num, by omega, hs, c6.setCell (p := ⟨D, k, none⟩) hq _⟩
              case measure => simp [intOf]; omega
            · obtain rfl : N = k := by omega
              clear hlt hk
              have T7 := HT.out.below c6
              have hcv := conv_Ba wr D N 65536 hR.out n1
              have hD : D < wr.heap.size := (Array.getElem?_eq_some_iff.1 hR.out).1
              go_wp2_with fail
              refine (all_ok _ T7 (by rw [Lm.Ba_length]; decide) (Lm.Ba_ok 65536 (Nat.le_refl _))).mono ?_; rintro e w8 ⟨g8, k8, rfl, _, R8, b8⟩
              have hR8 : Hid (w8.heap[D]? = some (.cells (BB (Lm.Bz N N)) 5 (0, 0))) := (b8.block D hD).trans hR.out
              have T8 := T7.below b8
              have c8 := c6.trans (b8.mono c6.size)
              clear hcv hR T7 c6 b8 hD
              have hcv := conv_Ba w8 D N N hR8.out (Nat.le_refl _)
              go_wp2_with fail
              refine (all_no _ T8 (by rw [Lm.Ba_length]; have := HN.out; omega) (Lm.Ba_long N (by have := HN.out; omega)) (qI := 0) (cI := 5) rfl rfl).mono ?_; rintro e w9 ⟨p9, k9, rfl, b9⟩
              have T9 := T8.below b9
              have R9 := R8.below b9
              have c9 := c8.trans (b9.mono c8.size)
              clear hcv hR8 T8 c8 b9 R8
              go_wp2_with fail
              refine (next_is _ T9 (by decide) Lm.na1 (kI := 0) (xI := 0) (yI := 0) (cI := 1) rfl rfl rfl rfl).mono ?_; rintro e w10 ⟨rfl, b10⟩
              have T10 := T9.below b10
              have R10 := R9.below b10
              have c10 := c9.trans (b10.mono c9.size)
              clear T9 R9 c9 b10
              go_wp2_with fail
              have a11 : Below w10.heap.size w10 (w10.alloc (.cells #[.int .u8 0, .int .i64 0, .int .i64 0, .int .i64 0, .string (S [])] 28)) := (Below.refl _ _).alloc (Nat.le_refl _) _
              generalize w10.alloc (.cells #[.int .u8 0, .int .i64 0, .int .i64 0, .int .i64 0, .string (S [])] 28) = V11 at a11 ⊢
              have T11 := T10.below a11
              have R11 := R10.below a11
              have c11 := c10.trans (a11.mono c10.size)
              clear T10 R10 c10 a11
              refine (next_is _ T11 (by decide) Lm.na2 (kI := 0) (xI := 0) (yI := 0) (cI := 1) rfl rfl rfl rfl).mono ?_; rintro e w12 ⟨rfl, b12⟩
              have T12 := T11.below b12
              have R12 := R11.below b12
              have c12 := c11.trans (b12.mono c11.size)
              clear T11 R11 c11 b12
              go_wp2_with fail
              have a13 : Below w12.heap.size w12 (w12.alloc (.cells #[.int .u8 0, .int .i64 0, .int .i64 0, .int .i64 0, .string (S [])] 28)) := (Below.refl _ _).alloc (Nat.le_refl _) _
              generalize w12.alloc (.cells #[.int .u8 0, .int .i64 0, .int .i64 0, .int .i64 0, .string (S [])] 28) = V13 at a13 ⊢
              have T13 := T12.below a13
              have R13 := R12.below a13
              have c13 := c12.trans (a13.mono c12.size)
              clear T12 R12 c12 a13
              refine (next_is _ T13 (by decide) Lm.na3 (kI := 11) (xI := 1) (yI := 1) (cI := 0) rfl rfl rfl rfl).mono ?_; rintro e w14 ⟨rfl, b14⟩
              have R14 := R13.below b14
              have c14 := c13.trans (b14.mono c13.size)
              clear T13 R13 c13 b14
              have a15 : Below w14.heap.size w14 (w14.alloc (.cells #[.int .u8 11, .int .i64 1, .int .i64 1, .int .i64 0, .string (S [])] 28)) := (Below.refl _ _).alloc (Nat.le_refl _) _
              have M15 := MkAt.new w14 (.int .u8 11) (.int .i64 1) (.int .i64 1) (.int .i64 0) (.string (S []))
              obtain ⟨⟨p0, p1, p2, p3, p4⟩, pf⟩ := M15.cells
              have R15 := R14.below a15
              have f1 : (w14.alloc (.cells #[.int .u8 11, .int .i64 1, .int .i64 1, .int .i64 0, .string (S [])] 28)).cell? ⟨g8, 1, none⟩ = some (.int .i64 65536) := R15.2 1 _ rfl
              have c15 := c14.trans (a15.mono c14.size)
              have z0 : (S []).toList = [] := S_toList []
              have z2 : (S []).toList.isEmpty = true := by rw [z0]; rfl
              clear R14 c14 a15 M15 R15
              go_wp2_with fail
              go_ret
              exact ⟨rfl, c15⟩
end Go.Proofs.YtjbkbkfhbombbaaDoor
