/-
  What Digits comes to, the program's and the document's, of any number and any least.
-/
import Derived.Test.YthanefhceopcfaaDoorHexEnc
namespace Go.Proofs.YthanefhceopcfaaDoor
open Go.RowKit

theorem and15_64 (n : Nat) (h : n ≤ 18446744073709551615) : bits .and .u64 (n : Int) 15 = (n : Int) % 16 := by
  rw [u64_and _ _ (by omega) (by omega) (by omega) (by omega)]
  have := Nat.and_two_pow_sub_one_eq_mod n 4
  simp only [Int.toNat_natCast] at *
  rw [show (15 : Int).toNat = 2 ^ 4 - 1 from rfl, this]
  omega
theorem len40 : Tryd.prog.arrayLen 40 = 16 := by kernel_rfl
theorem elem40 : Tryd.prog.elem 40 = 5 := by kernel_rfl
theorem und40 : Tryd.prog.underlying 40 = some (.array (Tryd.prog.arrayLen 40) (Tryd.prog.elem 40)) := by kernel_rfl
theorem size5 (w : World) : (sizeOf 5).run Tryd.prog w = .ok 1 w := by kernel_rfl
/-- out[A:] of an array of sixteen -/
theorem cut40 (W : World) (B A j : Nat) (h : A + j = 16) (h1 : 1 ≤ j) :
    (Instr.sliceAt 40 (.pointer (some ⟨B, 0, none⟩)) (some (.int .i64 (A : Int))) none none).run Tryd.prog W = .ok (.slice (some ⟨B, A, none⟩) j j) W := by
  rw [run_sliceAt_array_l W 40 ⟨B, 0, none⟩ und40 .i64 (A : Int) (by omega) (by rw [len40]; omega), elem40, size5, len40]
  simp only [Result.andThen, slicedAt, Int.toNat_natCast]
  rw [if_neg (by omega)]
  have ha : (⟨B, 0, none⟩ : Addr).add (A * 1) = ⟨B, A, none⟩ := by unfold Addr.add; split <;> simp_all
  rw [ha, show 16 - A = j by omega]
theorem conv40 (W : World) (B A j : Nat) (cs : Array Value) (l : List UInt8) (h : A + j = 16) (hl : l.length = j) (hC : W.heap[B]? = some (.cells cs 40 (0, 0))) (hD : cs.toList.drop A = V l) :
    (convert 23 9 (.slice (some ⟨B, A, none⟩) j j)).run Tryd.prog W = .ok (.string (S l)) W := by
  subst hl
  refine run_convert_bytes_back (P := Tryd.prog) W 23 9 5 ⟨B, A, none⟩ _ l Tryd.underlying23 Tryd.underlying5 Tryd.underlying9 ?_
  intro i hi
  have ha : (⟨B, A, none⟩ : Addr).add i = ⟨B, A + i, none⟩ := by unfold Addr.add; split <;> simp_all
  rw [ha, cell_of_row W B (A + i) cs _ _ hC]
  have hx : (V l)[i]? = some (.int .u8 (l[i].toNat : Int)) := by simp [V, List.getElem?_eq_getElem hi]
  rw [← hD, List.getElem?_drop, Array.getElem?_toList] at hx
  exact hx

set_option maxRecDepth 100000 in
set_option maxHeartbeats 800000 in
theorem digits_any (n : Nat) (least : Int) (w : World) (hn : n ≤ 18446744073709551615) (hT : Tab w) :
    Calls Tryd.prog 17 #[.int .u64 n, .int .i64 least] w fun e w' => e = .returned (.string (S (Hm.digs n least))) ∧ Below w.heap.size w w' := by
  have HN := Lib.hid hn
  have hB := hT.lt
  obtain ⟨L1, L2, hL⟩ := Hm.want_bd least
  have HL := Lib.hid hL
  clear hL
  go_enter Tryd.func17, Tryd.ntmps17
  go_wp2_with (go_at_call 25; refine (within_any _ _ _ _ (by omega)).mono ?_; rintro e w' ⟨rfl, rfl⟩)
  rw [← HL.out]
  go_loopw [0, 6] (fun nv av wr => ∃ (j N A : Nat) (cs : Array Value), Hid (N = n / 16 ^ j) ∧ A + j ≤ 16 ∧ 16 ≤ A + j ∧ nv = .int .u64 N ∧ av = .int .i64 A ∧
      Hid (wr.heap[w.heap.size]? = some (.cells cs 40 (0, 0))) ∧ Hid (cs.size = 16 ∧ cs.toList.drop A = V (Hm.low j n)) ∧ Below w.heap.size w wr ∧ Hid (∀ i, i < j → 0 < n / 16 ^ i ∨ i < Hm.want least))
    (fun _ av _ => (intOf av).toNat)
  case atStart => exact ⟨0, n, 16, _, by unfold Hid; simp, by omega, by omega, rfl, rfl, heap_alloc_new w _, ⟨rfl, rfl⟩, (Below.refl _ _).alloc (Nat.le_refl _) _, fun i hi => by omega⟩
  case round =>
    obtain ⟨j, N, A, cs, HJ, a1, a2, rfl, rfl, HC, HD, hbel, HI⟩ := hrel
    have hsz := hbel.size
    have hT' := hT.below hbel hB
    have hNn : N ≤ 18446744073709551615 := by rw [HJ.out]; exact Nat.le_trans (Nat.div_le_self _ _) HN.out
    by_cases hgo : 0 < N ∨ 16 - A < Hm.want least
    · have hA : 0 < A := by
        rcases Nat.eq_zero_or_pos A with h | h
        · have hj : j = 16 := by omega
          have h0 : N = 0 := by rw [HJ.out, hj]; exact Nat.div_eq_of_lt (by omega)
          omega
        · exact h
      obtain ⟨A', rfl⟩ : ∃ A', A = A' + 1 := ⟨A - 1, by omega⟩
      clear hA
      have c1 := hT'.cell (N % 16) (by omega)
      have g5 := and15_64 N hNn
      have hcs : A' < cs.size := by rw [HD.out.1]; omega
      have h1 : wr.cell? ⟨w.heap.size, A', none⟩ = some cs[A'] := by rw [cell_of_row wr _ A' cs _ _ HC.out]; exact Array.getElem?_eq_getElem hcs
      have h2 : wr.frozen? ⟨w.heap.size, A', none⟩ = false := by have := HC.out; simp [World.frozen?, this]
      have key : N % 16 = n / 16 ^ j % 16 := by rw [HJ.out]
      have KEY := Lib.hid key
      clear key
      have hC' : (wr.setCell ⟨w.heap.size, A', none⟩ (.int .u8 (Hm.dg (N % 16)))).heap[w.heap.size]? = some (.cells (cs.setIfInBounds A' (.int .u8 (Hm.dg (N % 16)))) 40 (0, 0)) := by
        have := HC.out
        simp [World.setCell, Array.getElem?_modify, this]
      have hD' : (cs.setIfInBounds A' (.int .u8 (Hm.dg (N % 16)))).size = 16 ∧ (cs.setIfInBounds A' (.int .u8 (Hm.dg (N % 16)))).toList.drop A' = V (Hm.low (j + 1) n) := by
        refine ⟨by rw [Array.size_setIfInBounds]; exact HD.out.1, ?_⟩
        rw [Array.toList_setIfInBounds, List.drop_eq_getElem_cons (by simpa using hcs), List.getElem_set_self, List.drop_set_of_lt (by omega), HD.out.2]
        simp only [Hm.low, V, List.map_cons]
        rw [Hm.dgb_toNat _ (by omega), ← KEY.out]
      have HC' := Lib.hid hC'
      have HD' := Lib.hid hD'
      have hb' : Below w.heap.size w (wr.setCell ⟨w.heap.size, A', none⟩ (.int .u8 (Hm.dg (N % 16)))) := hbel.setCell (Nat.le_refl _) _
      have HI' : Hid (∀ i, i < j + 1 → 0 < n / 16 ^ i ∨ i < Hm.want least) := by
        intro i hi
        rcases Nat.lt_or_ge i j with h | h
        · exact HI.out i h
        · obtain rfl : i = j := by omega
          rw [← HJ.out]; rcases hgo with h | h
          · exact .inl h
          · exact .inr (by omega)
      have HJ' : Hid (N / 16 = n / 16 ^ (j + 1)) := by rw [HJ.out, Nat.div_div_eq_div_mul, Nat.pow_succ]; rfl
      clear hC' hD'
      by_cases hN : 0 < N
      · clear hgo
        go_wp2
        go_roundw
        case rel => exact ⟨j + 1, N / 16, A', _, HJ', by omega, by omega, by go_num, by go_num, HC', HD', hb', HI'⟩
        case measure => simp [intOf] <;> omega
      · have hx : (16 : Int) - ((A' : Int) + 1) < (Hm.want least : Int) := by omega
        clear hgo
        go_wp2
        go_roundw
        case rel => exact ⟨j + 1, N / 16, A', _, HJ', by omega, by omega, by go_num, by go_num, HC', HD', hb', HI'⟩
        case measure => simp [intOf] <;> omega
    · have hj : j = Hm.dlen n least := by
        refine Hm.stop_at n _ j (by have := HN.out; omega) L1 (by rw [← HJ.out]; omega) (by omega) HI.out
      have hx : ¬ ((16 : Int) - (A : Int) < (Hm.want least : Int)) := by omega
      have hN : ¬ (0 < N) := by omega
      have HE : Hid (j = Hm.dlen n least) := hj
      clear hj hgo
      have hsl := cut40 wr w.heap.size A j (by omega) (by omega)
      have hcv := conv40 wr w.heap.size A j cs (Hm.low j n) (by omega) (Hm.low_length _ _) HC.out HD.out.2
      go_wp2
      go_ret
      exact ⟨ret_str (by rw [HE.out]; rfl), hbel⟩

theorem dgs_low (j n N : Nat) (h : N = n / 16 ^ j) : dgs ((N : Int) % 16) ++ Hm.low j n = Hm.low (j + 1) n := by
  have e : ((N : Int) % 16).toNat = N % 16 := by omega
  unfold dgs
  rw [e, h]; rfl
theorem low_one (n : Nat) : dgs ((n : Int) % 16) = Hm.low 1 n := by
  have e : ((n : Int) % 16).toNat = n % 16 := by omega
  unfold dgs
  rw [e]; simp [Hm.low, Hm.dgb]
theorem dgs_zero (j n : Nat) (h : n / 16 ^ j = 0) : [(48 : UInt8)] ++ Hm.low j n = Hm.low (j + 1) n := by
  simp only [Hm.low, h]; rfl
def lenOf : Value → Nat | .string s => s.size | _ => 0

set_option maxRecDepth 100000 in
set_option maxHeartbeats 800000 in
theorem refDigits_any (n : Nat) (least : Int) (w : World) (hn : n ≤ 18446744073709551615) :
    Calls Tryd.prog 23 #[.int .u64 n, .int .i64 least] w fun e w' => e = .returned (.string (S (Hm.digs n least))) ∧ Below w.heap.size w w' := by
  have HN := Lib.hid hn
  go_enter Tryd.func23, Tryd.ntmps23
  go_wp2_with (go_at_call 27; refine (refdigit_any _ _ (by omega) (by omega)).mono ?_; rintro e w1 ⟨rfl, hb1⟩)
  go_loopw [0, 5] (fun nv sv wr => ∃ (j N : Nat), Hid (N = n / 16 ^ j) ∧ 1 ≤ j ∧ Hid (∀ i, i < j → i = 0 ∨ 0 < n / 16 ^ i) ∧ nv = .int .u64 N ∧ sv = .string (S (Hm.low j n)) ∧ Below w.heap.size w wr)
    (fun nv _ _ => (intOf nv).toNat)
  case atStart => exact ⟨1, n / 16, by unfold Hid; simp, by omega, fun i hi => .inl (by omega), by go_num, by rw [low_one], hb1⟩
  case round =>
    clear hb1
    obtain ⟨j, N, HJ, hj, HI, rfl, rfl, hbel⟩ := hrel
    have hNn : N ≤ 18446744073709551615 := by rw [HJ.out]; exact Nat.le_trans (Nat.div_le_self _ _) HN.out
    have hsz := hbel.size
    have hjl : j ≤ 17 := by
      rcases Nat.lt_or_ge 17 j with h | h
      · have h1 := HI.out 16 (by omega)
        have h2 : n / 16 ^ 16 = 0 := Nat.div_eq_of_lt (by have := HN.out; omega)
        omega
      · exact h
    by_cases hN : 0 < N
    · have A1 := add_S (dgs ((N : Int) % 16)) (Hm.low j n) (by simp [dgs, Hm.low_length]; omega)
      have HI' : Hid (∀ i, i < j + 1 → i = 0 ∨ 0 < n / 16 ^ i) := by
        intro i hi
        rcases Nat.lt_or_ge i j with h | h
        · exact HI.out i h
        · obtain rfl : i = j := by omega
          rw [← HJ.out]; exact .inr hN
      have HJ' : Hid (N / 16 = n / 16 ^ (j + 1)) := by rw [HJ.out, Nat.div_div_eq_div_mul, Nat.pow_succ]; rfl
      rw [dgs_low j n N HJ.out] at A1
      go_wp2_with (go_at_call 27; refine (from_ (w0 := w) hbel (refdigit_any _ _ (by omega) (by omega))).mono ?_; rintro e w2 ⟨rfl, hb2⟩)
      go_roundw
      case rel => exact ⟨j + 1, N / 16, HJ', by omega, HI', by go_num, rfl, hb2⟩
      case measure => simp [intOf]; omega
    · have h0 : n / 16 ^ j = 0 := by rw [← HJ.out]; omega
      have hnd := Hm.nd_at n j (by have := HN.out; omega) hj h0 HI.out
      obtain ⟨L1, L2, hL⟩ := Hm.want_bd least
      have HL := Lib.hid hL
      have HD := Lib.hid hnd
      have H0 := Lib.hid h0
      clear hL hnd h0
      go_wp2
      go_loop [5] (fun sv => ∃ i : Nat, j ≤ i ∧ i ≤ max j (Hm.want least) ∧ Hid (n / 16 ^ i = 0) ∧ sv = .string (S (Hm.low i n))) (fun sv => 20 - lenOf sv)
      case atStart => exact ⟨j, Nat.le_refl _, by omega, H0, rfl⟩
      case round =>
        obtain ⟨i, i1, i2, H1, rfl⟩ := hrel
        have hS : (S (Hm.low i n)).size = i := by rw [S_size, Hm.low_length]
        have hi16 : i ≤ 17 := by omega
        by_cases hlt : (i : Int) < least ∧ i < 16
        · obtain ⟨g1, g2⟩ := hlt
          have hw : i < Hm.want least := by have := HL.out; omega
          have A1 := add_S [48] (Hm.low i n) (by simp [Hm.low_length]; omega)
          rw [dgs_zero i n H1.out] at A1
          have A2 : (Op.stringOp .add ⟨#[48]⟩ (S (Hm.low i n))).run Tryd.prog wr = .ok (.string (S (Hm.low (i + 1) n))) wr := A1 wr
          have H2 : Hid (n / 16 ^ (i + 1) = 0) := Hm.div_zero_mono n i (i + 1) H1.out (by omega)
          have hS' : Hid ((S (Hm.low (i + 1) n)).size = i + 1) := by unfold Hid; rw [S_size, Hm.low_length]
          clear A1
          go_wp2
          go_round
          case rel => exact ⟨i + 1, by omega, by omega, H2, rfl⟩
          case measure => simp only [lenOf, hS, hS'.out]; omega
        · have hw : i = max j (Hm.want least) := by have := HL.out; omega
          have HW := Lib.hid hw
          have HE : Hid (Hm.digs n least = Hm.low i n) := by unfold Hm.digs Hm.dlen Hid; rw [← HD.out, ← HW.out]
          clear hw
          by_cases g1 : (i : Int) < least
          · have g2 : ¬ (i : Int) < 16 := by omega
            clear hlt
            go_wp2
            go_ret
            exact ⟨ret_str (by rw [HE.out]), hbel⟩
          · clear hlt
            go_wp2
            go_ret
            exact ⟨ret_str (by rw [HE.out]), hbel⟩

end Go.Proofs.YthanefhceopcfaaDoor
