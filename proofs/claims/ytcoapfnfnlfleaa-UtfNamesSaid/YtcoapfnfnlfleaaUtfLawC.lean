/-
  The walk of UtfStray: it comes to true.
-/
import Derived.Test.YtcoapfnfnlfleaaUtfLawB
namespace Go.Proofs.Ytcoapfnfnlfleaa
open Go.RowKit

theorem LEN_at {l : List UInt8} {b : Bool} (h : (LEN l).2 = b) : (LEN l).2 = b := h
theorem valid_some {l : List UInt8} (h : (LEN l).2 = true) : ∃ n, Um.cnt l = some n := by
  unfold LEN at h
  cases hc : Um.cnt l with
  | none => rw [hc] at h; cases h
  | some n => exact ⟨n, rfl⟩
theorem valid_none {l : List UInt8} (h : Um.cnt l = none) : (LEN l).2 = false := by rw [LEN_none h]
set_option maxRecDepth 100000 in
set_option maxHeartbeats 1600000 in
theorem law_UtfStray (s : ByteArray) (x : UInt8) (w : World) (hs : s.size ≤ maxLen) :
    Calls Try.prog 9 #[.string s, .int .u8 (x.toNat : Int)] w fun e w' => e = .returned (.bool true) ∧ Below w.heap.size w w' := by
  unfold maxLen at hs
  obtain ⟨l, rfl⟩ := as_S s
  by_cases h1 : (20000 : Int) < ((S l).size : Int)
  · go_enter Try.func9, Try.ntmps9
    go_wp2_with fail
    refine (awake_any _).mono ?_; rintro e w3 ⟨rfl, h3⟩
    go_wp2_with fail
    go_ret
    exact ⟨rfl, h3⟩
  have z1 := S_size l
  have hl : l.length ≤ 20000 := by omega
  have hx := x.toNat_lt
  have hcv := fun w => conv_new w [x] 1 #[.int .u8 (x.toNat : Int)] rfl rfl
  have a1 := add_S l [x] (by simp; omega)
  by_cases c1 : (x.toNat : Int) < 128
  · have hN : NX (l ++ [x]) (l.length : Int) = (x.toNat, 1, 0) := by
      rw [NX_in _ _ (by rw [List.length_append]; omega), List.drop_left' rfl]
      have := Um.nx_low x [] (by omega)
      simpa using this
    have HN := Lib.hid hN
    clear hN
    go_enter Try.func9, Try.ntmps9
    go_wp2_with fail
    refine (awake_any _).mono ?_; rintro e w1 ⟨rfl, h1⟩
    have HB : Hid (Below w.heap.size w (w1.alloc (.cells #[.int .u8 (x.toNat : Int)] 5))) := h1.alloc h1.size _
    go_wp2_with fail
    refine (Next_at HB.out (l ++ [x]) _ HN.out).mono ?_; rintro e w2 ⟨rfl, h2⟩
    go_wp2_with fail
    go_ret
    exact ⟨rfl, h2⟩
  by_cases c2 : (194 : Int) ≤ (x.toNat : Int) ∧ (x.toNat : Int) ≤ 244
  · obtain ⟨c2, c3⟩ := c2
    go_enter Try.func9, Try.ntmps9
    go_wp2_with fail
    refine (awake_any _).mono ?_; rintro e w1 ⟨rfl, h1⟩
    go_wp2_with fail
    go_ret
    exact ⟨rfl, h1⟩
  have a2 := add_S (l ++ [x]) l (by simp; omega)
  have hst : Um.nx ([x] ++ l) = (0, 0, 12) := Um.nx_stray x l (by omega)
  have hN := NX_mid l [x]
  rw [hst] at hN
  have HN := Lib.hid hN
  have hcut : ∀ n, Um.cnt l = some n → (LEN (l ++ ([x] ++ l))).2 = false := fun n hn => by
    apply valid_none
    rw [Um.cnt_append hn, Um.cnt_no (by rw [hst]; decide) (by simp)]
    rfl
  have HC := Lib.hid hcut
  have q3 : (l ++ ([x] ++ l)).length ≤ 100000000 := by simp; omega
  obtain ⟨v, hv⟩ : ∃ v, (LEN l).2 = v := ⟨_, rfl⟩
  have HV := Lib.hid hv
  have ql : l.length ≤ 100000000 := by omega
  have QL := Lib.hid ql
  have Q3 := Lib.hid q3
  clear hN hst hcut q3 hv ql
  by_cases c4 : (x.toNat : Int) < 192
  · have c5 : ¬ (194 : Int) ≤ (x.toNat : Int) := by omega
    clear c2
    go_enter Try.func9, Try.ntmps9
    go_wp2_with fail
    refine (awake_any _).mono ?_; rintro e w1 ⟨rfl, h1⟩
    have HB : Hid (Below w.heap.size w (w1.alloc (.cells #[.int .u8 (x.toNat : Int)] 5))) := h1.alloc h1.size _
    go_wp2_with fail
    refine (Next_at HB.out (l ++ ([x] ++ l)) _ HN.out).mono ?_; rintro e w2 ⟨rfl, h2⟩
    go_wp2_with fail
    refine (Valid_at h2 l QL.out HV.out).mono ?_; rintro e w3 ⟨rfl, h3⟩
    cases v
    · go_wp2_with fail
      go_ret
      exact ⟨rfl, h3⟩
    · obtain ⟨n, hn⟩ := valid_some HV.out
      have HF := Lib.hid (HC.out n hn)
      clear hn
      go_wp2_with fail
      refine (Valid_at h3 (l ++ ([x] ++ l)) Q3.out HF.out).mono ?_; rintro e w4 ⟨rfl, h4⟩
      go_wp2_with fail
      go_ret
      exact ⟨rfl, h4⟩
  · have hF : (LEN (l ++ ([x] ++ l))).2 = false := by
      apply valid_none
      rw [← List.append_assoc]
      exact Um.cnt_never l l x (by omega)
    have HF := Lib.hid hF
    clear hF
    by_cases c6 : (194 : Int) ≤ (x.toNat : Int)
    · have c7 : ¬ (x.toNat : Int) ≤ 244 := by omega
      clear c2
      go_enter Try.func9, Try.ntmps9
      go_wp2_with fail
      refine (awake_any _).mono ?_; rintro e w1 ⟨rfl, h1⟩
      have HB : Hid (Below w.heap.size w (w1.alloc (.cells #[.int .u8 (x.toNat : Int)] 5))) := h1.alloc h1.size _
      go_wp2_with fail
      refine (Next_at HB.out (l ++ ([x] ++ l)) _ HN.out).mono ?_; rintro e w2 ⟨rfl, h2⟩
      go_wp2_with fail
      refine (Valid_at h2 (l ++ ([x] ++ l)) Q3.out HF.out).mono ?_; rintro e w3 ⟨rfl, h3⟩
      go_wp2_with fail
      refine (Valid_at h3 l QL.out HV.out).mono ?_; rintro e w4 ⟨rfl, h4⟩
      cases v
      · go_wp2_with fail
        go_ret
        exact ⟨rfl, h4⟩
      · go_wp2_with fail
        refine (Valid_at h4 (l ++ ([x] ++ l)) Q3.out HF.out).mono ?_; rintro e w5 ⟨rfl, h5⟩
        go_wp2_with fail
        go_ret
        exact ⟨rfl, h5⟩
    · clear c2
      go_enter Try.func9, Try.ntmps9
      go_wp2_with fail
      refine (awake_any _).mono ?_; rintro e w1 ⟨rfl, h1⟩
      have HB : Hid (Below w.heap.size w (w1.alloc (.cells #[.int .u8 (x.toNat : Int)] 5))) := h1.alloc h1.size _
      go_wp2_with fail
      refine (Next_at HB.out (l ++ ([x] ++ l)) _ HN.out).mono ?_; rintro e w2 ⟨rfl, h2⟩
      go_wp2_with fail
      refine (Valid_at h2 (l ++ ([x] ++ l)) Q3.out HF.out).mono ?_; rintro e w3 ⟨rfl, h3⟩
      go_wp2_with fail
      refine (Valid_at h3 l QL.out HV.out).mono ?_; rintro e w4 ⟨rfl, h4⟩
      cases v
      · go_wp2_with fail
        go_ret
        exact ⟨rfl, h4⟩
      · go_wp2_with fail
        refine (Valid_at h4 (l ++ ([x] ++ l)) Q3.out HF.out).mono ?_; rintro e w5 ⟨rfl, h5⟩
        go_wp2_with fail
        go_ret
        exact ⟨rfl, h5⟩
end Go.Proofs.Ytcoapfnfnlfleaa
