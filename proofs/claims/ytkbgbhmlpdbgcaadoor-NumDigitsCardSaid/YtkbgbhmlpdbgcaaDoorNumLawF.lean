/-
  NumDigits.
-/
import Derived.Test.YtkbgbhmlpdbgcaaDoorNumReg
namespace Go.Proofs.YtkbgbhmlpdbgcaaDoor
open Go.RowKit
open Go.Lib (itoa decDigits)

set_option maxHeartbeats 4000000 in
set_option maxRecDepth 3000 in
theorem law_NumDigits (n : Int) (d : UInt8) (w : World) (hn : -9223372036854775808 ≤ n ∧ n ≤ 9223372036854775807) (hT : TabN w) :
    Calls Tryd.prog 8 #[.int .i64 n, .int .u8 (d.toNat : Int)] w fun e w' => e = .returned (.bool true) ∧ Below w.heap.size w w' := by
  have hd := d.toNat_lt
  obtain ⟨X, hX⟩ : ∃ X : Int, X = (d.toNat : Int) := ⟨_, rfl⟩
  rw [← hX]
  have hX0 : 0 ≤ X ∧ X ≤ 255 := by omega
  clear hX hd
  obtain ⟨D, hD⟩ : ∃ D : Int, X.tmod 10 = D := ⟨_, rfl⟩
  have hD0 : 0 ≤ D ∧ D ≤ 9 := by
    rw [← hD, Int.tmod_eq_emod_of_nonneg hX0.1]
    omega
  by_cases h1 : n < 1
  · go_enter Tryd.func8, Tryd.ntmps8
    go_wp2_with fail
    refine (awake_any w hT).mono ?_; rintro e w1 ⟨rfl, hb⟩
    go_wp2_with fail
    go_ret
    exact ⟨rfl, hb⟩
  obtain ⟨c, hc⟩ : ∃ c, c = UInt8.ofNat (48 + D.toNat) := ⟨_, rfl⟩
  have hcn : (c.toNat : Int) = 48 + D := by rw [hc, Nm.toNat_of (by omega)]; omega
  have hcd : Nm.dig c = true := by rw [hc]; exact Nm.dig_of (by omega)
  clear hc
  obtain ⟨hf, hv⟩ := Nm.more_dig_form (n := n) (by omega) hcd
  have hv2 : Nm.val (itoa n ++ [c]) = 10 * n + D := by rw [hv, hcn]; omega
  have hR := Nm.READ_form hf
  have hS := Nm.itoa_val hf
  rw [hv2] at hR hS
  have hL : (itoa n ++ [c]).length ≤ 30 := by
    have := Go.Lib.itoa_length_le n hn.1 hn.2
    simp
    omega
  have hq : (9223372036854775807 - D).tdiv 10 = (9223372036854775807 - D) / 10 := Int.tdiv_eq_ediv_of_nonneg (by omega)
  obtain ⟨q, hqq⟩ : ∃ q, (9223372036854775807 - D).tdiv 10 = q := ⟨_, rfl⟩
  have hq2 : q = (9223372036854775807 - D) / 10 := hqq.symm.trans hq
  have hw : wrap64 q = q := by unfold wrap64; omega
  clear hq hv hcd
  by_cases hbig : q < n
  · have hin : Nm.inR (10 * n + D) = false := by
      rw [Bool.eq_false_iff]
      intro h
      have := Nm.inR_iff'.1 h
      omega
    rw [hin] at hR
    have hR' : Nm.READ (itoa n ++ [c]) 0 = (0, 0, 9) := hR
    clear hR hS hin hv2 hf hq2
    go_enter Tryd.func8, Tryd.ntmps8
    go_wp2_with fail
    refine (awake_any w hT).mono ?_; rintro e w1 ⟨rfl, hb⟩
    go_wp2_with fail
    refine dig_region (by kernel_rfl) (by kernel_rfl) (by rfl) (by rfl) (by simp) (hT.below hb) hn hD0 hcn hR' (fun f w2 hf5 hf6 hf7 hb2 => ?_)
    have c2 := hb.trans (hb2.mono hb.size)
    clear hb hb2
    rw [putR_lit]
    simp only [putL, pd, Nat.reduceAdd, Nat.reduceLeDiff, decide_true, decide_false, Bool.and_true, Bool.and_false, Bool.or_true, Bool.or_false, cond_true, cond_false, hf5, hf6, hf7]
    go_wp2_with fail
    go_ret
    exact ⟨rfl, c2⟩
  · have hin : Nm.inR (10 * n + D) = true := by
      rw [Nm.inR_iff']
      omega
    rw [hin] at hR
    have hR' : Nm.READ (itoa n ++ [c]) 0 = (10 * n + D, ((itoa n ++ [c]).length : Int), 0) := hR
    have hm := Nm.inR_iff'.1 hin
    have dm := fun w hT => Show_any (10 * n + D) w hT hm.1 hm.2
    rw [hS] at dm
    have zL := S_size (itoa n ++ [c])
    have h10 : -9223372036854775808 ≤ 10 * n ∧ 10 * n ≤ 9223372036854775807 := by omega
    clear hR hS hin hv2 hf hq2
    go_enter Tryd.func8, Tryd.ntmps8
    go_wp2_with fail
    refine (awake_any w hT).mono ?_; rintro e w1 ⟨rfl, hb⟩
    go_wp2_with fail
    refine dig_region (by kernel_rfl) (by kernel_rfl) (by rfl) (by rfl) (by simp) (hT.below hb) hn hD0 hcn hR' (fun f w2 hf5 hf6 hf7 hb2 => ?_)
    have c2 := hb.trans (hb2.mono hb.size)
    clear hb hb2 hR'
    generalize itoa n ++ [c] = L at *
    obtain ⟨m, hmm⟩ : ∃ m, m = 10 * n + D := ⟨_, rfl⟩
    rw [← hmm] at dm hf5
    have HM := Lib.hid hmm
    have hme : (m == 10 * n + D) = true := beq_iff_eq.2 hmm
    clear hmm
    rw [putR_lit]
    simp only [putL, pd, Nat.reduceAdd, Nat.reduceLeDiff, decide_true, decide_false, Bool.and_true, Bool.and_false, Bool.or_true, Bool.or_false, cond_true, cond_false, hf5, hf6, hf7]
    go_wp2_with fail
    refine (dm _ (hT.below c2)).mono ?_; rintro e w3 ⟨rfl, b3⟩
    go_wp2_with fail
    go_ret
    exact ⟨ret_bool (by simp), c2.trans (b3.mono c2.size)⟩
end Go.Proofs.YtkbgbhmlpdbgcaaDoor
