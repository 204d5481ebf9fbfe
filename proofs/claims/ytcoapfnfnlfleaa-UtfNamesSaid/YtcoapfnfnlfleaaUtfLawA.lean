/-
  The walks of UtfPuts, UtfNexts and UtfOrder: each comes to true.
-/
import Derived.Test.YtcoapfnfnlfleaaUtfAwake
namespace Go.Proofs.Ytcoapfnfnlfleaa
open Go.RowKit

set_option maxHeartbeats 800000 in
theorem law_UtfPuts (k : Int) (w : World) :
    Calls Try.prog 4 #[.int .i64 k] w fun e w' => e = .returned (.bool true) ∧ Below w.heap.size w w' := by
  obtain ⟨a, c, hp⟩ : ∃ a c, PUT k = (a, c) := ⟨_, _, rfl⟩
  have HP := Lib.hid hp
  clear hp
  go_enter Try.func4, Try.ntmps4
  go_wp2_with fail
  refine (Put_at (Below.refl _ _) k HP.out).mono ?_; rintro e w1 ⟨rfl, h1⟩
  go_wp2_with fail
  refine (refPut_at h1 k HP.out).mono ?_; rintro e w2 ⟨rfl, h2⟩
  go_wp2_with fail
  refine (awake_at h2).mono ?_; rintro e w3 ⟨rfl, h3⟩
  go_wp2_with fail
  go_ret
  exact ⟨rfl, h3⟩
set_option maxHeartbeats 800000 in
theorem law_UtfNexts (s : ByteArray) (k : Int) (w : World) (hs : s.size ≤ maxLen) :
    Calls Try.prog 3 #[.string s, .int .i64 k] w fun e w' => e = .returned (.bool true) ∧ Below w.heap.size w w' := by
  unfold maxLen at hs
  obtain ⟨l, rfl⟩ := as_S s
  by_cases h1 : (20000 : Int) < ((S l).size : Int)
  · go_enter Try.func3, Try.ntmps3
    go_wp2_with fail
    refine (awake_any _).mono ?_; rintro e w3 ⟨rfl, h3⟩
    go_wp2_with fail
    go_ret
    exact ⟨rfl, h3⟩
  have z1 := S_size l
  have hl : l.length ≤ 100000000 := by omega
  obtain ⟨a, b, c, hp⟩ : ∃ a b c, NX l k = (a, b, c) := ⟨_, _, _, rfl⟩
  obtain ⟨n, v, hn⟩ : ∃ n v, LEN l = (n, v) := ⟨_, _, rfl⟩
  have HP := Lib.hid hp
  have HN := Lib.hid hn
  have HV := Lib.hid (show (LEN l).2 = v by rw [hn])
  clear hp hn
  go_enter Try.func3, Try.ntmps3
  go_wp2_with fail
  refine (Next_at (Below.refl _ _) l k HP.out).mono ?_; rintro e w1 ⟨rfl, h1⟩
  go_wp2_with fail
  refine (refNext_at h1 l k hl HP.out).mono ?_; rintro e w2 ⟨rfl, h2⟩
  go_wp2_with fail
  refine (Len_at h2 l hl HN.out).mono ?_; rintro e w3 ⟨rfl, h3⟩
  go_wp2_with fail
  refine (refLen_at h3 l hl HN.out).mono ?_; rintro e w4 ⟨rfl, h4⟩
  go_wp2_with fail
  refine (Valid_at h4 l hl HV.out).mono ?_; rintro e w5 ⟨rfl, h5⟩
  go_wp2_with fail
  refine (awake_at h5).mono ?_; rintro e w6 ⟨rfl, h6⟩
  go_wp2_with fail
  go_ret
  exact ⟨rfl, h6⟩
set_option maxHeartbeats 800000 in
theorem law_UtfOrder (a b : Int) (w : World) :
    Calls Try.prog 8 #[.int .i64 a, .int .i64 b] w fun e w' => e = .returned (.bool true) ∧ Below w.heap.size w w' := by
  by_cases ha : rune a
  · by_cases hb : rune b
    · have hA := PUT_ok ha
      have hB := PUT_ok hb
      have na : Um.rn a.toNat := by unfold rune at ha; unfold Um.rn; omega
      have nb : Um.rn b.toNat := by unfold rune at hb; unfold Um.rn; omega
      have e1 := Um.enc_less _ _ na nb
      have e2 := Um.enc_inj _ _ na nb
      generalize Um.enc a.toNat = x at *
      generalize Um.enc b.toNat = y at *
      have f1 : Op.bytesLess (S x).toList (S y).toList = decide (a < b) := by
        rw [S_toList, S_toList, e1, decide_eq_decide]
        unfold rune at ha hb
        omega
      have f2 : ((S x).toList == (S y).toList) = (a == b) := by
        rw [S_toList, S_toList, e2, Bool.eq_iff_iff, decide_eq_true_eq, beq_iff_eq]
        unfold rune at ha hb
        omega
      have HA := Lib.hid hA
      have HB := Lib.hid hB
      clear hA hB e1 e2 ha hb na nb
      go_enter Try.func8, Try.ntmps8
      go_wp2_with fail
      refine (Put_at (Below.refl _ _) a HA.out).mono ?_; rintro e w1 ⟨rfl, h1⟩
      go_wp2_with fail
      refine (Put_at h1 b HB.out).mono ?_; rintro e w2 ⟨rfl, h2⟩
      go_wp2_with fail
      refine (awake_at h2).mono ?_; rintro e w3 ⟨rfl, h3⟩
      go_wp2_with fail
      go_ret
      exact ⟨rfl, h3⟩
    · have HA := Lib.hid (PUT_ok ha)
      have HB := Lib.hid (PUT_no hb)
      clear ha hb
      go_enter Try.func8, Try.ntmps8
      go_wp2_with fail
      refine (Put_at (Below.refl _ _) a HA.out).mono ?_; rintro e w1 ⟨rfl, h1⟩
      go_wp2_with fail
      refine (Put_at h1 b HB.out).mono ?_; rintro e w2 ⟨rfl, h2⟩
      go_wp2_with fail
      refine (awake_at h2).mono ?_; rintro e w3 ⟨rfl, h3⟩
      go_wp2_with fail
      go_ret
      exact ⟨rfl, h3⟩
  · obtain ⟨y, c, hb⟩ : ∃ y c, PUT b = (y, c) := ⟨_, _, rfl⟩
    have HA := Lib.hid (PUT_no ha)
    have HB := Lib.hid hb
    clear ha hb
    go_enter Try.func8, Try.ntmps8
    go_wp2_with fail
    refine (Put_at (Below.refl _ _) a HA.out).mono ?_; rintro e w1 ⟨rfl, h1⟩
    go_wp2_with fail
    refine (Put_at h1 b HB.out).mono ?_; rintro e w2 ⟨rfl, h2⟩
    go_wp2_with fail
    refine (awake_at h2).mono ?_; rintro e w3 ⟨rfl, h3⟩
    go_wp2_with fail
    go_ret
    exact ⟨rfl, h3⟩
end Go.Proofs.Ytcoapfnfnlfleaa
