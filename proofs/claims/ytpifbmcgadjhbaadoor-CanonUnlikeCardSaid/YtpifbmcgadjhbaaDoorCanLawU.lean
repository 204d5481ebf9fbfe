/-
  CanonUnlike, CanonEnds.
-/
import Derived.Test.YtpifbmcgadjhbaaDoorCanAwake
import Derived.Test.YtpifbmcgadjhbaaDoorCanFree
import Derived.Test.YtpifbmcgadjhbaaDoorValHead
import Derived.Test.YtpifbmcgadjhbaaDoorValRefSame
namespace Go.Proofs.YtpifbmcgadjhbaaDoor
open Go.RowKit

theorem may_part {x : JV} (h : x.may = true) : x.part = true := by
  unfold JV.may at h
  simp only [Bool.and_eq_true] at h
  exact h.1
set_option maxHeartbeats 8000000 in
set_option maxRecDepth 10000 in
theorem law_CanonUnlike (x : JV) (v : Value) (y : JV) (u : Value) (w : World) (hv : HV w v x) (hu : HV w u y) (hT : TabN w) :
    Calls Tryd.prog 5 #[v, u] w fun e w' => e = .returned (.bool true) ∧ Below w.heap.size w w' := by
  obtain ⟨a, b, ca, cb, a', b', ca', cb', rfl, rfl, hh⟩ := head2 hv hu
  obtain ⟨W3, hW3⟩ : ∃ W3, W3 = ((w.alloc (.cells #[.int .u8 (x.k : Int), .int .i64 x.n, .string (S x.t), .slice a x.ns.length ca, .slice b x.is.length cb] 25)).alloc (.cells #[.int .u8 (y.k : Int), .int .i64 y.n, .string (S y.t), .slice a' y.ns.length ca', .slice b' y.is.length cb'] 25)).alloc
          (.cells #[.int .u8 (x.k : Int), .int .i64 x.n, .string (S x.t), .slice a x.ns.length ca, .slice b x.is.length cb, .int .u8 (y.k : Int), .int .i64 y.n, .string (S y.t), .slice a' y.ns.length ca', .slice b' y.is.length cb'] 25) := ⟨_, rfl⟩
  obtain ⟨c3, HV1, HV2, HX, HY, cL⟩ := hh W3 hW3
  have HV1 := Lib.hid HV1
  have HV2 := Lib.hid HV2
  have HX := Lib.hid HX
  have HY := Lib.hid HY
  have C3 := Lib.hid c3
  have T3 := hT.below c3
  clear hh hv hu c3 hT
  go_enter Tryd.func5, Tryd.ntmps5
  go_wp2_with fail
  rw [← hW3]
  clear hW3
  refine cL.mono ?_; rintro e w4 ⟨⟨B, rfl, hB⟩, rfl⟩
  cases B with
  | true =>
    go_wp2_with fail
    refine (awake10_any _ T3).mono ?_; rintro e w5 ⟨rfl, b5⟩
    go_wp2_with fail
    go_ret
    exact ⟨rfl, C3.out.trans (b5.mono C3.out.size)⟩
  | false =>
  have hwx : x.wt ≤ 90000 := by have := hB rfl; omega
  have hwy : y.wt ≤ 90000 := by have := hB rfl; omega
  clear hB cL
  go_wp2_with fail
  refine (awake10_any _ T3).mono ?_; rintro e w5 ⟨rfl, b5⟩
  obtain ⟨⟨p0, p1, p2, p3, p4⟩, _⟩ := (HV1.out w5 b5).cells
  have T5 := T3.below b5
  obtain ⟨B, hB⟩ : ∃ B, B = x.same y := ⟨_, rfl⟩
  have cS := fun W h => refSame_any _ x y (Nat.le_refl _) W _ _ (HX.out W h) (HY.out W h)
  rw [← hB] at cS
  have CS := Lib.hid cS
  obtain ⟨M, hM⟩ : ∃ M, M = x.may := ⟨_, rfl⟩
  obtain ⟨N, hN⟩ : ∃ N, N = y.may := ⟨_, rfl⟩
  have cM := fun W h => may_any x W _ hwx (HX.out W h) hM.symm
  have cN := fun W h => may_any y W _ hwy (HY.out W h) hN.symm
  have CM := Lib.hid cM
  have CN := Lib.hid cN
  obtain ⟨s, z, hE⟩ : ∃ s z, ENC x = (s, z) := ⟨_, _, rfl⟩
  obtain ⟨t, r, hF⟩ : ∃ t r, ENC y = (t, r) := ⟨_, _, rfl⟩
  have cE := fun W h => enc_call hE _ W hwx (HX.out W h)
  have cF := fun W h => enc_call hF _ W hwy (HY.out W h)
  have hz : (M = true ∧ z = 0) ∨ (M = false ∧ z = 3) := by
    rw [hM]
    cases h : x.may with
    | true => rw [ENC_ok h] at hE; exact .inl ⟨rfl, (Prod.mk.inj hE).2.symm⟩
    | false => rw [ENC_no h] at hE; exact .inr ⟨rfl, (Prod.mk.inj hE).2.symm⟩
  have hr : (N = true ∧ r = 0) ∨ (N = false ∧ r = 3) := by
    rw [hN]
    cases h : y.may with
    | true => rw [ENC_ok h] at hF; exact .inl ⟨rfl, (Prod.mk.inj hF).2.symm⟩
    | false => rw [ENC_no h] at hF; exact .inr ⟨rfl, (Prod.mk.inj hF).2.symm⟩
  have HST : Hid (z = 0 → r = 0 → ((S s).toList == (S t).toList) = B) := by
    intro h1 h2
    have m1 : x.may = true := by rcases hz with ⟨h, _⟩ | ⟨_, h⟩; exact (hM ▸ h); omega
    have m2 : y.may = true := by rcases hr with ⟨h, _⟩ | ⟨_, h⟩; exact (hN ▸ h); omega
    rw [ENC_ok m1] at hE
    rw [ENC_ok m2] at hF
    rw [S_toList, S_toList, ← (Prod.mk.inj hE).1, ← (Prod.mk.inj hF).1, hB]
    by_cases hxy : x = y
    · rw [hxy, JV.same_yes]; simp
    · rw [JV.same_no hxy, beq_eq_false_iff_ne]
      exact fun h => hxy (Cn.unlike (may_part m1) (may_part m2) h)
  have CE := Lib.hid cE
  have CF := Lib.hid cF
  have HB5 := Lib.hid b5
  clear cS cM cN cE cF hE hF hM hN hB b5 T3 hwx hwy
  go_wp2_with fail
  refine (CE.out w5 HB5.out T5).mono ?_; rintro e w6 ⟨rfl, b6⟩
  have HB6 := Lib.hid (HB5.out.trans (b6.mono HB5.out.size))
  have T6 := T5.below b6
  obtain ⟨⟨q0, q1, q2, q3, q4⟩, _⟩ := (HV2.out w6 HB6.out).cells
  clear p0 p1 p2 p3 p4 b6 T5
  go_wp2_with fail
  refine (CF.out w6 HB6.out T6).mono ?_; rintro e w7 ⟨rfl, b7⟩
  have HB7 := Lib.hid (HB6.out.trans (b7.mono HB6.out.size))
  obtain ⟨⟨p0, p1, p2, p3, p4⟩, _⟩ := (HV1.out w7 HB7.out).cells
  clear q0 q1 q2 q3 q4 b7 T6
  rcases hz with ⟨rfl, rfl⟩ | ⟨rfl, rfl⟩ <;> rcases hr with ⟨rfl, rfl⟩ | ⟨rfl, rfl⟩
  · have hst := HST.out rfl rfl
    clear HST
    go_wp2_with fail
    refine (CM.out w7 HB7.out).mono ?_; rintro e w8 ⟨rfl, b8⟩
    have HB8 := Lib.hid (HB7.out.trans (b8.mono HB7.out.size))
    obtain ⟨⟨q0, q1, q2, q3, q4⟩, _⟩ := (HV2.out w8 HB8.out).cells
    clear p0 p1 p2 p3 p4 b8
    go_wp2_with fail
    refine (CN.out w8 HB8.out).mono ?_; rintro e w9 ⟨rfl, b9⟩
    have HB9 := Lib.hid (HB8.out.trans (b9.mono HB8.out.size))
    obtain ⟨⟨p0, p1, p2, p3, p4⟩, _⟩ := (HV1.out w9 HB9.out).cells
    obtain ⟨⟨r0, r1, r2, r3, r4⟩, _⟩ := (HV2.out w9 HB9.out).cells
    clear q0 q1 q2 q3 q4 b9
    go_wp2_with fail
    refine (CS.out w9 HB9.out).mono ?_; rintro e w10 ⟨rfl, b10⟩
    have HB10 := Lib.hid (HB9.out.trans (b10.mono HB9.out.size))
    clear b10
    go_wp2_with fail
    go_ret
    exact ⟨by simp, C3.out.trans (HB10.out.mono C3.out.size)⟩
  all_goals
    clear HST
    go_wp2_with fail
    refine (CM.out w7 HB7.out).mono ?_; rintro e w8 ⟨rfl, b8⟩
    have HB8 := Lib.hid (HB7.out.trans (b8.mono HB7.out.size))
    obtain ⟨⟨q0, q1, q2, q3, q4⟩, _⟩ := (HV2.out w8 HB8.out).cells
    clear p0 p1 p2 p3 p4 b8
    go_wp2_with fail
    refine (CN.out w8 HB8.out).mono ?_; rintro e w9 ⟨rfl, b9⟩
    have HB9 := Lib.hid (HB8.out.trans (b9.mono HB8.out.size))
    clear b9
    go_wp2_with fail
    go_ret
    exact ⟨rfl, C3.out.trans (HB9.out.mono C3.out.size)⟩
end Go.Proofs.YtpifbmcgadjhbaaDoor
