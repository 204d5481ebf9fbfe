/-
  CanonEnds.
-/
import Derived.Test.YtpifbmcgadjhbaaDoorCanLawU
namespace Go.Proofs.YtpifbmcgadjhbaaDoor
open Go.RowKit

set_option maxHeartbeats 8000000 in
set_option maxRecDepth 10000 in
theorem law_CanonEnds (x : JV) (v : Value) (y : JV) (u : Value) (w : World) (hv : HV w v x) (hu : HV w u y) (hT : TabN w) :
    Calls Tryd.prog 7 #[v, u] w fun e w' => e = .returned (.bool true) ∧ Below w.heap.size w w' := by
  obtain ⟨a, b, ca, cb, a', b', ca', cb', rfl, rfl, hh⟩ := head2 hv hu
  obtain ⟨W3, hW3⟩ : ∃ W3, W3 = ((w.alloc (.cells #[.int .u8 (x.k : Int), .int .i64 x.n, .string (S x.t), .slice a x.ns.length ca, .slice b x.is.length cb] 25)).alloc (.cells #[.int .u8 (y.k : Int), .int .i64 y.n, .string (S y.t), .slice a' y.ns.length ca', .slice b' y.is.length cb'] 25)).alloc
          (.cells #[.int .u8 (x.k : Int), .int .i64 x.n, .string (S x.t), .slice a x.ns.length ca, .slice b x.is.length cb, .int .u8 (y.k : Int), .int .i64 y.n, .string (S y.t), .slice a' y.ns.length ca', .slice b' y.is.length cb'] 25) := ⟨_, rfl⟩
  obtain ⟨c3, HV1, HV2, HX, HY, cL⟩ := hh W3 hW3
  have HV1 := Lib.hid HV1
  have HV2 := Lib.hid HV2
  have HX := Lib.hid HX
  have HY := Lib.hid HY
  have C3 := Lib.hid c3
  have T3 := hT.below c3
  clear hh hv hu c3 hT
  go_enter Tryd.func7, Tryd.ntmps7
  go_wp2_with fail
  rw [← hW3]
  clear hW3
  refine cL.mono ?_; rintro e w4 ⟨⟨B, rfl, hB⟩, rfl⟩
  cases B with
  | true =>
    go_wp2_with fail
    refine (awake10_any _ T3).mono ?_; rintro e w5 ⟨rfl, b5⟩
    go_wp2_with fail
    go_ret
    exact ⟨rfl, C3.out.trans (b5.mono C3.out.size)⟩
  | false =>
  have hwx : x.wt ≤ 90000 := by have := hB rfl; omega
  have hwy : y.wt ≤ 90000 := by have := hB rfl; omega
  clear hB cL
  go_wp2_with fail
  refine (awake10_any _ T3).mono ?_; rintro e w5 ⟨rfl, b5⟩
  obtain ⟨⟨p0, p1, p2, p3, p4⟩, _⟩ := (HV1.out w5 b5).cells
  have T5 := T3.below b5
  obtain ⟨M, hM⟩ : ∃ M, M = x.may := ⟨_, rfl⟩
  obtain ⟨N, hN⟩ : ∃ N, N = y.may := ⟨_, rfl⟩
  obtain ⟨kI, hk⟩ : ∃ z : Int, z = (x.k : Int) := ⟨_, rfl⟩
  obtain ⟨s, z, hE⟩ : ∃ s z, ENC x = (s, z) := ⟨_, _, rfl⟩
  obtain ⟨t, r, hF⟩ : ∃ t r, ENC y = (t, r) := ⟨_, _, rfl⟩
  have cE := fun W h => enc_call hE _ W hwx (HX.out W h)
  have cF := fun W h => enc_call hF _ W hwy (HY.out W h)
  have hz : (M = true ∧ z = 0) ∨ (M = false ∧ z = 3) := by
    rw [hM]
    cases h : x.may with
    | true => rw [ENC_ok h] at hE; exact .inl ⟨rfl, (Prod.mk.inj hE).2.symm⟩
    | false => rw [ENC_no h] at hE; exact .inr ⟨rfl, (Prod.mk.inj hE).2.symm⟩
  have hr : (N = true ∧ r = 0) ∨ (N = false ∧ r = 3) := by
    rw [hN]
    cases h : y.may with
    | true => rw [ENC_ok h] at hF; exact .inl ⟨rfl, (Prod.mk.inj hF).2.symm⟩
    | false => rw [ENC_no h] at hF; exact .inr ⟨rfl, (Prod.mk.inj hF).2.symm⟩
  obtain ⟨P, hP⟩ : ∃ P : Int, P = (s.length : Int) := ⟨_, rfl⟩
  obtain ⟨R, hR⟩ : ∃ R : Int, R = (t.length : Int) := ⟨_, rfl⟩
  have HST : Hid (z = 0 → r = 0 → kI ≠ 2 → t.take s.length = s → s = t) := by
    intro h1 h2 h3 h4
    have m1 : x.may = true := by rcases hz with ⟨h, _⟩ | ⟨_, h⟩; exact (hM ▸ h); omega
    have m2 : y.may = true := by rcases hr with ⟨h, _⟩ | ⟨_, h⟩; exact (hN ▸ h); omega
    rw [ENC_ok m1] at hE
    rw [ENC_ok m2] at hF
    have e1 : Cn.form x = s := (Prod.mk.inj hE).1
    have e2 : Cn.form y = t := (Prod.mk.inj hF).1
    rw [← e1, ← e2] at h4 ⊢
    exact Cn.ends (may_part m1) (may_part m2) (by omega) h4
  have HS1 : Hid (((S s).size : Int) = P) := by show _ = _; rw [S_size, hP]
  have HS2 : Hid (((S t).size : Int) = R) := by show _ = _; rw [S_size, hR]
  have hcut : Hid (∀ w : World, P ≤ R → (Instr.slice 9 (.string (S t)) none (some (.int .i64 P)) none).run Tryd.prog w = .ok (.string (S (t.take s.length))) w) := fun w h => by
    rw [hP]
    exact slice_upto t s.length (by omega) w
  have CE := Lib.hid cE
  have CF := Lib.hid cF
  have HB5 := Lib.hid b5

  have HK : Hid (∀ W, Below w5.heap.size w5 W → W.cell? ⟨w.heap.size, 0, none⟩ = some (.int .u8 kI)) := fun W h => by rw [hk]; exact (HV1.out W (b5.trans (h.mono b5.size))).cells.1.1
  clear cE cF hE hF hM hN hP hR b5 T3 hwx hwy hk
  go_wp2_with fail
  refine (CE.out w5 HB5.out T5).mono ?_; rintro e w6 ⟨rfl, b6⟩
  have HB6 := Lib.hid (HB5.out.trans (b6.mono HB5.out.size))
  have HC6 := Lib.hid b6
  have T6 := T5.below b6
  obtain ⟨⟨q0, q1, q2, q3, q4⟩, _⟩ := (HV2.out w6 HB6.out).cells
  clear p0 p1 p2 p3 p4 b6 T5
  go_wp2_with fail
  refine (CF.out w6 HB6.out T6).mono ?_; rintro e w7 ⟨rfl, b7⟩
  have HB7 := Lib.hid (HB6.out.trans (b7.mono HB6.out.size))
  have HC7 := Lib.hid (HC6.out.trans (b7.mono HC6.out.size))
  clear q0 q1 q2 q3 q4 b7 T6
  have B57 : Below w5.heap.size w5 w7 := HC7.out
  have q0 := HK.out w7 B57
  rcases hz with ⟨rfl, rfl⟩ | ⟨rfl, rfl⟩ <;> rcases hr with ⟨rfl, rfl⟩ | ⟨rfl, rfl⟩
  case inl.inl =>
    have s1 := HS1.out
    have s2 := HS2.out
    by_cases h2 : kI = 2
    · subst h2
      clear HST hcut
      go_wp2_with fail
      go_ret
      exact ⟨rfl, C3.out.trans (HB7.out.mono C3.out.size)⟩
    have h2b : (kI == 2) = false := beq_eq_false_iff_ne.2 h2
    by_cases h3 : R < P
    · clear HST hcut h2
      go_wp2_with fail
      go_ret
      exact ⟨rfl, C3.out.trans (HB7.out.mono C3.out.size)⟩
    have hc := hcut.out w7 (by omega)
    have hst := HST.out rfl rfl h2
    clear HST hcut h2
    by_cases h4 : t.take s.length = s
    · obtain rfl := hst h4
      rw [h4] at hc
      clear hst h4
      have e1 : ((S s).toList == (S s).toList) = true := beq_self_eq_true _
      go_wp2_with fail
      go_ret
      exact ⟨by simp, C3.out.trans (HB7.out.mono C3.out.size)⟩
    · have e1 : ((S (t.take s.length)).toList == (S s).toList) = false := by rw [S_eq]; exact beq_eq_false_iff_ne.2 h4
      obtain ⟨tt, htt⟩ : ∃ z, z = t.take s.length := ⟨_, rfl⟩
      rw [← htt] at hc e1
      clear hst h4 htt
      go_wp2_with fail
      go_ret
      exact ⟨rfl, C3.out.trans (HB7.out.mono C3.out.size)⟩
  all_goals
    clear HST hcut
    go_wp2_with fail
    go_ret
    exact ⟨rfl, C3.out.trans (HB7.out.mono C3.out.size)⟩
end Go.Proofs.YtpifbmcgadjhbaaDoor
