/-
  CanonEncodes.
-/
import Derived.Test.YtpifbmcgadjhbaaDoorCanAwake
import Derived.Test.YtpifbmcgadjhbaaDoorCanRefF
import Derived.Test.YtpifbmcgadjhbaaDoorValHead
import Derived.Test.YtpifbmcgadjhbaaDoorValRefSame
namespace Go.Proofs.YtpifbmcgadjhbaaDoor
open Go.RowKit

theorem refEnc_call {x : JV} {t : List UInt8} {z : Nat} (hE : ENC x = (t, z)) (v : Value) (w : World) (hwt : x.wt ≤ 90000) (hv : HV w v x) :
    Calls Tryd.prog 11 #[v] w fun e w' => e = .returned (.tuple #[.string (S t), .int .i64 (z : Int)]) ∧ Below w.heap.size w w' := by
  have := refEncode_any x v w hwt hv
  rw [hE] at this
  exact this
set_option maxHeartbeats 8000000 in
set_option maxRecDepth 10000 in
theorem law_CanonEncodes (x : JV) (v : Value) (w : World) (hv : HV w v x) (hT : TabN w) :
    Calls Tryd.prog 3 #[v] w fun e w' => e = .returned (.bool true) ∧ Below w.heap.size w w' := by
  obtain ⟨a, b, ca, cb, rfl, _, _, _, hh⟩ := head1 hv
  obtain ⟨W3, hW3⟩ : ∃ W3, W3 = (w.alloc (.cells #[.int .u8 (x.k : Int), .int .i64 x.n, .string (S x.t), .slice a x.ns.length ca, .slice b x.is.length cb] 25)).alloc (.cells #[.int .u8 (x.k : Int), .int .i64 x.n, .string (S x.t), .slice a x.ns.length ca, .slice b x.is.length cb] 25) := ⟨_, rfl⟩
  obtain ⟨c3, HV1, HX, cL⟩ := hh W3 hW3
  have HV1 := Lib.hid HV1
  have HX := Lib.hid HX
  have C3 := Lib.hid c3
  have T3 := hT.below c3
  clear hh hv c3 hT
  go_enter Tryd.func3, Tryd.ntmps3
  go_wp2_with fail
  rw [← hW3]
  clear hW3
  refine cL.mono ?_; rintro e w4 ⟨⟨B, rfl, hB⟩, rfl⟩
  cases B with
  | true =>
    go_wp2_with fail
    refine (awake10_any _ T3).mono ?_; rintro e w5 ⟨rfl, b5⟩
    go_wp2_with fail
    go_ret
    exact ⟨rfl, C3.out.trans (b5.mono C3.out.size)⟩
  | false =>
  have hwx : x.wt ≤ 90000 := by have := hB rfl; omega
  clear hB cL
  obtain ⟨⟨p0, p1, p2, p3, p4⟩, _⟩ := (HV1.out W3 (Below.refl _ _)).cells
  have cS := fun W h => refSame_any _ x x (Nat.le_refl _) W _ _ (HX.out W h) (HX.out W h)
  rw [JV.same_yes] at cS
  obtain ⟨s, z, hE⟩ : ∃ s z, ENC x = (s, z) := ⟨_, _, rfl⟩
  have cE := fun W h => enc_call hE _ W hwx (HX.out W h)
  have cF := fun W h => refEnc_call hE _ W hwx (HX.out W h)
  obtain ⟨zI, hz⟩ : ∃ z' : Int, z' = (z : Int) := ⟨_, rfl⟩
  rw [← hz] at cE cF
  have e1 : ((S s).toList == (S s).toList) = true := beq_self_eq_true _
  have CE := Lib.hid cE
  have CF := Lib.hid cF
  have CS := Lib.hid cS
  clear cS cE cF hE hz hwx
  go_wp2_with fail
  refine (CE.out W3 (Below.refl _ _) T3).mono ?_; rintro e w6 ⟨rfl, b6⟩
  have HB6 := Lib.hid b6
  have T6 := T3.below b6
  obtain ⟨⟨q0, q1, q2, q3, q4⟩, _⟩ := (HV1.out w6 HB6.out).cells
  clear p0 p1 p2 p3 p4 b6
  go_wp2_with fail
  refine (CF.out w6 HB6.out).mono ?_; rintro e w7 ⟨rfl, b7⟩
  have HB7 := Lib.hid (HB6.out.trans (b7.mono HB6.out.size))
  have T7 := T6.below b7
  obtain ⟨⟨p0, p1, p2, p3, p4⟩, _⟩ := (HV1.out w7 HB7.out).cells
  clear q0 q1 q2 q3 q4 b7 T6
  go_wp2_with fail
  refine (CE.out w7 HB7.out T7).mono ?_; rintro e w8 ⟨rfl, b8⟩
  have HB8 := Lib.hid (HB7.out.trans (b8.mono HB7.out.size))
  have T8 := T7.below b8
  obtain ⟨⟨q0, q1, q2, q3, q4⟩, _⟩ := (HV1.out w8 HB8.out).cells
  clear p0 p1 p2 p3 p4 b8 T7
  go_wp2_with fail
  refine (CS.out w8 HB8.out).mono ?_; rintro e w9 ⟨rfl, b9⟩
  have HB9 := Lib.hid (HB8.out.trans (b9.mono HB8.out.size))
  have T9 := T8.below b9
  clear b9 T8 q0 q1 q2 q3 q4
  go_wp2_with fail
  refine (awake10_any _ T9).mono ?_; rintro e w10 ⟨rfl, b10⟩
  have HB10 := Lib.hid (HB9.out.trans (b10.mono HB9.out.size))
  clear b10
  go_wp2_with fail
  go_ret
  exact ⟨rfl, C3.out.trans (HB10.out.mono C3.out.size)⟩
end Go.Proofs.YtpifbmcgadjhbaaDoor
