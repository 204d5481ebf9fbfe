/-
  The walk of ValueApart: it comes to true.
-/
import Derived.Test.YtcmalaabggohmaaValAwake
import Derived.Test.YtcmalaabggohmaaValApaG
import Derived.Test.YtcmalaabggohmaaValWo
import Derived.Test.YtcmalaabggohmaaValSpoil
namespace Go.Proofs.Ytcmalaabggohmaa
open Go.RowKit

theorem spoil_new (x : JV) (w : World) (B : Nat) (cs : List Value) (h : HCp (fun b => B ≤ b) w cs x) (hB : B ≤ w.heap.size) :
    Calls Try.prog 32 #[.agg cs.toArray] w fun e w' => e = .returned (.tuple #[]) ∧ Below B w w' := by
  refine (spoil_any (fun b => B ≤ b ∧ b < w.heap.size) _ x (Nat.le_refl _) w cs (HCp.hcw _ _ (HCp.stay (Q := fun b => B ≤ b ∧ b < w.heap.size) (fun b hb hl => ⟨⟨hb, hl⟩, rfl⟩) _ _ h)) (fun b hb => hb.2)).mono ?_
  rintro e w' ⟨rfl, hs⟩
  exact ⟨rfl, hs.below hB fun b hb => hb.1⟩
theorem HO.form {B : Nat} {w : World} {u : Value} {x : JV} (h : HO B w u x) : ∃ a b ca cb, u = .agg #[.int .u8 (x.k : Int), .int .i64 x.n, .string (S x.t), .slice a x.ns.length ca, .slice b x.is.length cb] ∧
    ∀ W, Below w.heap.size w W → HCp (fun b => B ≤ b) W [.int .u8 (x.k : Int), .int .i64 x.n, .string (S x.t), .slice a x.ns.length ca, .slice b x.is.length cb] x := by
  obtain ⟨cs, rfl, hc⟩ := h.hcp
  obtain ⟨a, b, ca, cb, rfl, _⟩ := hc.one
  exact ⟨a, b, ca, cb, rfl, fun W hb => HCp.stay (fun k hk hl => ⟨hk, hb.block k hl⟩) _ _ hc⟩
set_option maxHeartbeats 16000000 in
set_option maxRecDepth 10000 in
theorem law_ValueApart (x : JV) (v : Value) (y : JV) (u : Value) (s : ByteArray) (w : World) (hv : HV w v x) (hu : HV w u y) (hs1 : s.size ≤ maxLen) :
    Calls Try.prog 10 #[v, u, .string s] w fun e w' => e = .returned (.bool true) ∧ Below w.heap.size w w' := by
  obtain ⟨l, rfl⟩ := as_S s
  obtain ⟨a, b, ca, cb, a', b', ca', cb', rfl, rfl, hh⟩ := head2 hv hu
  obtain ⟨W3, hW3⟩ : ∃ W3, W3 = ((w.alloc (.cells #[.int .u8 (x.k : Int), .int .i64 x.n, .string (S x.t), .slice a x.ns.length ca, .slice b x.is.length cb] 25)).alloc (.cells #[.int .u8 (y.k : Int), .int .i64 y.n, .string (S y.t), .slice a' y.ns.length ca', .slice b' y.is.length cb'] 25)).alloc
          (.cells #[.int .u8 (x.k : Int), .int .i64 x.n, .string (S x.t), .slice a x.ns.length ca, .slice b x.is.length cb, .int .u8 (y.k : Int), .int .i64 y.n, .string (S y.t), .slice a' y.ns.length ca', .slice b' y.is.length cb'] 25) := ⟨_, rfl⟩
  obtain ⟨c3, HV1, HV2, HX, HY, cL⟩ := hh W3 hW3
  have HV1 := Lib.hid HV1
  have HV2 := Lib.hid HV2
  have HX := Lib.hid HX
  have HY := Lib.hid HY
  have C3 := Lib.hid c3
  have hsz := S_size l
  have hll : Hid (l.length ≤ maxLen) := by rw [Hid, ← hsz]; exact hs1
  clear hh hv hu c3 hs1
  go_enter Try.func10, Try.ntmps10
  go_wp2_with fail
  rw [← hW3]
  clear hW3
  refine cL.mono ?_; rintro e w4 ⟨⟨B, rfl, hB⟩, rfl⟩
  by_cases hl : (20000 : Int) < (l.length : Int)
  · cases B
    all_goals
      go_wp2_with fail
      refine (awake_any _).mono ?_; rintro e w5 ⟨rfl, b5⟩
      go_wp2_with fail
      go_ret
      exact ⟨rfl, C3.out.trans (b5.mono C3.out.size)⟩
  cases B with
  | true =>
    go_wp2_with fail
    refine (awake_any _).mono ?_; rintro e w5 ⟨rfl, b5⟩
    go_wp2_with fail
    go_ret
    exact ⟨rfl, C3.out.trans (b5.mono C3.out.size)⟩
  | false =>
  have hwx : x.wt ≤ 90000 := by have := hB rfl; omega
  have hwy : y.wt ≤ 90000 := by have := hB rfl; omega
  have HW := Lib.hid (And.intro hwx hwy)
  clear hB cL hwx hwy
  go_wp2_with fail
  refine (awake_any _).mono ?_; rintro e w5 ⟨rfl, b5⟩
  have B5 := Lib.hid b5
  clear b5
  go_wp2_with fail
  refine region_ap (by kernel_rfl) (by kernel_rfl) (by simp) rfl rfl (HV1.out _ B5.out) (HV2.out _ B5.out) (HX.out _ B5.out) (HY.out _ B5.out) HW.out.1 HW.out.2 (fun f w6 b7 b8 p0 p1 p2 p3 p4 q0 q1 q2 q3 q4 f7 f8 V7 V8 H7 H8 b6 => ?_)
  rw [putR_lit]
  simp only [putL, show ∀ i, pap i = ([29, 30, 31, 32, 7, 8].contains i) from fun _ => rfl]
  simp
  rw [f7, f8]
  clear f7 f8
  have B6 := Lib.hid (B5.out.trans (b6.mono B5.out.size))
  have HV7 : Hid (∀ W, Below w6.heap.size w6 W → VAt b7 W p0 p1 p2 p3 p4) := fun W h => V7.below h
  have HV8 : Hid (∀ W, Below w6.heap.size w6 W → VAt b8 W q0 q1 q2 q3 q4) := fun W h => V8.below h
  have HX7 : Hid (∀ W, Below w6.heap.size w6 W → HV W (.agg #[p0, p1, p2, p3, p4]) x) := fun W h => H7.below h
  have HY8 : Hid (∀ W, Below w6.heap.size w6 W → HV W (.agg #[q0, q1, q2, q3, q4]) y) := fun W h => H8.below h
  clear V7 V8 H7 H8 b6
  -- spoil(value.Copy(v))
  obtain ⟨⟨r0, r1, r2, r3, r4⟩, _⟩ := (HV1.out w6 B6.out).cells
  have cC := copy_any _ x (Nat.le_refl _) HW.out.1 w6 _ (HX.out w6 B6.out)
  go_wp2_with fail
  refine cC.mono ?_; rintro e w7 ⟨⟨g, rfl, hg⟩, k7⟩
  obtain ⟨ga, gb, gca, gcb, rfl, hgc⟩ := hg.form
  have cS := spoil_new x w7 _ _ (hgc w7 (Below.refl _ _)) k7.size
  clear cC hg hgc
  go_wp2_with fail
  refine cS.mono ?_; rintro e w8 ⟨rfl, k8⟩
  have K8 : Hid (Below w6.heap.size w6 w8) := k7.trans k8
  clear cS k7 k8 r0 r1 r2 r3 r4
  -- a, _ := value.Get(v, name); spoil(a)
  have B8 := Lib.hid (B6.out.trans (K8.out.mono B6.out.size))
  obtain ⟨⟨r0, r1, r2, r3, r4⟩, _⟩ := (HV1.out w8 B8.out).cells
  obtain ⟨Z, hZ⟩ : ∃ Z, (x.get l).1 = Z := ⟨_, rfl⟩
  obtain ⟨zb, hzb⟩ : ∃ Z, (x.get l).2 = Z := ⟨_, rfl⟩
  have cG := get_any x l HW.out.1 w8 _ (HX.out w8 B8.out)
  rw [hZ, hzb] at cG
  clear hZ hzb
  go_wp2_with fail
  refine cG.mono ?_; rintro e w9 ⟨⟨g, rfl, hg⟩, k9⟩
  obtain ⟨ga, gb, gca, gcb, rfl, hgc⟩ := hg.form
  obtain ⟨W9, hW9⟩ : ∃ W, W = w9.alloc (.cells #[.int .u8 (Z.k : Int), .int .i64 Z.n, .string (S Z.t), .slice ga Z.ns.length gca, .slice gb Z.is.length gcb] 25) := ⟨_, rfl⟩
  have ba : Below w9.heap.size w9 W9 := by rw [hW9]; exact (Below.refl _ _).alloc (Nat.le_refl _) _
  have V9 : VAt w9.heap.size W9 (.int .u8 (Z.k : Int)) (.int .i64 Z.n) (.string (S Z.t)) (.slice ga Z.ns.length gca) (.slice gb Z.is.length gcb) := by rw [hW9]; exact VAt.new ..
  have hgW := hgc W9 ba
  have k9' := k9.trans (ba.mono k9.size)
  have cS := spoil_new Z W9 _ _ hgW k9'.size
  obtain ⟨⟨z0, z1, z2, z3, z4⟩, _⟩ := V9.cells
  rw [hW9] at z0 z1 z2 z3 z4
  clear cG hg hgc r0 r1 r2 r3 r4
  go_wp2_with fail
  rw [← hW9]
  refine cS.mono ?_; rintro e w10 ⟨rfl, k10⟩
  have K10 : Hid (Below w6.heap.size w6 w10) := K8.out.trans ((k9'.trans k10).mono K8.out.size)
  clear cS k9 k9' k10 ba V9 hgW hW9 z0 z1 z2 z3 z4
  -- b, _ := value.With(v, name, x); spoil(b)
  have B10 := Lib.hid (B6.out.trans (K10.out.mono B6.out.size))
  obtain ⟨⟨r0, r1, r2, r3, r4⟩, _⟩ := (HV1.out w10 B10.out).cells
  obtain ⟨⟨s0, s1, s2, s3, s4⟩, _⟩ := (HV2.out w10 B10.out).cells
  obtain ⟨Z, hZ⟩ : ∃ Z, (x.put l y).1 = Z := ⟨_, rfl⟩
  obtain ⟨zb, hzb⟩ : ∃ Z, (x.put l y).2 = Z := ⟨_, rfl⟩
  have cP := with_any x y l HW.out.1 HW.out.2 hll.out w10 _ _ (HX.out w10 B10.out) (HY.out w10 B10.out)
  rw [hZ, hzb] at cP
  clear hZ hzb
  go_wp2_with fail
  refine cP.mono ?_; rintro e w11 ⟨⟨g, rfl, hg⟩, k11⟩
  obtain ⟨ga, gb, gca, gcb, rfl, hgc⟩ := hg.form
  obtain ⟨W11, hW11⟩ : ∃ W, W = w11.alloc (.cells #[.int .u8 (Z.k : Int), .int .i64 Z.n, .string (S Z.t), .slice ga Z.ns.length gca, .slice gb Z.is.length gcb] 25) := ⟨_, rfl⟩
  have ba : Below w11.heap.size w11 W11 := by rw [hW11]; exact (Below.refl _ _).alloc (Nat.le_refl _) _
  have V11 : VAt w11.heap.size W11 (.int .u8 (Z.k : Int)) (.int .i64 Z.n) (.string (S Z.t)) (.slice ga Z.ns.length gca) (.slice gb Z.is.length gcb) := by rw [hW11]; exact VAt.new ..
  have hgW := hgc W11 ba
  have k11' := k11.trans (ba.mono k11.size)
  have cS := spoil_new Z W11 _ _ hgW k11'.size
  obtain ⟨⟨z0, z1, z2, z3, z4⟩, _⟩ := V11.cells
  rw [hW11] at z0 z1 z2 z3 z4
  clear cP hg hgc r0 r1 r2 r3 r4 s0 s1 s2 s3 s4
  go_wp2_with fail
  rw [← hW11]
  refine cS.mono ?_; rintro e w12 ⟨rfl, k12⟩
  have K12 : Hid (Below w6.heap.size w6 w12) := K10.out.trans ((k11'.trans k12).mono K10.out.size)
  clear cS k11 k11' k12 ba V11 hgW hW11 z0 z1 z2 z3 z4
  -- c, _ := value.Without(v, name); spoil(c)
  have B12 := Lib.hid (B6.out.trans (K12.out.mono B6.out.size))
  obtain ⟨⟨r0, r1, r2, r3, r4⟩, _⟩ := (HV1.out w12 B12.out).cells
  obtain ⟨Z, hZ⟩ : ∃ Z, (x.without l).1 = Z := ⟨_, rfl⟩
  obtain ⟨zb, hzb⟩ : ∃ Z, (x.without l).2 = Z := ⟨_, rfl⟩
  have cW := without_any x l HW.out.1 w12 _ (HX.out w12 B12.out)
  rw [hZ, hzb] at cW
  clear hZ hzb
  go_wp2_with fail
  refine cW.mono ?_; rintro e w13 ⟨⟨g, rfl, hg⟩, k13⟩
  obtain ⟨ga, gb, gca, gcb, rfl, hgc⟩ := hg.form
  obtain ⟨W13, hW13⟩ : ∃ W, W = w13.alloc (.cells #[.int .u8 (Z.k : Int), .int .i64 Z.n, .string (S Z.t), .slice ga Z.ns.length gca, .slice gb Z.is.length gcb] 25) := ⟨_, rfl⟩
  have ba : Below w13.heap.size w13 W13 := by rw [hW13]; exact (Below.refl _ _).alloc (Nat.le_refl _) _
  have V13 : VAt w13.heap.size W13 (.int .u8 (Z.k : Int)) (.int .i64 Z.n) (.string (S Z.t)) (.slice ga Z.ns.length gca) (.slice gb Z.is.length gcb) := by rw [hW13]; exact VAt.new ..
  have hgW := hgc W13 ba
  have k13' := k13.trans (ba.mono k13.size)
  have cS := spoil_new Z W13 _ _ hgW k13'.size
  obtain ⟨⟨z0, z1, z2, z3, z4⟩, _⟩ := V13.cells
  rw [hW13] at z0 z1 z2 z3 z4
  clear cW hg hgc r0 r1 r2 r3 r4
  go_wp2_with fail
  rw [← hW13]
  refine cS.mono ?_; rintro e w14 ⟨rfl, k14⟩
  have K14 : Hid (Below w6.heap.size w6 w14) := K12.out.trans ((k13'.trans k14).mono K12.out.size)
  clear cS k13 k13' k14 ba V13 hgW hW13 z0 z1 z2 z3 z4
  -- what was handed in stays
  have B14 := Lib.hid (B6.out.trans (K14.out.mono B6.out.size))
  obtain ⟨⟨r0, r1, r2, r3, r4⟩, _⟩ := (HV1.out w14 B14.out).cells
  obtain ⟨⟨z0, z1, z2, z3, z4⟩, _⟩ := (HV7.out w14 K14.out).cells
  have cS := refSame_any _ x x (Nat.le_refl _) w14 _ _ (HX.out w14 B14.out) (HX7.out w14 K14.out)
  rw [JV.same_yes] at cS
  go_wp2_with fail
  refine cS.mono ?_; rintro e w15 ⟨rfl, k15⟩
  have K15 := Lib.hid (K14.out.trans (k15.mono K14.out.size))
  have B15 := Lib.hid (B6.out.trans (K15.out.mono B6.out.size))
  clear cS k15 r0 r1 r2 r3 r4 z0 z1 z2 z3 z4
  obtain ⟨⟨r0, r1, r2, r3, r4⟩, _⟩ := (HV2.out w15 B15.out).cells
  obtain ⟨⟨z0, z1, z2, z3, z4⟩, _⟩ := (HV8.out w15 K15.out).cells
  have cS := refSame_any _ y y (Nat.le_refl _) w15 _ _ (HY.out w15 B15.out) (HY8.out w15 K15.out)
  rw [JV.same_yes] at cS
  go_wp2_with fail
  refine cS.mono ?_; rintro e w16 ⟨rfl, k16⟩
  go_wp2_with fail
  go_ret
  exact ⟨rfl, C3.out.trans ((B15.out.trans (k16.mono B15.out.size)).mono C3.out.size)⟩
end Go.Proofs.Ytcmalaabggohmaa
