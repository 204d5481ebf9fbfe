/-
  The walk of ValuePuts: it comes to true.
-/
import Derived.Test.YtcmalaabggohmaaValAwake
import Derived.Test.YtcmalaabggohmaaValRefPut
import Derived.Test.YtcmalaabggohmaaValWo
namespace Go.Proofs.Ytcmalaabggohmaa
open Go.RowKit

set_option maxHeartbeats 16000000 in
set_option maxRecDepth 10000 in
theorem law_ValuePuts (x : JV) (v : Value) (y : JV) (u : Value) (s : ByteArray) (w : World) (hv : HV w v x) (hu : HV w u y) (hs1 : s.size ≤ maxLen) :
    Calls Try.prog 4 #[v, u, .string s] w fun e w' => e = .returned (.bool true) ∧ Below w.heap.size w w' := by
  obtain ⟨l, rfl⟩ := as_S s
  obtain ⟨a, b, ca, cb, a', b', ca', cb', rfl, rfl, hh⟩ := head2 hv hu
  obtain ⟨W3, hW3⟩ : ∃ W3, W3 = ((w.alloc (.cells #[.int .u8 (x.k : Int), .int .i64 x.n, .string (S x.t), .slice a x.ns.length ca, .slice b x.is.length cb] 25)).alloc (.cells #[.int .u8 (y.k : Int), .int .i64 y.n, .string (S y.t), .slice a' y.ns.length ca', .slice b' y.is.length cb'] 25)).alloc
          (.cells #[.int .u8 (x.k : Int), .int .i64 x.n, .string (S x.t), .slice a x.ns.length ca, .slice b x.is.length cb, .int .u8 (y.k : Int), .int .i64 y.n, .string (S y.t), .slice a' y.ns.length ca', .slice b' y.is.length cb'] 25) := ⟨_, rfl⟩
  obtain ⟨c3, HV1, HV2, HX, HY, cL⟩ := hh W3 hW3
  have HV1 := Lib.hid HV1
  have HV2 := Lib.hid HV2
  have HX := Lib.hid HX
  have HY := Lib.hid HY
  have C3 := Lib.hid c3
  have hsz := S_size l
  have hll : Hid (l.length ≤ maxLen) := by rw [Hid, ← hsz]; exact hs1
  clear hh hv hu c3 hs1
  go_enter Try.func4, Try.ntmps4
  go_wp2_with fail
  rw [← hW3]
  clear hW3
  refine cL.mono ?_; rintro e w4 ⟨⟨B, rfl, hB⟩, rfl⟩
  by_cases hl : (20000 : Int) < (l.length : Int)
  · cases B
    all_goals
      go_wp2_with fail
      refine (awake_any _).mono ?_; rintro e w5 ⟨rfl, b5⟩
      go_wp2_with fail
      go_ret
      exact ⟨rfl, C3.out.trans (b5.mono C3.out.size)⟩
  cases B with
  | true =>
    go_wp2_with fail
    refine (awake_any _).mono ?_; rintro e w5 ⟨rfl, b5⟩
    go_wp2_with fail
    go_ret
    exact ⟨rfl, C3.out.trans (b5.mono C3.out.size)⟩
  | false =>
  have hwx : x.wt ≤ 90000 := by have := hB rfl; omega
  have hwy : y.wt ≤ 90000 := by have := hB rfl; omega
  have hnl : x.ns.length ≤ 19000 := by have := hB rfl; have := x.wt_eq; have := JV.wn_len x.ns; omega
  have HW := Lib.hid (And.intro hwx (And.intro hwy hnl))
  clear hB cL hwx hwy hnl
  have b4 : Hid (Below W3.heap.size W3 W3) := Below.refl _ _
  obtain ⟨E, hE⟩ : ∃ Z, (x.put l y).2 = Z := ⟨_, rfl⟩
  obtain ⟨Q, hQ⟩ : ∃ Z, (x.put l y).1 = Z := ⟨_, rfl⟩
  obtain ⟨F, hF⟩ : ∃ Z, (x.without l).2 = Z := ⟨_, rfl⟩
  obtain ⟨R, hR⟩ : ∃ Z, (x.without l).1 = Z := ⟨_, rfl⟩
  have CP : Hid (∀ W u v, HV W u x → HV W v y → Calls Try.prog 24 #[u, .string (S l), v] W fun e w' => ∃ g, e = .returned (.tuple #[g, .int .i64 E]) ∧ HV w' g Q ∧ Below W.heap.size W w') := fun W u v h1 h2 => by
    refine (with_any x y l HW.out.1 HW.out.2.1 hll.out W u v h1 h2).mono ?_; rintro e w' ⟨⟨g, rfl, hg⟩, hb⟩
    rw [hE]
    rw [hQ] at hg
    exact ⟨g, rfl, hg.hv, hb⟩
  have CR : Hid (∀ W u v, HV W u x → HV W v y → Calls Try.prog 25 #[u, .string (S l), v] W fun e w' => ∃ g, e = .returned (.tuple #[g, .int .i64 E]) ∧ HV w' g Q ∧ Below W.heap.size W w') := fun W u v h1 h2 => by
    have h := refPut_any x y l W u v h1 h2 HW.out.2.2 hll.out
    rw [hE, hQ] at h
    exact h
  have CW : Hid (∀ W u, HV W u x → Calls Try.prog 26 #[u, .string (S l)] W fun e w' => ∃ g, e = .returned (.tuple #[g, .bool F]) ∧ HV w' g R ∧ Below W.heap.size W w') := fun W u h1 => by
    refine (without_any x l HW.out.1 W u h1).mono ?_; rintro e w' ⟨⟨g, rfl, hg⟩, hb⟩
    rw [hF]
    rw [hR] at hg
    exact ⟨g, rfl, hg.hv, hb⟩
  have CV : Hid (∀ W u, HV W u x → Calls Try.prog 27 #[u, .string (S l)] W fun e w' => ∃ g, e = .returned (.tuple #[g, .bool F]) ∧ HV w' g R ∧ Below W.heap.size W w') := fun W u h1 => by
    have h := refWithout_any x l W u h1 HW.out.2.2
    rw [hF, hR] at h
    exact h
  clear hE hQ hF hR
  obtain ⟨⟨r0, r1, r2, r3, r4⟩, _⟩ := (HV1.out W3 b4.out).cells
  have cC := copy_any _ x (Nat.le_refl _) HW.out.1 W3 _ (HX.out W3 b4.out)
  go_wp2_with fail
  refine cC.mono ?_; rintro e w5 ⟨⟨g, rfl, hg⟩, bb⟩
  obtain ⟨_, _, _, _, _, rfl, hcg, ga, gb, gc, gd, rfl, rfl, rfl, rfl, rfl⟩ := (hg.hv).cells
  obtain ⟨W5, hW5⟩ : ∃ W, W = w5.alloc (.cells #[.int .u8 (x.k : Int), .int .i64 x.n, .string (S x.t), .slice ga x.ns.length gc, .slice gb x.is.length gd] 25) := ⟨_, rfl⟩
  have ba : Below w5.heap.size w5 W5 := by rw [hW5]; exact (Below.refl _ _).alloc (Nat.le_refl _) _
  have VV : VAt w5.heap.size W5 (.int .u8 (x.k : Int)) (.int .i64 x.n) (.string (S x.t)) (.slice ga x.ns.length gc) (.slice gb x.is.length gd) := by rw [hW5]; exact VAt.new ..
  have HH : HV W5 (.agg #[.int .u8 (x.k : Int), .int .i64 x.n, .string (S x.t), .slice ga x.ns.length gc, .slice gb x.is.length gd]) x := ⟨_, rfl, HC.below ba _ _ hcg⟩
  obtain ⟨q5, hq5⟩ : ∃ q, q = w5.heap.size := ⟨_, rfl⟩
  rw [← hq5] at VV
  have HxA : Hid (∀ W, Below W5.heap.size W5 W → VAt q5 W (.int .u8 (x.k : Int)) (.int .i64 x.n) (.string (S x.t)) (.slice ga x.ns.length gc) (.slice gb x.is.length gd)) := fun W h => VV.below h
  have GxA : Hid (∀ W, Below W5.heap.size W5 W → HV W (.agg #[.int .u8 (x.k : Int), .int .i64 x.n, .string (S x.t), .slice ga x.ns.length gc, .slice gb x.is.length gd]) x) := fun W h => HH.below h
  have bs := bb.trans (ba.mono bb.size)
  clear VV HH hcg ba bb
  have B5 := Lib.hid (b4.out.trans (bs.mono b4.out.size))
  have N5 : Hid (Below W5.heap.size W5 W5) := Below.refl _ _
  clear bs cC hg r0 r1 r2 r3 r4
  obtain ⟨⟨r0, r1, r2, r3, r4⟩, _⟩ := (HxA.out W5 N5.out).cells
  obtain ⟨⟨s0, s1, s2, s3, s4⟩, _⟩ := (HV2.out W5 B5.out).cells
  have cM := CP.out W5 _ _ (GxA.out _ N5.out) (HY.out _ B5.out)
  rw [hW5] at r0 r1 r2 r3 r4 s0 s1 s2 s3 s4
  rw [hq5] at r0 r1 r2 r3 r4
  go_wp2_with fail
  rw [← hW5, ← hq5]
  clear hW5 hq5
  refine cM.mono ?_; rintro e w6 ⟨g, rfl, hg, bb⟩
  obtain ⟨_, _, _, _, _, rfl, hcg, ga, gb, gc, gd, rfl, rfl, rfl, rfl, rfl⟩ := (hg).cells
  obtain ⟨W6, hW6⟩ : ∃ W, W = w6.alloc (.cells #[.int .u8 (Q.k : Int), .int .i64 Q.n, .string (S Q.t), .slice ga Q.ns.length gc, .slice gb Q.is.length gd] 25) := ⟨_, rfl⟩
  have ba : Below w6.heap.size w6 W6 := by rw [hW6]; exact (Below.refl _ _).alloc (Nat.le_refl _) _
  have VV : VAt w6.heap.size W6 (.int .u8 (Q.k : Int)) (.int .i64 Q.n) (.string (S Q.t)) (.slice ga Q.ns.length gc) (.slice gb Q.is.length gd) := by rw [hW6]; exact VAt.new ..
  have HH : HV W6 (.agg #[.int .u8 (Q.k : Int), .int .i64 Q.n, .string (S Q.t), .slice ga Q.ns.length gc, .slice gb Q.is.length gd]) Q := ⟨_, rfl, HC.below ba _ _ hcg⟩
  obtain ⟨q6, hq6⟩ : ∃ q, q = w6.heap.size := ⟨_, rfl⟩
  rw [← hq6] at VV
  have HxB : Hid (∀ W, Below W6.heap.size W6 W → VAt q6 W (.int .u8 (Q.k : Int)) (.int .i64 Q.n) (.string (S Q.t)) (.slice ga Q.ns.length gc) (.slice gb Q.is.length gd)) := fun W h => VV.below h
  have GxB : Hid (∀ W, Below W6.heap.size W6 W → HV W (.agg #[.int .u8 (Q.k : Int), .int .i64 Q.n, .string (S Q.t), .slice ga Q.ns.length gc, .slice gb Q.is.length gd]) Q) := fun W h => HH.below h
  have bs := bb.trans (ba.mono bb.size)
  clear VV HH hcg ba bb
  have B6 := Lib.hid (B5.out.trans (bs.mono B5.out.size))
  have N5 : Hid (Below W5.heap.size W5 W6) := N5.out.trans (bs.mono N5.out.size)
  have N6 : Hid (Below W6.heap.size W6 W6) := Below.refl _ _
  clear bs cM hg r0 r1 r2 r3 r4 s0 s1 s2 s3 s4
  obtain ⟨⟨r0, r1, r2, r3, r4⟩, _⟩ := (HV1.out W6 B6.out).cells
  obtain ⟨⟨s0, s1, s2, s3, s4⟩, _⟩ := (HV2.out W6 B6.out).cells
  have cM := CR.out W6 _ _ (HX.out _ B6.out) (HY.out _ B6.out)
  rw [hW6] at r0 r1 r2 r3 r4 s0 s1 s2 s3 s4
  go_wp2_with fail
  rw [← hW6, ← hq6]
  clear hW6 hq6
  refine cM.mono ?_; rintro e w7 ⟨g, rfl, hg, bb⟩
  obtain ⟨_, _, _, _, _, rfl, hcg, ga, gb, gc, gd, rfl, rfl, rfl, rfl, rfl⟩ := (hg).cells
  obtain ⟨W7, hW7⟩ : ∃ W, W = w7.alloc (.cells #[.int .u8 (Q.k : Int), .int .i64 Q.n, .string (S Q.t), .slice ga Q.ns.length gc, .slice gb Q.is.length gd] 25) := ⟨_, rfl⟩
  have ba : Below w7.heap.size w7 W7 := by rw [hW7]; exact (Below.refl _ _).alloc (Nat.le_refl _) _
  have VV : VAt w7.heap.size W7 (.int .u8 (Q.k : Int)) (.int .i64 Q.n) (.string (S Q.t)) (.slice ga Q.ns.length gc) (.slice gb Q.is.length gd) := by rw [hW7]; exact VAt.new ..
  have HH : HV W7 (.agg #[.int .u8 (Q.k : Int), .int .i64 Q.n, .string (S Q.t), .slice ga Q.ns.length gc, .slice gb Q.is.length gd]) Q := ⟨_, rfl, HC.below ba _ _ hcg⟩
  obtain ⟨q7, hq7⟩ : ∃ q, q = w7.heap.size := ⟨_, rfl⟩
  rw [← hq7] at VV
  have HxC : Hid (∀ W, Below W7.heap.size W7 W → VAt q7 W (.int .u8 (Q.k : Int)) (.int .i64 Q.n) (.string (S Q.t)) (.slice ga Q.ns.length gc) (.slice gb Q.is.length gd)) := fun W h => VV.below h
  have GxC : Hid (∀ W, Below W7.heap.size W7 W → HV W (.agg #[.int .u8 (Q.k : Int), .int .i64 Q.n, .string (S Q.t), .slice ga Q.ns.length gc, .slice gb Q.is.length gd]) Q) := fun W h => HH.below h
  have bs := bb.trans (ba.mono bb.size)
  clear VV HH hcg ba bb
  have B7 := Lib.hid (B6.out.trans (bs.mono B6.out.size))
  have N5 : Hid (Below W5.heap.size W5 W7) := N5.out.trans (bs.mono N5.out.size)
  have N6 : Hid (Below W6.heap.size W6 W7) := N6.out.trans (bs.mono N6.out.size)
  have N7 : Hid (Below W7.heap.size W7 W7) := Below.refl _ _
  clear bs cM hg r0 r1 r2 r3 r4 s0 s1 s2 s3 s4
  obtain ⟨⟨r0, r1, r2, r3, r4⟩, _⟩ := (HxA.out W7 N5.out).cells
  have cM := CW.out W7 _ (GxA.out _ N5.out)
  rw [hW7] at r0 r1 r2 r3 r4
  go_wp2_with fail
  rw [← hW7, ← hq7]
  clear hW7 hq7
  refine cM.mono ?_; rintro e w8 ⟨g, rfl, hg, bb⟩
  obtain ⟨_, _, _, _, _, rfl, hcg, ga, gb, gc, gd, rfl, rfl, rfl, rfl, rfl⟩ := (hg).cells
  obtain ⟨W8, hW8⟩ : ∃ W, W = w8.alloc (.cells #[.int .u8 (R.k : Int), .int .i64 R.n, .string (S R.t), .slice ga R.ns.length gc, .slice gb R.is.length gd] 25) := ⟨_, rfl⟩
  have ba : Below w8.heap.size w8 W8 := by rw [hW8]; exact (Below.refl _ _).alloc (Nat.le_refl _) _
  have VV : VAt w8.heap.size W8 (.int .u8 (R.k : Int)) (.int .i64 R.n) (.string (S R.t)) (.slice ga R.ns.length gc) (.slice gb R.is.length gd) := by rw [hW8]; exact VAt.new ..
  have HH : HV W8 (.agg #[.int .u8 (R.k : Int), .int .i64 R.n, .string (S R.t), .slice ga R.ns.length gc, .slice gb R.is.length gd]) R := ⟨_, rfl, HC.below ba _ _ hcg⟩
  obtain ⟨q8, hq8⟩ : ∃ q, q = w8.heap.size := ⟨_, rfl⟩
  rw [← hq8] at VV
  have HxD : Hid (∀ W, Below W8.heap.size W8 W → VAt q8 W (.int .u8 (R.k : Int)) (.int .i64 R.n) (.string (S R.t)) (.slice ga R.ns.length gc) (.slice gb R.is.length gd)) := fun W h => VV.below h
  have GxD : Hid (∀ W, Below W8.heap.size W8 W → HV W (.agg #[.int .u8 (R.k : Int), .int .i64 R.n, .string (S R.t), .slice ga R.ns.length gc, .slice gb R.is.length gd]) R) := fun W h => HH.below h
  have bs := bb.trans (ba.mono bb.size)
  clear VV HH hcg ba bb
  have B8 := Lib.hid (B7.out.trans (bs.mono B7.out.size))
  have N5 : Hid (Below W5.heap.size W5 W8) := N5.out.trans (bs.mono N5.out.size)
  have N6 : Hid (Below W6.heap.size W6 W8) := N6.out.trans (bs.mono N6.out.size)
  have N7 : Hid (Below W7.heap.size W7 W8) := N7.out.trans (bs.mono N7.out.size)
  have N8 : Hid (Below W8.heap.size W8 W8) := Below.refl _ _
  clear bs cM hg r0 r1 r2 r3 r4
  obtain ⟨⟨r0, r1, r2, r3, r4⟩, _⟩ := (HV1.out W8 B8.out).cells
  have cM := CV.out W8 _ (HX.out _ B8.out)
  rw [hW8] at r0 r1 r2 r3 r4
  go_wp2_with fail
  rw [← hW8, ← hq8]
  clear hW8 hq8
  refine cM.mono ?_; rintro e w9 ⟨g, rfl, hg, bb⟩
  obtain ⟨_, _, _, _, _, rfl, hcg, ga, gb, gc, gd, rfl, rfl, rfl, rfl, rfl⟩ := (hg).cells
  obtain ⟨W9, hW9⟩ : ∃ W, W = w9.alloc (.cells #[.int .u8 (R.k : Int), .int .i64 R.n, .string (S R.t), .slice ga R.ns.length gc, .slice gb R.is.length gd] 25) := ⟨_, rfl⟩
  have ba : Below w9.heap.size w9 W9 := by rw [hW9]; exact (Below.refl _ _).alloc (Nat.le_refl _) _
  have VV : VAt w9.heap.size W9 (.int .u8 (R.k : Int)) (.int .i64 R.n) (.string (S R.t)) (.slice ga R.ns.length gc) (.slice gb R.is.length gd) := by rw [hW9]; exact VAt.new ..
  have HH : HV W9 (.agg #[.int .u8 (R.k : Int), .int .i64 R.n, .string (S R.t), .slice ga R.ns.length gc, .slice gb R.is.length gd]) R := ⟨_, rfl, HC.below ba _ _ hcg⟩
  obtain ⟨q9, hq9⟩ : ∃ q, q = w9.heap.size := ⟨_, rfl⟩
  rw [← hq9] at VV
  have HxE : Hid (∀ W, Below W9.heap.size W9 W → VAt q9 W (.int .u8 (R.k : Int)) (.int .i64 R.n) (.string (S R.t)) (.slice ga R.ns.length gc) (.slice gb R.is.length gd)) := fun W h => VV.below h
  have GxE : Hid (∀ W, Below W9.heap.size W9 W → HV W (.agg #[.int .u8 (R.k : Int), .int .i64 R.n, .string (S R.t), .slice ga R.ns.length gc, .slice gb R.is.length gd]) R) := fun W h => HH.below h
  have bs := bb.trans (ba.mono bb.size)
  clear VV HH hcg ba bb
  have B9 := Lib.hid (B8.out.trans (bs.mono B8.out.size))
  have N5 : Hid (Below W5.heap.size W5 W9) := N5.out.trans (bs.mono N5.out.size)
  have N6 : Hid (Below W6.heap.size W6 W9) := N6.out.trans (bs.mono N6.out.size)
  have N7 : Hid (Below W7.heap.size W7 W9) := N7.out.trans (bs.mono N7.out.size)
  have N8 : Hid (Below W8.heap.size W8 W9) := N8.out.trans (bs.mono N8.out.size)
  have N9 : Hid (Below W9.heap.size W9 W9) := Below.refl _ _
  clear bs cM hg r0 r1 r2 r3 r4
  obtain ⟨⟨r0, r1, r2, r3, r4⟩, _⟩ := (HxB.out W9 N6.out).cells
  obtain ⟨⟨s0, s1, s2, s3, s4⟩, _⟩ := (HxC.out W9 N7.out).cells
  have cS := refSame_any _ Q Q (Nat.le_refl _) W9 _ _ (GxB.out W9 N6.out) (GxC.out W9 N7.out)
  rw [JV.same_yes] at cS
  rw [hW9] at r0 r1 r2 r3 r4 s0 s1 s2 s3 s4
  go_wp2_with fail
  rw [← hW9, ← hq9]
  clear hW9 hq9
  refine cS.mono ?_; rintro e w10 ⟨rfl, bs⟩
  have B10 := Lib.hid (B9.out.trans (bs.mono B9.out.size))
  have N5 : Hid (Below W5.heap.size W5 w10) := N5.out.trans (bs.mono N5.out.size)
  have N6 : Hid (Below W6.heap.size W6 w10) := N6.out.trans (bs.mono N6.out.size)
  have N7 : Hid (Below W7.heap.size W7 w10) := N7.out.trans (bs.mono N7.out.size)
  have N8 : Hid (Below W8.heap.size W8 w10) := N8.out.trans (bs.mono N8.out.size)
  have N9 : Hid (Below W9.heap.size W9 w10) := N9.out.trans (bs.mono N9.out.size)
  clear bs cS r0 r1 r2 r3 r4 s0 s1 s2 s3 s4
  obtain ⟨⟨r0, r1, r2, r3, r4⟩, _⟩ := (HxD.out w10 N8.out).cells
  obtain ⟨⟨s0, s1, s2, s3, s4⟩, _⟩ := (HxE.out w10 N9.out).cells
  have cS := refSame_any _ R R (Nat.le_refl _) w10 _ _ (GxD.out w10 N8.out) (GxE.out w10 N9.out)
  rw [JV.same_yes] at cS
  go_wp2_with fail
  refine cS.mono ?_; rintro e w11 ⟨rfl, bs⟩
  have B11 := Lib.hid (B10.out.trans (bs.mono B10.out.size))
  have N5 : Hid (Below W5.heap.size W5 w11) := N5.out.trans (bs.mono N5.out.size)
  have N6 : Hid (Below W6.heap.size W6 w11) := N6.out.trans (bs.mono N6.out.size)
  have N7 : Hid (Below W7.heap.size W7 w11) := N7.out.trans (bs.mono N7.out.size)
  have N8 : Hid (Below W8.heap.size W8 w11) := N8.out.trans (bs.mono N8.out.size)
  have N9 : Hid (Below W9.heap.size W9 w11) := N9.out.trans (bs.mono N9.out.size)
  clear bs cS r0 r1 r2 r3 r4 s0 s1 s2 s3 s4
  obtain ⟨⟨r0, r1, r2, r3, r4⟩, _⟩ := (HxA.out w11 N5.out).cells
  obtain ⟨⟨s0, s1, s2, s3, s4⟩, _⟩ := (HV1.out w11 B11.out).cells
  have cS := refSame_any _ x x (Nat.le_refl _) w11 _ _ (GxA.out w11 N5.out) (HX.out w11 B11.out)
  rw [JV.same_yes] at cS
  go_wp2_with fail
  refine cS.mono ?_; rintro e w12 ⟨rfl, bs⟩
  have B12 := Lib.hid (B11.out.trans (bs.mono B11.out.size))
  have N5 : Hid (Below W5.heap.size W5 w12) := N5.out.trans (bs.mono N5.out.size)
  have N6 : Hid (Below W6.heap.size W6 w12) := N6.out.trans (bs.mono N6.out.size)
  have N7 : Hid (Below W7.heap.size W7 w12) := N7.out.trans (bs.mono N7.out.size)
  have N8 : Hid (Below W8.heap.size W8 w12) := N8.out.trans (bs.mono N8.out.size)
  have N9 : Hid (Below W9.heap.size W9 w12) := N9.out.trans (bs.mono N9.out.size)
  clear bs cS r0 r1 r2 r3 r4 s0 s1 s2 s3 s4
  go_wp2_with fail
  refine (awake_any _).mono ?_; rintro e w13 ⟨rfl, b13⟩
  go_wp2_with fail
  go_ret
  exact ⟨rfl, C3.out.trans ((B12.out.trans (b13.mono B12.out.size)).mono C3.out.size)⟩
end Go.Proofs.Ytcmalaabggohmaa
