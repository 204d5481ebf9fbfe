/-
  The walk of ValueWith: it comes to true.
-/
import Derived.Test.YtcmalaabggohmaaValWitG
namespace Go.Proofs.Ytcmalaabggohmaa
open Go.RowKit

theorem may_parts {x : JV} (h : x.part = true) {c d : Bool} (hc : decide (((x.cnt : Nat) : Int) ≤ 8192) = c) (hd : decide (((x.dep : Nat) : Int) ≤ 12) = d) : x.may = (c && d) := by
  unfold JV.may
  rw [h, Bool.true_and, ← hc, ← hd]
  congr 1
  · exact decide_eq_decide.2 (by omega)
  · exact decide_eq_decide.2 (by omega)
theorem may_part {x : JV} (h : x.may = true) : x.part = true := by
  unfold JV.may at h
  rw [Bool.and_eq_true] at h
  exact h.1
theorem may_txt {l : List UInt8} (h : (JV.text l).may = true) : Jn.txt l = true := by
  have h := may_part h
  unfold JV.text at h
  rw [JV.part] at h
  simp at h
  exact h
theorem region_w {ops : Array Oper} {Q : Exit → Act → World → Prop} {A : Act} {id : Nat} {w1 : World}
    (hkey : ops.toList.map keyG = Twa) (hlow : (List.range ops.size).all (fun i => match ops[i]? with | some o => o.after.all (fun e => !Region.binds .any e || decide (e.on < i)) | none => true) = true)
    (hsz : 124 < A.tmps.size) {Y Z : JV} {l : List UInt8} {yb zb : Nat} {b0 b1 b2 b3 b4 c0 c1 c2 c3 c4 : Value} (e5 : A.eval (.tmp 5) = .pointer (some ⟨yb, 0, none⟩)) (e9 : A.eval (.tmp 9) = .pointer (some ⟨zb, 0, none⟩)) (e2 : A.eval (.tmp 2) = .string (S l))
    (V5 : VAt yb w1 b0 b1 b2 b3 b4) (V9 : VAt zb w1 c0 c1 c2 c3 c4) (H5 : HV w1 (.agg #[b0, b1, b2, b3, b4]) Y) (H9 : HV w1 (.agg #[c0, c1, c2, c3, c4]) Z) (hwY : Y.wt ≤ 90000) (hll : l.length ≤ maxLen) (hwT : (JV.text l).wt ≤ 90000) (hwZ : Z.wt ≤ 90000) (hcZ : Z.cnt ≤ 90000)
    (hp : Y.may = true → (JV.text l).may = true → Z.part = true)
    (fin : ∀ (f : Nat → Value) u, FD (.val (.bool false)) u (f 124) → Below w1.heap.size w1 u → Q .normal (putR A pwa f) u) : (Code.region id ops true).wp Try.prog Q A w1 := by
  cases hMX : Y.may with
  | false => exact region_wa hkey hlow hsz e5 V5 H5 hwY hMX fin
  | true =>
    cases hMT : (JV.text l).may with
    | false => exact region_wb hkey hlow hsz e5 e2 V5 H5 hwY hMX hll hwT hMT fin
    | true =>
      have hp := hp hMX hMT
      cases hC : decide (((Z.cnt : Nat) : Int) ≤ 8192) with
      | false => exact region_wc hkey hlow hsz e5 e9 e2 V5 H5 V9 H9 hwY hMX hll hwT hMT hwZ hcZ hC (by rw [may_parts hp hC rfl]; rfl) fin
      | true => exact region_wd hkey hlow hsz e5 e9 e2 V5 H5 V9 H9 hwY hMX hll hwT hMT hwZ hcZ hC rfl (by rw [may_parts hp hC rfl]; rfl) fin
set_option maxHeartbeats 16000000 in
set_option maxRecDepth 10000 in
theorem law_ValueWith (x : JV) (v : Value) (y : JV) (u : Value) (s s' : ByteArray) (w : World) (hv : HV w v x) (hu : HV w u y) (hs1 : s.size ≤ maxLen) (_ : s'.size ≤ maxLen) :
    Calls Try.prog 8 #[v, u, .string s, .string s'] w fun e w' => e = .returned (.bool true) ∧ Below w.heap.size w w' := by
  obtain ⟨l, rfl⟩ := as_S s
  obtain ⟨o, rfl⟩ := as_S s'
  obtain ⟨a, b, ca, cb, a', b', ca', cb', rfl, rfl, hh⟩ := head2 hv hu
  obtain ⟨W3, hW3⟩ : ∃ W3, W3 = ((w.alloc (.cells #[.int .u8 (x.k : Int), .int .i64 x.n, .string (S x.t), .slice a x.ns.length ca, .slice b x.is.length cb] 25)).alloc (.cells #[.int .u8 (y.k : Int), .int .i64 y.n, .string (S y.t), .slice a' y.ns.length ca', .slice b' y.is.length cb'] 25)).alloc
          (.cells #[.int .u8 (x.k : Int), .int .i64 x.n, .string (S x.t), .slice a x.ns.length ca, .slice b x.is.length cb, .int .u8 (y.k : Int), .int .i64 y.n, .string (S y.t), .slice a' y.ns.length ca', .slice b' y.is.length cb'] 25) := ⟨_, rfl⟩
  obtain ⟨c3, HV1, HV2, HX, HY, cL⟩ := hh W3 hW3
  have HV1 := Lib.hid HV1
  have HV2 := Lib.hid HV2
  have HX := Lib.hid HX
  have HY := Lib.hid HY
  have C3 := Lib.hid c3
  have hsz := S_size l
  have hso := S_size o
  have hll : Hid (l.length ≤ maxLen) := by rw [Hid, ← hsz]; exact hs1
  clear hh hv hu c3 hs1
  go_enter Try.func8, Try.ntmps8
  go_wp2_with fail
  rw [← hW3]
  clear hW3
  refine cL.mono ?_; rintro e w4 ⟨⟨B, rfl, hB⟩, rfl⟩
  by_cases hl : (20000 : Int) < (l.length : Int)
  · cases B
    all_goals
      go_wp2_with fail
      refine (awake_any _).mono ?_; rintro e w5 ⟨rfl, b5⟩
      go_wp2_with fail
      go_ret
      exact ⟨rfl, C3.out.trans (b5.mono C3.out.size)⟩
  by_cases ho : (20000 : Int) < (o.length : Int)
  · cases B
    all_goals
      go_wp2_with fail
      refine (awake_any _).mono ?_; rintro e w5 ⟨rfl, b5⟩
      go_wp2_with fail
      go_ret
      exact ⟨rfl, C3.out.trans (b5.mono C3.out.size)⟩
  cases B with
  | true =>
    go_wp2_with fail
    refine (awake_any _).mono ?_; rintro e w5 ⟨rfl, b5⟩
    go_wp2_with fail
    go_ret
    exact ⟨rfl, C3.out.trans (b5.mono C3.out.size)⟩
  | false =>
  have hwx : x.wt ≤ 20000 := by have := hB rfl; omega
  have hwy : y.wt ≤ 20000 := by have := hB rfl; omega
  have hl2 : l.length ≤ 20000 := by omega
  have HW := Lib.hid (And.intro hwx (And.intro hwy hl2))
  clear hB cL hwx hwy hl2
  go_wp2_with fail
  refine (awake_any _).mono ?_; rintro e w5 ⟨rfl, b5⟩
  obtain ⟨E, hE⟩ : ∃ E, (x.put l y).2 = E := ⟨_, rfl⟩
  obtain ⟨Z, hZ⟩ : ∃ Z, (x.put l y).1 = Z := ⟨_, rfl⟩
  have cP := with_any x y l (by have := HW.out.1; omega) (by have := HW.out.2.1; omega) hll.out w5 _ _ (HX.out w5 b5) (HY.out w5 b5)
  rw [hE, hZ] at cP
  have HE := Lib.hid hE
  have HZ := Lib.hid hZ
  clear hE hZ
  obtain ⟨⟨p0, p1, p2, p3, p4⟩, _⟩ := (HV1.out w5 b5).cells
  obtain ⟨⟨r0, r1, r2, r3, r4⟩, _⟩ := (HV2.out w5 b5).cells
  have B5 := Lib.hid b5
  clear b5
  go_wp2_with fail
  refine cP.mono ?_; rintro e w6 ⟨⟨g, rfl, hg⟩, bb⟩
  have hg := hg.hv
  obtain ⟨_, _, _, _, _, rfl, hcg, g6a, g6b, g6c, g6d, rfl, rfl, rfl, rfl, rfl⟩ := hg.cells
  obtain ⟨W6, hW6⟩ : ∃ W, W = w6.alloc (.cells #[.int .u8 (Z.k : Int), .int .i64 Z.n, .string (S Z.t), .slice g6a Z.ns.length g6c, .slice g6b Z.is.length g6d] 25) := ⟨_, rfl⟩
  have ba : Below w6.heap.size w6 W6 := by rw [hW6]; exact (Below.refl _ _).alloc (Nat.le_refl _) _
  have VV : VAt w6.heap.size W6 (.int .u8 (Z.k : Int)) (.int .i64 Z.n) (.string (S Z.t)) (.slice g6a Z.ns.length g6c) (.slice g6b Z.is.length g6d) := by rw [hW6]; exact VAt.new ..
  have HH : HV W6 (.agg #[.int .u8 (Z.k : Int), .int .i64 Z.n, .string (S Z.t), .slice g6a Z.ns.length g6c, .slice g6b Z.is.length g6d]) Z := ⟨_, rfl, HC.below ba _ _ hcg⟩
  obtain ⟨q6, hq6⟩ : ∃ q, q = w6.heap.size := ⟨_, rfl⟩
  rw [← hq6] at VV
  have HV6 : Hid (∀ W, Below W6.heap.size W6 W → VAt q6 W (.int .u8 (Z.k : Int)) (.int .i64 Z.n) (.string (S Z.t)) (.slice g6a Z.ns.length g6c) (.slice g6b Z.is.length g6d)) := fun W h => VV.below h
  have HX6 : Hid (∀ W, Below W6.heap.size W6 W → HV W (.agg #[.int .u8 (Z.k : Int), .int .i64 Z.n, .string (S Z.t), .slice g6a Z.ns.length g6c, .slice g6b Z.is.length g6d]) Z) := fun W h => HH.below h
  have bs6 := bb.trans (ba.mono bb.size)
  clear VV HH hcg hg ba bb
  have B6 := Lib.hid (B5.out.trans (bs6.mono B5.out.size))
  clear bs6 cP p0 p1 p2 p3 p4 r0 r1 r2 r3 r4
  obtain ⟨⟨p0, p1, p2, p3, p4⟩, _⟩ := (HV1.out W6 B6.out).cells
  rw [hW6] at p0 p1 p2 p3 p4
  obtain ⟨M, hM⟩ : ∃ M, x.may = M := ⟨_, rfl⟩
  have cM := may_any x W6 _ (by have := HW.out.1; omega) (HX.out W6 B6.out) hM
  have HM := Lib.hid hM
  clear hM
  go_wp2_with fail
  rw [← hW6, ← hq6]
  clear hW6 hq6
  refine cM.mono ?_; rintro e w7 ⟨rfl, b7⟩
  clear p0 p1 p2 p3 p4 cM
  have B7 := Lib.hid (B6.out.trans (b7.mono B6.out.size))
  obtain ⟨⟨p0, p1, p2, p3, p4⟩, _⟩ := (HV1.out w7 B7.out).cells
  obtain ⟨⟨r0, r1, r2, r3, r4⟩, _⟩ := (HV6.out w7 b7).cells
  have hrest : ∀ k5 : Bool, ((x.k : Int) != 5) = k5 → (M = false ∨ k5 = true) ∨ (M = true ∧ k5 = false) := fun k5 _ => by cases M <;> cases k5 <;> simp
  obtain ⟨k5, hk5⟩ : ∃ c, ((x.k : Int) != 5) = c := ⟨_, rfl⟩
  have hcases : (M = false ∧ k5 = false) ∨ (M = false ∧ k5 = true) ∨ (M = true ∧ k5 = true) ∨ (M = true ∧ k5 = false) := by cases M <;> cases k5 <;> simp
  clear hrest
  have hpn := x.put_none l y
  rw [HE.out, HZ.out] at hpn
  have short : ∀ K : Prop, (E = 0 → K) → (((E == 0) = false) → Z.is.length = 0 → K) → K := fun K h1 h2 => by
    rcases hpn with h | ⟨h, h3⟩
    · exact h1 h
    · exact h2 (beq_eq_false_iff_ne.2 h3) (by rw [h]; rfl)
  clear hpn
  rcases hcases with ⟨rfl, rfl⟩ | ⟨rfl, rfl⟩ | ⟨rfl, rfl⟩ | ⟨rfl, rfl⟩
  · refine short _ (fun hE0 => ?_) fun hE0 hz0 => ?_
    all_goals
      clear short
      try subst hE0
      go_wp2_with fail
      go_ret
      exact ⟨rfl, C3.out.trans (B7.out.mono C3.out.size)⟩
  · refine short _ (fun hE0 => ?_) fun hE0 hz0 => ?_
    all_goals
      clear short
      try subst hE0
      go_wp2_with fail
      go_ret
      exact ⟨rfl, C3.out.trans (B7.out.mono C3.out.size)⟩
  · refine short _ (fun hE0 => ?_) fun hE0 hz0 => ?_
    all_goals
      clear short
      try subst hE0
      go_wp2_with fail
      go_ret
      exact ⟨rfl, C3.out.trans (B7.out.mono C3.out.size)⟩
  clear short
  have hk : x.k = 5 := by
    have := hk5
    rw [bne_eq_false_iff_eq] at this
    omega
  have hp := may_part HM.out
  have hput := JV.put_ok l y hp hk
  have hZ2 : Z = .mk 5 x.n x.t (JV.putN x.ns l) (JV.putI x.ns l x.is y) := by rw [← HZ.out, hput]
  obtain rfl : E = 0 := by rw [← HE.out, hput]
  have hg1 := JV.get_put l y hp hk
  have hg2 := fun ho => JV.get_other (x := x) (l := l) (o := o) ho y hp hk
  have hg3 := JV.without_put l y hp hk
  have hnl : Z.ns.length = (JV.putN x.ns l).length := by rw [hZ2]; rfl
  rw [← hZ2] at hg1 hg2 hg3
  rw [← hnl] at hg3
  have hwz : Z.wt ≤ 90000 := by
    have h1 := JV.wn_put l x.ns
    have h2 := JV.wts_put l y x.ns x.is (JV.part_obj hp hk).1
    have h3 : Z.wt = 4 + x.t.length + JV.wn (JV.putN x.ns l) + JV.wts (JV.putI x.ns l x.is y) := by rw [hZ2, JV.wt]
    have h4 := x.wt_eq
    have := HW.out
    omega
  have hpz : Hid (y.may = true → (JV.text l).may = true → Z.part = true) := fun h1 h2 => by
    rw [hZ2]
    exact JV.part_put hp hk (may_part h1) (may_txt h2)
  have HG2 := Lib.hid hg2
  have HG3 := Lib.hid hg3
  have HWZ := Lib.hid hwz
  have cG := get_any Z l hwz w7 _ (HX6.out w7 b7)
  rw [hg1] at cG
  have BZ := Lib.hid b7
  clear hk hp hput hZ2 hg1 hg2 hg3 hnl hwz b7
  go_wp2_with fail
  refine cG.mono ?_; rintro e w8 ⟨⟨g, rfl, hg⟩, bb⟩
  have hg := hg.hv
  obtain ⟨_, _, _, _, _, rfl, hcg, g8a, g8b, g8c, g8d, rfl, rfl, rfl, rfl, rfl⟩ := hg.cells
  obtain ⟨W8, hW8⟩ : ∃ W, W = w8.alloc (.cells #[.int .u8 (y.k : Int), .int .i64 y.n, .string (S y.t), .slice g8a y.ns.length g8c, .slice g8b y.is.length g8d] 25) := ⟨_, rfl⟩
  have ba : Below w8.heap.size w8 W8 := by rw [hW8]; exact (Below.refl _ _).alloc (Nat.le_refl _) _
  have VV : VAt w8.heap.size W8 (.int .u8 (y.k : Int)) (.int .i64 y.n) (.string (S y.t)) (.slice g8a y.ns.length g8c) (.slice g8b y.is.length g8d) := by rw [hW8]; exact VAt.new ..
  have HH : HV W8 (.agg #[.int .u8 (y.k : Int), .int .i64 y.n, .string (S y.t), .slice g8a y.ns.length g8c, .slice g8b y.is.length g8d]) y := ⟨_, rfl, HC.below ba _ _ hcg⟩
  obtain ⟨q8, hq8⟩ : ∃ q, q = w8.heap.size := ⟨_, rfl⟩
  rw [← hq8] at VV
  have HV8 : Hid (∀ W, Below W8.heap.size W8 W → VAt q8 W (.int .u8 (y.k : Int)) (.int .i64 y.n) (.string (S y.t)) (.slice g8a y.ns.length g8c) (.slice g8b y.is.length g8d)) := fun W h => VV.below h
  have HX8 : Hid (∀ W, Below W8.heap.size W8 W → HV W (.agg #[.int .u8 (y.k : Int), .int .i64 y.n, .string (S y.t), .slice g8a y.ns.length g8c, .slice g8b y.is.length g8d]) y) := fun W h => HH.below h
  have bs8 := bb.trans (ba.mono bb.size)
  clear VV HH hcg hg ba bb
  clear cG p0 p1 p2 p3 p4 r0 r1 r2 r3 r4
  have B8 := Lib.hid (B7.out.trans (bs8.mono B7.out.size))
  have Z8 := Lib.hid (BZ.out.trans (bs8.mono BZ.out.size))
  obtain ⟨⟨p0, p1, p2, p3, p4⟩, _⟩ := (HV8.out W8 (Below.refl _ _)).cells
  obtain ⟨⟨r0, r1, r2, r3, r4⟩, _⟩ := (HV2.out W8 B8.out).cells
  rw [hW8] at p0 p1 p2 p3 p4 r0 r1 r2 r3 r4
  rw [hq8] at p0 p1 p2 p3 p4
  have cS := refSame_any _ y y (Nat.le_refl _) W8 _ _ (HX8.out W8 (Below.refl _ _)) (HY.out W8 B8.out)
  rw [JV.same_yes] at cS
  clear bs8
  go_wp2_with fail
  rw [← hW8]
  clear hW8 hq8
  refine cS.mono ?_; rintro e w9 ⟨rfl, b9⟩
  clear cS p0 p1 p2 p3 p4 r0 r1 r2 r3 r4 HV8 HX8
  have B9 := Lib.hid (B8.out.trans (b9.mono B8.out.size))
  have Z9 := Lib.hid (Z8.out.trans (b9.mono Z8.out.size))
  clear b9
  obtain ⟨gb, hgb⟩ : ∃ c, (x.get o).2 = c := ⟨_, rfl⟩
  obtain ⟨G, hG⟩ : ∃ Z, (x.get o).1 = Z := ⟨_, rfl⟩
  obtain ⟨gb', hgb'⟩ : ∃ c, (Z.get o).2 = c := ⟨_, rfl⟩
  obtain ⟨G', hG'⟩ : ∃ q, (Z.get o).1 = q := ⟨_, rfl⟩
  have HGG : Hid (o ≠ l → G' = G ∧ gb' = gb) := fun h => by rw [← hG, ← hG', ← hgb, ← hgb', HG2.out h]; exact ⟨rfl, rfl⟩
  have cG := get_any x o (by have := HW.out.1; omega) w9 _ (HX.out w9 B9.out)
  rw [hG, hgb] at cG
  have CR : Hid (∀ W, Below W6.heap.size W6 W → _) := fun W h => get_any Z o HWZ.out W _ (HX6.out W h)
  rw [hG', hgb'] at CR
  clear hG hG' hgb hgb' HG2
  obtain ⟨⟨p0, p1, p2, p3, p4⟩, _⟩ := (HV1.out w9 B9.out).cells
  go_wp2_with fail
  refine cG.mono ?_; rintro e w10 ⟨⟨g, rfl, hg⟩, bb⟩
  have hg := hg.hv
  obtain ⟨_, _, _, _, _, rfl, hcg, g10a, g10b, g10c, g10d, rfl, rfl, rfl, rfl, rfl⟩ := hg.cells
  obtain ⟨W10, hW10⟩ : ∃ W, W = w10.alloc (.cells #[.int .u8 (G.k : Int), .int .i64 G.n, .string (S G.t), .slice g10a G.ns.length g10c, .slice g10b G.is.length g10d] 25) := ⟨_, rfl⟩
  have ba : Below w10.heap.size w10 W10 := by rw [hW10]; exact (Below.refl _ _).alloc (Nat.le_refl _) _
  have VV : VAt w10.heap.size W10 (.int .u8 (G.k : Int)) (.int .i64 G.n) (.string (S G.t)) (.slice g10a G.ns.length g10c) (.slice g10b G.is.length g10d) := by rw [hW10]; exact VAt.new ..
  have HH : HV W10 (.agg #[.int .u8 (G.k : Int), .int .i64 G.n, .string (S G.t), .slice g10a G.ns.length g10c, .slice g10b G.is.length g10d]) G := ⟨_, rfl, HC.below ba _ _ hcg⟩
  obtain ⟨q10, hq10⟩ : ∃ q, q = w10.heap.size := ⟨_, rfl⟩
  rw [← hq10] at VV
  have HV10 : Hid (∀ W, Below W10.heap.size W10 W → VAt q10 W (.int .u8 (G.k : Int)) (.int .i64 G.n) (.string (S G.t)) (.slice g10a G.ns.length g10c) (.slice g10b G.is.length g10d)) := fun W h => VV.below h
  have HX10 : Hid (∀ W, Below W10.heap.size W10 W → HV W (.agg #[.int .u8 (G.k : Int), .int .i64 G.n, .string (S G.t), .slice g10a G.ns.length g10c, .slice g10b G.is.length g10d]) G) := fun W h => HH.below h
  have bs10 := bb.trans (ba.mono bb.size)
  clear VV HH hcg hg ba bb
  clear cG p0 p1 p2 p3 p4
  have B10 := Lib.hid (B9.out.trans (bs10.mono B9.out.size))
  have Z10 := Lib.hid (Z9.out.trans (bs10.mono Z9.out.size))
  obtain ⟨⟨p0, p1, p2, p3, p4⟩, _⟩ := (HV6.out W10 Z10.out).cells
  rw [hW10] at p0 p1 p2 p3 p4
  have cG := CR.out W10 Z10.out
  clear bs10 CR
  go_wp2_with fail
  rw [← hW10, ← hq10]
  clear hW10 hq10
  refine cG.mono ?_; rintro e w11 ⟨⟨g, rfl, hg⟩, bb⟩
  have hg := hg.hv
  obtain ⟨_, _, _, _, _, rfl, hcg, g11a, g11b, g11c, g11d, rfl, rfl, rfl, rfl, rfl⟩ := hg.cells
  obtain ⟨W11, hW11⟩ : ∃ W, W = w11.alloc (.cells #[.int .u8 (G'.k : Int), .int .i64 G'.n, .string (S G'.t), .slice g11a G'.ns.length g11c, .slice g11b G'.is.length g11d] 25) := ⟨_, rfl⟩
  have ba : Below w11.heap.size w11 W11 := by rw [hW11]; exact (Below.refl _ _).alloc (Nat.le_refl _) _
  have VV : VAt w11.heap.size W11 (.int .u8 (G'.k : Int)) (.int .i64 G'.n) (.string (S G'.t)) (.slice g11a G'.ns.length g11c) (.slice g11b G'.is.length g11d) := by rw [hW11]; exact VAt.new ..
  have HH : HV W11 (.agg #[.int .u8 (G'.k : Int), .int .i64 G'.n, .string (S G'.t), .slice g11a G'.ns.length g11c, .slice g11b G'.is.length g11d]) G' := ⟨_, rfl, HC.below ba _ _ hcg⟩
  obtain ⟨q11, hq11⟩ : ∃ q, q = w11.heap.size := ⟨_, rfl⟩
  rw [← hq11] at VV
  have HV11 : Hid (∀ W, Below W11.heap.size W11 W → VAt q11 W (.int .u8 (G'.k : Int)) (.int .i64 G'.n) (.string (S G'.t)) (.slice g11a G'.ns.length g11c) (.slice g11b G'.is.length g11d)) := fun W h => VV.below h
  have HX11 : Hid (∀ W, Below W11.heap.size W11 W → HV W (.agg #[.int .u8 (G'.k : Int), .int .i64 G'.n, .string (S G'.t), .slice g11a G'.ns.length g11c, .slice g11b G'.is.length g11d]) G') := fun W h => HH.below h
  have bs11 := bb.trans (ba.mono bb.size)
  clear VV HH hcg hg ba bb
  clear cG p0 p1 p2 p3 p4
  have B11 := Lib.hid (B10.out.trans (bs11.mono B10.out.size))
  have Z11 := Lib.hid (Z10.out.trans (bs11.mono Z10.out.size))
  have u1 := S_toList o
  have u2 := S_toList l
  by_cases hol : o = l
  case' pos =>
    have hb : ((S o).toList == (S l).toList) = true := by rw [u1, u2]; exact beq_iff_eq.2 hol
    have hb2 : (o == l) = true := beq_iff_eq.2 hol
    clear hol
    go_wp2_with fail
    rw [← hW11, ← hq11]
    clear hW11 hq11 hb hb2 u1 u2 HV11 HX11 HGG bs11
    obtain ⟨wr, hwr⟩ : ∃ wr, wr = W11 := ⟨_, rfl⟩
    rw [← hwr] at B11 Z11
    rw [← hwr]
    have BR := B11
    have BRZ := Z11
    clear hwr B11 Z11
  case' neg =>
    have hb : ((S o).toList == (S l).toList) = false := by rw [u1, u2]; exact beq_eq_false_iff_ne.2 hol
    have hb2 : (o == l) = false := beq_eq_false_iff_ne.2 hol
    obtain ⟨rfl, rfl⟩ := HGG.out hol
    have cS := refSame_any _ G' G' (Nat.le_refl _) W11 _ _ (HX10.out W11 bs11) (HX11.out W11 (Below.refl _ _))
    rw [JV.same_yes] at cS
    obtain ⟨⟨p0, p1, p2, p3, p4⟩, _⟩ := (HV10.out W11 bs11).cells
    obtain ⟨⟨r0, r1, r2, r3, r4⟩, _⟩ := (HV11.out W11 (Below.refl _ _)).cells
    rw [hW11] at p0 p1 p2 p3 p4 r0 r1 r2 r3 r4
    rw [hq11] at r0 r1 r2 r3 r4
    clear hol HGG
    go_wp2_with fail
    rw [← hW11]
    clear hW11 hq11 hb hb2 u1 u2
    refine cS.mono ?_; rintro e wr ⟨rfl, b12⟩
    clear cS p0 p1 p2 p3 p4 r0 r1 r2 r3 r4 HV11 HX11 bs11
    have BR := Lib.hid (B11.out.trans (b12.mono B11.out.size))
    have BRZ := Lib.hid (Z11.out.trans (b12.mono Z11.out.size))
    clear b12
    go_wp2_with fail
  all_goals
    refine region_w (Y := y) (Z := Z) (l := l) (by kernel_rfl) (by kernel_rfl) (by simp) rfl rfl rfl (HV2.out _ BR.out) (HV6.out _ BRZ.out) (HY.out _ BR.out) (HX6.out _ BRZ.out) (by have := HW.out.2.1; omega) hll.out (by rw [JV.text, JV.wt]; simp only [JV.wn, JV.wts]; have := HW.out.2.2; omega) HWZ.out (by have := HWZ.out; have := Z.cnt_wt; omega) hpz.out (fun f w13 f0 b13 => ?_)
    have f0 : f 124 = .bool false := f0
    rw [putR_lit]
    simp only [putL, show ∀ i, pwa i = (Swa.contains i) from fun _ => rfl, Swa]
    simp
    rw [f0]
    have B13 := Lib.hid (BR.out.trans (b13.mono BR.out.size))
    have Z13 := Lib.hid (BRZ.out.trans (b13.mono BRZ.out.size))
    clear b13 f0
    obtain ⟨Hd, hHd⟩ : ∃ c, (x.get l).2 = c := ⟨_, rfl⟩
    obtain ⟨H, hH⟩ : ∃ Z, (x.get l).1 = Z := ⟨_, rfl⟩
    obtain ⟨U, hU⟩ : ∃ q, (Z.without l).1 = q := ⟨_, rfl⟩
    have cG := get_any x l (by have := HW.out.1; omega) w13 _ (HX.out w13 B13.out)
    have CR : Hid (∀ W, Below W6.heap.size W6 W → _) := fun W h => without_any Z l HWZ.out W _ (HX6.out W h)
    have h3 := HG3.out
    rw [hHd, hU] at h3
    rw [hU, h3.1] at CR
    rw [hHd, hH] at cG
    obtain ⟨n, hn⟩ : ∃ n, U.ns.length = n := ⟨_, rfl⟩
    have hzn : Z.ns.length = n + 1 := by have := h3.2.1; omega
    have HUX : Hid (Hd = false → U = x) := h3.2.2
    have hnb : (n : Int) + 1 ≤ 9223372036854775807 := by have h1 := HWZ.out; have h2 := Z.wt_eq; have h3 := JV.wn_len Z.ns; omega
    have HN := Lib.hid (And.intro hn hzn)
    clear hn hzn h3 hU hHd hH HG3
    obtain ⟨⟨p0, p1, p2, p3, p4⟩, _⟩ := (HV1.out w13 B13.out).cells
    go_wp2_with fail
    refine cG.mono ?_; rintro e w14 ⟨⟨g, rfl, hg⟩, bb⟩
    have hg := hg.hv
    obtain ⟨_, _, _, _, _, rfl, hcg, g14a, g14b, g14c, g14d, rfl, rfl, rfl, rfl, rfl⟩ := hg.cells
    obtain ⟨W14, hW14⟩ : ∃ W, W = w14.alloc (.cells #[.int .u8 (H.k : Int), .int .i64 H.n, .string (S H.t), .slice g14a H.ns.length g14c, .slice g14b H.is.length g14d] 25) := ⟨_, rfl⟩
    have ba : Below w14.heap.size w14 W14 := by rw [hW14]; exact (Below.refl _ _).alloc (Nat.le_refl _) _
    have VV : VAt w14.heap.size W14 (.int .u8 (H.k : Int)) (.int .i64 H.n) (.string (S H.t)) (.slice g14a H.ns.length g14c) (.slice g14b H.is.length g14d) := by rw [hW14]; exact VAt.new ..
    have HH : HV W14 (.agg #[.int .u8 (H.k : Int), .int .i64 H.n, .string (S H.t), .slice g14a H.ns.length g14c, .slice g14b H.is.length g14d]) H := ⟨_, rfl, HC.below ba _ _ hcg⟩
    obtain ⟨q14, hq14⟩ : ∃ q, q = w14.heap.size := ⟨_, rfl⟩
    rw [← hq14] at VV
    have HV14 : Hid (∀ W, Below W14.heap.size W14 W → VAt q14 W (.int .u8 (H.k : Int)) (.int .i64 H.n) (.string (S H.t)) (.slice g14a H.ns.length g14c) (.slice g14b H.is.length g14d)) := fun W h => VV.below h
    have HX14 : Hid (∀ W, Below W14.heap.size W14 W → HV W (.agg #[.int .u8 (H.k : Int), .int .i64 H.n, .string (S H.t), .slice g14a H.ns.length g14c, .slice g14b H.is.length g14d]) H) := fun W h => HH.below h
    have bs14 := bb.trans (ba.mono bb.size)
    clear VV HH hcg hg ba bb
    clear cG p0 p1 p2 p3 p4
    have B14 := Lib.hid (B13.out.trans (bs14.mono B13.out.size))
    have Z14 := Lib.hid (Z13.out.trans (bs14.mono Z13.out.size))
    obtain ⟨⟨p0, p1, p2, p3, p4⟩, _⟩ := (HV6.out W14 Z14.out).cells
    rw [hW14] at p0 p1 p2 p3 p4
    have cG := CR.out W14 Z14.out
    clear bs14 CR
    go_wp2_with fail
    rw [← hW14, ← hq14]
    clear hW14 hq14
    refine cG.mono ?_; rintro e w15 ⟨⟨g, rfl, hg⟩, bb⟩
    have hg := hg.hv
    obtain ⟨_, _, _, _, _, rfl, hcg, g15a, g15b, g15c, g15d, rfl, rfl, rfl, rfl, rfl⟩ := hg.cells
    obtain ⟨W15, hW15⟩ : ∃ W, W = w15.alloc (.cells #[.int .u8 (U.k : Int), .int .i64 U.n, .string (S U.t), .slice g15a U.ns.length g15c, .slice g15b U.is.length g15d] 25) := ⟨_, rfl⟩
    have ba : Below w15.heap.size w15 W15 := by rw [hW15]; exact (Below.refl _ _).alloc (Nat.le_refl _) _
    have VV : VAt w15.heap.size W15 (.int .u8 (U.k : Int)) (.int .i64 U.n) (.string (S U.t)) (.slice g15a U.ns.length g15c) (.slice g15b U.is.length g15d) := by rw [hW15]; exact VAt.new ..
    have HH : HV W15 (.agg #[.int .u8 (U.k : Int), .int .i64 U.n, .string (S U.t), .slice g15a U.ns.length g15c, .slice g15b U.is.length g15d]) U := ⟨_, rfl, HC.below ba _ _ hcg⟩
    obtain ⟨q15, hq15⟩ : ∃ q, q = w15.heap.size := ⟨_, rfl⟩
    rw [← hq15] at VV
    have HV15 : Hid (∀ W, Below W15.heap.size W15 W → VAt q15 W (.int .u8 (U.k : Int)) (.int .i64 U.n) (.string (S U.t)) (.slice g15a U.ns.length g15c) (.slice g15b U.is.length g15d)) := fun W h => VV.below h
    have HX15 : Hid (∀ W, Below W15.heap.size W15 W → HV W (.agg #[.int .u8 (U.k : Int), .int .i64 U.n, .string (S U.t), .slice g15a U.ns.length g15c, .slice g15b U.is.length g15d]) U) := fun W h => HH.below h
    have bs15 := bb.trans (ba.mono bb.size)
    clear VV HH hcg hg ba bb
    clear cG p0 p1 p2 p3 p4
    have B15 := Lib.hid (B14.out.trans (bs15.mono B14.out.size))
    have Z15 := Lib.hid (Z14.out.trans (bs15.mono Z14.out.size))
    have hn := HN.out.1
    have hzn := HN.out.2
    cases Hd with
    | true =>
      obtain ⟨⟨p0, p1, p2, p3, p4⟩, _⟩ := (HV15.out W15 (Below.refl _ _)).cells
      obtain ⟨⟨r0, r1, r2, r3, r4⟩, _⟩ := (HV6.out W15 Z15.out).cells
      rw [hW15] at p0 p1 p2 p3 p4 r0 r1 r2 r3 r4
      rw [hq15] at p0 p1 p2 p3 p4
      rw [hn] at p3
      rw [hzn] at r3
      have E1 := C3.out.trans (B15.out.mono C3.out.size)
      rw [hW15] at E1
      clear hn hzn
      go_wp2_with fail
      go_ret
      refine ⟨?_, E1⟩
      have hn := HN.out.1
      simp
      omega
    | false =>
      have hUX := HUX.out rfl
      have HXU := HX15.out W15 (Below.refl _ _)
      have cS := refSame_any _ U x (Nat.le_refl _) W15 _ _ HXU (HX.out W15 B15.out)
      rw [JV.same_iff.2 hUX] at cS
      obtain ⟨⟨p0, p1, p2, p3, p4⟩, _⟩ := (HV15.out W15 (Below.refl _ _)).cells
      obtain ⟨⟨r0, r1, r2, r3, r4⟩, _⟩ := (HV1.out W15 B15.out).cells
      rw [hW15] at p0 p1 p2 p3 p4 r0 r1 r2 r3 r4
      rw [hq15] at p0 p1 p2 p3 p4
      clear hUX HUX HXU hn hzn
      go_wp2_with fail
      rw [← hW15, ← hq15]
      clear hW15 hq15
      refine cS.mono ?_; rintro e w16 ⟨rfl, b16⟩
      clear cS p0 p1 p2 p3 p4 r0 r1 r2 r3 r4
      obtain ⟨⟨p0, p1, p2, p3, p4⟩, _⟩ := (HV15.out w16 b16).cells
      obtain ⟨⟨r0, r1, r2, r3, r4⟩, _⟩ := (HV6.out w16 (Z15.out.trans (b16.mono Z15.out.size))).cells
      have hn := HN.out.1
      have hzn := HN.out.2
      rw [hn] at p3
      rw [hzn] at r3
      have E1 := C3.out.trans ((B15.out.trans (b16.mono B15.out.size)).mono C3.out.size)
      clear hn hzn HN b16
      go_wp2_with fail
      go_ret
      refine ⟨?_, E1⟩
      first | rfl | simp
end Go.Proofs.Ytcmalaabggohmaa
