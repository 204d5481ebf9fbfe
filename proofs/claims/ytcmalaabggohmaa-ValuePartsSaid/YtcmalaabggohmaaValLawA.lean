/-
  The walk of ValueParts: it comes to true.
-/
import Derived.Test.YtcmalaabggohmaaValAwake
namespace Go.Proofs.Ytcmalaabggohmaa
open Go.RowKit

/-- an Item of a value that may be, may be -/
theorem JV.may_item {x y : JV} {i : Nat} (h : x.may = true) (hy : x.is[i]? = some y) : y.may = true := by
  unfold JV.may at *
  simp only [Bool.and_eq_true, decide_eq_true_iff] at *
  obtain ⟨h1, h2, h3⟩ := h
  rw [JV.part_formed, Bool.and_eq_true] at h1
  have hc := JV.cnt_item hy
  refine ⟨JV.parts_get h1.2 hy, by omega, ?_⟩
  have hd := JV.deps_get hy
  rw [JV.dep_eq] at h3
  by_cases hk : x.k = 4 ∨ x.k = 5
  · rw [if_pos hk] at h3
    omega
  · have := JV.formed_flat h1.1 hk
    have := (List.getElem?_eq_some_iff.1 hy).1
    omega
set_option maxHeartbeats 4000000 in
set_option maxRecDepth 10000 in
theorem law_ValueParts (y : JV) (v : Value) (w : World) (hv : HV w v y) :
    Calls Try.prog 7 #[v] w fun e w' => e = .returned (.bool true) ∧ Below w.heap.size w w' := by
  obtain ⟨a, b, ca, cb, rfl, hV, hI, hN, hB⟩ := hv.open
  obtain ⟨m, hm⟩ : ∃ m, y.is.length = m := ⟨_, rfl⟩
  obtain ⟨r, hr⟩ : ∃ m, y.ns.length = m := ⟨_, rfl⟩
  rw [hm, hr] at hV
  rw [hm, hr]
  obtain ⟨kI, hk⟩ : ∃ z : Int, z = (y.k : Int) := ⟨_, rfl⟩
  obtain ⟨nI, hn⟩ : ∃ z : Int, z = y.n := ⟨_, rfl⟩
  obtain ⟨t, ht⟩ : ∃ z, z = y.t := ⟨_, rfl⟩
  rw [← hk, ← hn, ← ht] at hV
  rw [← hk, ← hn, ← ht]
  have HM := Lib.hid hm
  have HK := Lib.hid hk
  have hm2 : (m : Int) ≤ 9223372036854775807 := by have := hB.2.2.2.2.1; unfold maxLen at this; omega
  clear hm hr hk hn ht hv hN hB
  obtain ⟨W1, hW1⟩ : ∃ W, W = w.alloc (.cells #[.int .u8 kI, .int .i64 nI, .string (S t), .slice a r ca, .slice b m cb] 25) := ⟨_, rfl⟩
  obtain ⟨W2, hW2⟩ : ∃ W, W = W1.alloc (.cells #[.int .u8 kI, .int .i64 nI, .string (S t), .slice a r ca, .slice b m cb] 25) := ⟨_, rfl⟩
  have b1 : Below w.heap.size w W1 := by rw [hW1]; exact (Below.refl _ _).alloc (Nat.le_refl _) _
  have b12 : Below W1.heap.size W1 W2 := by rw [hW2]; exact (Below.refl _ _).alloc (Nat.le_refl _) _
  have V1 : VAt w.heap.size W1 (.int .u8 kI) (.int .i64 nI) (.string (S t)) (.slice a r ca) (.slice b m cb) := by rw [hW1]; exact VAt.new ..
  have c2 := b1.trans (b12.mono b1.size)
  have V2 := V1.below b12
  have i2 : W2.heap[W1.heap.size]? = some (.cells #[.int .u8 kI, .int .i64 nI, .string (S t), .slice a r ca, .slice b m cb] 25 (0, 0)) := by rw [hW2]; exact heap_alloc_new W1 _
  have e1 : W1.heap.size = w.heap.size + 1 := by rw [hW1]; simp
  obtain ⟨cs, hcs, hc⟩ := hV W2 c2
  have hcs : cs = [.int .u8 kI, .int .i64 nI, .string (S t), .slice a r ca, .slice b m cb] := by simpa using hcs.symm
  subst hcs
  have cL := long_any [y] W2 (some ⟨W1.heap.size, 0, none⟩) 1 (by show 1 ≤ maxLen; unfold maxLen; omega) (.inr ⟨W1.heap.size, 0, rfl, HI.of_block i2 (HCS.one hc)⟩)
  rw [e1, show [y].length = 1 from rfl] at cL
  have HV2 : Hid (∀ W, Below W2.heap.size W2 W → VAt w.heap.size W (.int .u8 kI) (.int .i64 nI) (.string (S t)) (.slice a r ca) (.slice b m cb)) := fun W h => V2.below h
  have HVv : Hid (∀ W, Below W2.heap.size W2 W → HV W (.agg #[.int .u8 kI, .int .i64 nI, .string (S t), .slice a r ca, .slice b m cb]) y) := fun W h => ⟨_, rfl, HC.below h y _ hc⟩
  have HII : Hid (y.is = [] ∨ ∃ blk off, b = some ⟨blk, off, none⟩ ∧ HI W2 blk off y.is) := hI.imp id fun ⟨blk, off, h1, h2⟩ => ⟨blk, off, h1, HI.below c2 _ _ _ h2⟩
  have C2 := Lib.hid c2
  clear b1 b12 V1 V2 i2 hc hI hV c2 e1
  go_enter Try.func7, Try.ntmps7
  go_wp2_with fail
  rw [← hW1, ← hW2]
  clear hW1 hW2
  refine cL.mono ?_; rintro e w2 ⟨⟨B, rfl, hB⟩, rfl⟩
  cases B with
  | true =>
    go_wp2_with fail
    refine (awake_any _).mono ?_; rintro e w3 ⟨rfl, b3⟩
    go_wp2_with fail
    go_ret
    exact ⟨rfl, C2.out.trans (b3.mono C2.out.size)⟩
  | false =>
  have hwt : y.wt ≤ 90000 := by
    have := hB rfl
    simp only [JV.wts] at this
    omega
  have hcw := y.cnt_wt
  have hmc := JV.len_le y.is
  have hcq := y.cnt_eq
  have hm3 : (m : Int) ≤ 22500 := by have := HM.out; omega
  have HCN := Lib.hid hcq
  have HWt := Lib.hid (And.intro hwt hcw)
  clear hB cL hm2 hmc hcq hcw
  go_wp2_with fail
  refine (awake_any _).mono ?_; rintro e w3 ⟨rfl, b3⟩
  obtain ⟨⟨p0, p1, p2, p3, p4⟩, _⟩ := (HV2.out _ b3).cells
  have B3 := Lib.hid b3
  clear b3
  go_wp2_with fail
  clear p0 p1 p2 p3 p4
  go_loopw [3, 4, 5] (fun nv dv iv wr => ∃ i : Nat, iv = .int .i64 (i : Int) ∧ i ≤ m ∧ nv = .int .i64 ((1 + JV.cnts (y.is.take i) : Nat) : Int) ∧ dv = .int .i64 ((JV.deps (y.is.take i) : Nat) : Int) ∧ Below W2.heap.size W2 wr) (fun _ _ iv _ => m - (intOf iv).toNat)
  case atStart => exact ⟨0, rfl, Nat.zero_le _, rfl, rfl, B3.out⟩
  case round =>
    obtain ⟨i, rfl, hi, rfl, rfl, hW⟩ := hrel
    have BW := Lib.hid hW
    obtain ⟨⟨p0, p1, p2, p3, p4⟩, _⟩ := (HV2.out _ hW).cells
    by_cases hlt : (i : Int) < (m : Int)
    · obtain ⟨x, hx⟩ : ∃ x, y.is[i]? = some x := ⟨y.is[i]'(by have := HM.out; omega), List.getElem?_eq_getElem _⟩
      obtain ⟨blk, off, rfl, hIb⟩ := items_at HII.out hx
      obtain ⟨c0, c1, c2, c3, c4, g0, g1, g2, g3, g4, hcx⟩ := hIb.get hx
      obtain ⟨xa, xb, xca, xcb, rfl, rfl, rfl, rfl, rfl⟩ := five hcx
      have HG : Hid (∀ W, Below W2.heap.size W2 W → W.cell? ⟨blk, off + i * 5, none⟩ = some (.int .u8 (x.k : Int)) ∧ W.cell? ⟨blk, off + i * 5 + 1, none⟩ = some (.int .i64 x.n) ∧ W.cell? ⟨blk, off + i * 5 + 2, none⟩ = some (.string (S x.t)) ∧ W.cell? ⟨blk, off + i * 5 + 3, none⟩ = some (.slice xa x.ns.length xca) ∧ W.cell? ⟨blk, off + i * 5 + 4, none⟩ = some (.slice xb x.is.length xcb)) := fun W hb => by
        have hk : ∀ {o : Nat} {c : Value}, W2.cell? ⟨blk, o, none⟩ = some c → W.cell? ⟨blk, o, none⟩ = some c := fun hg => (hb.cell (World.block_lt_of_cell? W2 _ hg)).trans hg
        exact ⟨hk g0, hk g1, hk g2, hk g3, hk g4⟩
      have HX : Hid (∀ W, Below W2.heap.size W2 W → HV W (.agg #[.int .u8 (x.k : Int), .int .i64 x.n, .string (S x.t), .slice xa x.ns.length xca, .slice xb x.is.length xcb]) x) := fun W h => ⟨_, rfl, HC.below h x _ hcx⟩
      have hxw : x.wt ≤ 90000 := by have := JV.wts_get hx; have := y.wt_eq; omega
      have hxc : x.cnt ≤ 90000 := by have := x.cnt_wt; omega
      have HMI : Hid (y.may = true → x.may = true) := fun h => JV.may_item h hx
      have hs1 : Hid (JV.cnts (y.is.take (i + 1)) = JV.cnts (y.is.take i) + x.cnt) := by rw [Hid, JV.take_snoc hx, JV.cnts_snoc]
      have hs2 : Hid (JV.deps (y.is.take (i + 1)) = max (JV.deps (y.is.take i)) x.dep) := by rw [Hid, JV.take_snoc hx, JV.deps_snoc]
      have hl1 := JV.cnts_take_le y.is (i + 1)
      have hl2 := JV.deps_take_le y.is i
      have hl3 := JV.deps_le y.is
      have hl4 := x.dep_le
      obtain ⟨A, hA⟩ : ∃ A : Nat, 1 + JV.cnts (y.is.take i) = A := ⟨_, rfl⟩
      obtain ⟨Y, hY⟩ : ∃ Y : Nat, x.cnt = Y := ⟨_, rfl⟩
      have hAY : (A : Int) + (Y : Int) ≤ 90000 := by have := hs1.out; have := HCN.out; have := HWt.out.2; omega
      obtain ⟨AD, hAD⟩ : ∃ A : Int, A = ((JV.deps (y.is.take i) : Nat) : Int) := ⟨_, rfl⟩
      obtain ⟨YD, hYD⟩ : ∃ Y : Int, Y = ((x.dep : Nat) : Int) := ⟨_, rfl⟩
      have cM := fun W (h : Below W2.heap.size W2 W) {c : Bool} (hc : y.may = c) => may_any y W _ hwt (HVv.out W h) hc
      have cX := fun W (h : Below W2.heap.size W2 W) {c : Bool} (hc : x.may = c) => may_any x W _ hxw (HX.out W h) hc
      have cC := fun W (h : Below W2.heap.size W2 W) => count_any _ x (Nat.le_refl _) hxc W _ (HX.out W h)
      have cD := fun W (h : Below W2.heap.size W2 W) => depth_any _ x (Nat.le_refl _) hxc W _ (HX.out W h)
      rw [hY] at cC
      rw [← hYD] at cD
      rw [hA, ← hAD]
      have HA := Lib.hid hA
      have HY := Lib.hid hY
      have HAD := Lib.hid hAD
      have HYD := Lib.hid hYD
      have CM := Lib.hid (fun W (h : Below W2.heap.size W2 W) (c : Bool) (hc : y.may = c) => cM W h hc)
      have CX := Lib.hid (fun W (h : Below W2.heap.size W2 W) (c : Bool) (hc : x.may = c) => cX W h hc)
      have CC := Lib.hid cC
      have CD := Lib.hid cD
      obtain ⟨my, hmy⟩ : ∃ c, y.may = c := ⟨_, rfl⟩
      have HMY := Lib.hid hmy
      clear cM cX cC cD hA hY hAD hYD hcx hIb hx g0 g1 g2 g3 g4 hxw hxc hl1 hl2 hl3 hl4 hmy
      cases my
      all_goals
        go_wp2_with fail
        refine (CM.out wr BW.out _ HMY.out).mono ?_; rintro e w5 ⟨rfl, b5⟩
        have B5 := Lib.hid (BW.out.trans (b5.mono BW.out.size))
        clear p0 p1 p2 p3 p4 b5
        obtain ⟨⟨p0, p1, p2, p3, p4⟩, _⟩ := (HV2.out _ B5.out).cells
        obtain ⟨g0, g1, g2, g3, g4⟩ := HG.out _ B5.out
      · go_wp2_with fail
        refine (CC.out w5 B5.out).mono ?_; rintro e w6 ⟨rfl, b6⟩
        have B6 := Lib.hid (B5.out.trans (b6.mono B5.out.size))
        clear p0 p1 p2 p3 p4 g0 g1 g2 g3 g4 b6
        obtain ⟨⟨p0, p1, p2, p3, p4⟩, _⟩ := (HV2.out _ B6.out).cells
        obtain ⟨g0, g1, g2, g3, g4⟩ := HG.out _ B6.out
        go_wp2_with fail
        refine (CD.out w6 B6.out).mono ?_; rintro e w7 ⟨rfl, b7⟩
        have B7 := Lib.hid (B6.out.trans (b7.mono B6.out.size))
        clear p0 p1 p2 p3 p4 g0 g1 g2 g3 g4 b7
        by_cases hle : AD ≤ YD
        all_goals
          go_wp2_with fail
          go_roundw
          case rel =>
            refine ⟨i + 1, by go_num, by omega, ?_, ?_, B7.out⟩
            · rw [hs1.out, ← HA.out, ← HY.out]
              congr 1
              omega
            · rw [hs2.out]
              congr 1
              have := HAD.out
              have := HYD.out
              omega
          case measure => simp [intOf]; omega
      · go_wp2_with fail
        refine (CX.out w5 B5.out true (HMI.out HMY.out)).mono ?_; rintro e w5' ⟨rfl, b5'⟩
        have B5' := Lib.hid (B5.out.trans (b5'.mono B5.out.size))
        clear p0 p1 p2 p3 p4 g0 g1 g2 g3 g4 b5'
        obtain ⟨⟨p0, p1, p2, p3, p4⟩, _⟩ := (HV2.out _ B5'.out).cells
        obtain ⟨g0, g1, g2, g3, g4⟩ := HG.out _ B5'.out
        go_wp2_with fail
        refine (CC.out w5' B5'.out).mono ?_; rintro e w6 ⟨rfl, b6⟩
        have B6 := Lib.hid (B5'.out.trans (b6.mono B5'.out.size))
        clear p0 p1 p2 p3 p4 g0 g1 g2 g3 g4 b6
        obtain ⟨⟨p0, p1, p2, p3, p4⟩, _⟩ := (HV2.out _ B6.out).cells
        obtain ⟨g0, g1, g2, g3, g4⟩ := HG.out _ B6.out
        go_wp2_with fail
        refine (CD.out w6 B6.out).mono ?_; rintro e w7 ⟨rfl, b7⟩
        have B7 := Lib.hid (B6.out.trans (b7.mono B6.out.size))
        clear p0 p1 p2 p3 p4 g0 g1 g2 g3 g4 b7
        by_cases hle : AD ≤ YD
        all_goals
          go_wp2_with fail
          go_roundw
          case rel =>
            refine ⟨i + 1, by go_num, by omega, ?_, ?_, B7.out⟩
            · rw [hs1.out, ← HA.out, ← HY.out]
              congr 1
              omega
            · rw [hs2.out]
              congr 1
              have := HAD.out
              have := HYD.out
              omega
          case measure => simp [intOf]; omega
    · obtain rfl : i = m := by omega
      have hall : y.is.take i = y.is := by rw [← HM.out]; exact List.take_length
      rw [hall]
      have hcn : y.cnt ≤ 90000 := by have := HWt.out.2; have := HWt.out.1; omega
      have hdl := JV.deps_le y.is
      have cC := fun W (h : Below W2.heap.size W2 W) => count_any _ y (Nat.le_refl _) hcn W _ (HVv.out W h)
      have cD := fun W (h : Below W2.heap.size W2 W) => depth_any _ y (Nat.le_refl _) hcn W _ (HVv.out W h)
      have hce := HCN.out
      obtain ⟨C, hC⟩ : ∃ C : Nat, y.cnt = C := ⟨_, rfl⟩
      obtain ⟨D, hD⟩ : ∃ D : Nat, JV.deps y.is = D := ⟨_, rfl⟩
      have hD2 : (D : Int) ≤ 90000 := by omega
      rw [hC] at cC
      have hCq : (1 + JV.cnts y.is) = C := by omega
      rw [hCq, hD]
      have HD := Lib.hid hD
      have hde := y.dep_eq
      by_cases hkk : y.k = 4 ∨ y.k = 5
      · rw [if_pos hkk, hD] at hde
        rw [hde] at cD
        have hkI : kI = 4 ∨ kI = 5 := by have := HK.out; omega
        have CC := Lib.hid cC
        have CD := Lib.hid cD
        have hcast : ((D + 1 : Nat) : Int) = (D : Int) + 1 := by omega
        clear hde hkk hC hD hce hCq hdl cC cD hcn
        rcases hkI with rfl | rfl
        all_goals
          go_wp2_with fail
          refine (CC.out wr BW.out).mono ?_; rintro e w5 ⟨rfl, b5⟩
          have B5 := Lib.hid (BW.out.trans (b5.mono BW.out.size))
          clear p0 p1 p2 p3 p4 b5
          obtain ⟨⟨p0, p1, p2, p3, p4⟩, _⟩ := (HV2.out _ B5.out).cells
          go_wp2_with fail
          refine (CD.out w5 B5.out).mono ?_; rintro e w6 ⟨rfl, b6⟩
          have B6 := Lib.hid (B5.out.trans (b6.mono B5.out.size))
          clear p0 p1 p2 p3 p4 b6
          go_wp2_with fail
          go_ret
          refine ⟨?_, C2.out.trans (B6.out.mono C2.out.size)⟩
          first | rfl | simp
      · rw [if_neg hkk] at hde
        rw [hde] at cD
        have h4 : (kI != 4) = true := bne_iff_ne.2 (by have := HK.out; omega)
        have h5 : (kI != 5) = true := bne_iff_ne.2 (by have := HK.out; omega)
        have CC := Lib.hid cC
        have CD := Lib.hid cD
        clear hde hkk hC hD hce hCq hdl cC cD hcn
        go_wp2_with fail
        refine (CC.out wr BW.out).mono ?_; rintro e w5 ⟨rfl, b5⟩
        have B5 := Lib.hid (BW.out.trans (b5.mono BW.out.size))
        clear p0 p1 p2 p3 p4 b5
        obtain ⟨⟨p0, p1, p2, p3, p4⟩, _⟩ := (HV2.out _ B5.out).cells
        go_wp2_with fail
        refine (CD.out w5 B5.out).mono ?_; rintro e w6 ⟨rfl, b6⟩
        have B6 := Lib.hid (B5.out.trans (b6.mono B5.out.size))
        clear p0 p1 p2 p3 p4 b6
        go_wp2_with fail
        go_ret
        refine ⟨?_, C2.out.trans (B6.out.mono C2.out.size)⟩
        first | rfl | simp
end Go.Proofs.Ytcmalaabggohmaa
