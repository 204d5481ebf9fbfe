/-
  CanonParts.
-/
import Derived.Test.YtpifbmcgadjhbaaDoorCanAwake
import Derived.Test.YtpifbmcgadjhbaaDoorCanRefF
import Derived.Test.YtpifbmcgadjhbaaDoorValHead
namespace Go.Proofs.YtpifbmcgadjhbaaDoor
open Go.RowKit

theorem may_item' {x y : JV} {i : Nat} (h : x.may = true) (hy : x.is[i]? = some y) : y.may = true := by
  unfold JV.may at h ⊢
  simp only [Bool.and_eq_true, decide_eq_true_eq] at h ⊢
  obtain ⟨h1, h2, h3⟩ := h
  have hc := JV.cnt_item hy
  have hd := JV.deps_get hy
  have hdx : JV.dep y ≤ JV.dep x := by
    by_cases hk : x.k = 4 ∨ x.k = 5
    · obtain ⟨k, n, t, ns, is⟩ := x
      have hk : k = 4 ∨ k = 5 := hk
      rw [show JV.dep (.mk k n t ns is) = JV.deps is + 1 by rw [JV.dep, if_pos hk]]
      have : JV.dep y ≤ JV.deps is := hd
      omega
    · exfalso
      obtain ⟨k, n, t, ns, is⟩ := x
      obtain ⟨p1, p2, p3, _, _⟩ := Cn.part_bare h1
      have hi : is = [] := by
        rcases Cn.part_k h1 with e | e | e | e | e
        · exact (p1 e).2.2.2
        · exact (p2 e).2.2
        · exact (p3 e).2.2.1
        · exact absurd (.inl e) hk
        · exact absurd (.inr e) hk
      subst hi
      simp [JV.is] at hy
  exact ⟨JV.parts_get (Cn.part_items h1) hy, by omega, by omega⟩
theorem enc_text {l : List UInt8} (h : Jn.txt l = true) : ENC (JV.text l) = (Qm.quo l, 0) := by
  have hm : (JV.text l).may = true := by
    unfold JV.may JV.text
    simp [JV.part, JV.cnt, JV.cnts, JV.dep, h]
  rw [ENC_ok hm]
  unfold JV.text
  rw [Cn.form, if_neg (by decide), if_neg (by decide), if_neg (by decide), if_pos rfl]
set_option maxHeartbeats 8000000 in
set_option maxRecDepth 10000 in
theorem law_CanonParts (x : JV) (v : Value) (w : World) (hv : HV w v x) (hT : TabN w) :
    Calls Tryd.prog 6 #[v] w fun e w' => e = .returned (.bool true) ∧ Below w.heap.size w w' := by
  obtain ⟨a, b, ca, cb, rfl, hI, hN0, hJ, hh⟩ := head1 hv
  obtain ⟨m, hm⟩ : ∃ m, x.is.length = m := ⟨_, rfl⟩
  obtain ⟨r, hr⟩ : ∃ m, x.ns.length = m := ⟨_, rfl⟩
  obtain ⟨kI, hk⟩ : ∃ z : Int, z = (x.k : Int) := ⟨_, rfl⟩
  obtain ⟨nI, hn⟩ : ∃ z : Int, z = x.n := ⟨_, rfl⟩
  obtain ⟨tS, ht⟩ : ∃ z : ByteArray, z = S x.t := ⟨_, rfl⟩
  rw [hm, hr, ← hk, ← hn, ← ht] at hh ⊢
  obtain ⟨W3, hW3⟩ : ∃ W3, W3 = (w.alloc (.cells #[.int .u8 kI, .int .i64 nI, .string tS, .slice a r ca, .slice b m cb] 25)).alloc (.cells #[.int .u8 kI, .int .i64 nI, .string tS, .slice a r ca, .slice b m cb] 25) := ⟨_, rfl⟩
  obtain ⟨c3, HV1, HX, cL⟩ := hh W3 hW3
  have hm2 : (m : Int) ≤ 9223372036854775807 := by have := hJ.2.2.2.2.1; unfold maxLen at this; omega
  have HV1 := Lib.hid HV1
  have HX := Lib.hid HX
  have C3 := Lib.hid c3
  have T3 := hT.below c3
  have HM := Lib.hid hm
  have HR := Lib.hid hr
  have HK := Lib.hid hk
  have HI0 := Lib.hid hI
  have HNN := Lib.hid hN0
  clear hh hv c3 hT hm hr hk hn ht hI hN0 hJ
  go_enter Tryd.func6, Tryd.ntmps6
  go_wp2_with fail
  rw [← hW3]
  clear hW3
  refine cL.mono ?_; rintro e w4 ⟨⟨B, rfl, hB⟩, rfl⟩
  cases B with
  | true =>
    go_wp2_with fail
    refine (awake10_any _ T3).mono ?_; rintro e w5 ⟨rfl, b5⟩
    go_wp2_with fail
    go_ret
    exact ⟨rfl, C3.out.trans (b5.mono C3.out.size)⟩
  | false =>
  have hwx : x.wt ≤ 15000 ∨ x.wt < 20000 := .inr (by have := hB rfl; omega)
  have hwx : x.wt ≤ 90000 := by omega
  have hm3 : (m : Int) ≤ 90000 := by have := JV.len_le x.is; have := x.cnt_eq; have := x.cnt_wt; have := HM.out; omega
  clear hB cL hm2
  go_wp2_with fail
  refine (awake10_any _ T3).mono ?_; rintro e w5 ⟨rfl, b5⟩
  have T5 := T3.below b5
  obtain ⟨⟨p0, p1, p2, p3, p4⟩, _⟩ := (HV1.out w5 b5).cells
  have HB5 := Lib.hid b5
  have HW := Lib.hid hwx
  cases hmay : x.may with
  | false =>
    have cE := enc_call (ENC_no hmay) _ w5 hwx (HX.out w5 b5) T5
    rw [show S [] = (⟨#[]⟩ : ByteArray) from rfl] at cE
    clear hmay b5 hwx
    go_wp2_with fail
    refine cE.mono ?_; rintro e w6 ⟨rfl, b6⟩
    have HB6 := Lib.hid (HB5.out.trans (b6.mono HB5.out.size))
    clear p0 p1 p2 p3 p4 b6 cE T5
    go_wp2_with fail
    go_ret
    exact ⟨rfl, C3.out.trans (HB6.out.mono C3.out.size)⟩
  | true =>
  have hpt : x.part = true := by
    unfold JV.may at hmay
    simp only [Bool.and_eq_true] at hmay
    exact hmay.1
  have cE := enc_call (ENC_ok hmay) _ w5 hwx (HX.out w5 b5) T5
  have HPT := Lib.hid hpt
  have HMAY := Lib.hid hmay
  obtain ⟨F, hF⟩ : ∃ F, F = Cn.form x := ⟨_, rfl⟩
  rw [← hF] at cE
  have HF := Lib.hid hF
  have HLN : Hid (F.length ≤ 1000000000) := by
    show _ ≤ _
    rw [hF]
    obtain ⟨cs, _, hc⟩ := HX.out w5 b5
    have := Cn.form_len x (Cn.inr_of x cs hc)
    omega
  clear hmay hpt hwx hF b5
  go_wp2_with fail
  refine cE.mono ?_; rintro e w6 ⟨rfl, b6⟩
  have HB6 := Lib.hid (HB5.out.trans (b6.mono HB5.out.size))
  have T6 := T5.below b6
  obtain ⟨⟨q0, q1, q2, q3, q4⟩, _⟩ := (HV1.out w6 HB6.out).cells
  clear p0 p1 p2 p3 p4 b6 cE T5
  by_cases h4 : kI = 4
  case neg =>
    by_cases h5 : kI = 5
    case neg =>
      have h4b : (kI != 4) = true := bne_iff_ne.2 h4
      have h5b : (kI != 5) = true := bne_iff_ne.2 h5
      clear h4 h5
      go_wp2_with fail
      go_ret
      exact ⟨rfl, C3.out.trans (HB6.out.mono C3.out.size)⟩
    case pos =>
      subst h5
      obtain ⟨HNL, HTX⟩ : Hid (x.ns.length = x.is.length) ∧ Hid (∀ n ∈ x.ns, Jn.txt n = true) := by
        have h9 : x.k = 5 := by have := HK.out; omega
        have h8 := HPT.out
        obtain ⟨k, n, t, ns, is⟩ := x
        obtain ⟨_, _, _, _, p5⟩ := Cn.part_bare h8
        obtain ⟨_, _, q1, _, _, q2⟩ := p5 h9
        exact ⟨q1, q2⟩
      have hrm : r = m := HR.out.symm.trans (HNL.out.trans HM.out)
      subst hrm
      have e4 : Cn.form x = 123 :: (Cn.mem false x.ns x.is ++ [125]) := by rw [Cn.form_eq, if_neg (by have := HK.out; omega), if_pos (by have := HK.out; omega)]
      have HL : Hid ((Cn.mem false x.ns x.is).length + 2 ≤ 1000000000) := by
        have := HLN.out
        rw [HF.out, e4] at this
        show _ ≤ _
        simp at this
        omega
      have HF2 : Hid (F = 123 :: (Cn.mem false x.ns x.is ++ [125])) := by show _ = _; rw [HF.out, e4]
      clear e4
      go_wp2_with fail
      clear q0 q1 q2 q3 q4
      go_loopw [5, 6] (fun sv iv wr => ∃ (i : Nat) (o : List UInt8), iv = .int .i64 (i : Int) ∧ sv = .string (S o) ∧ i ≤ r ∧ Hid (o = Cn.mem false (x.ns.take i) (x.is.take i)) ∧ Below W3.heap.size W3 wr) (fun _ iv _ => r - (intOf iv).toNat)
      case atStart => exact ⟨0, [], rfl, rfl, Nat.zero_le _, by show _ = _; rw [List.take_zero, List.take_zero, Cn.mem], HB6.out⟩
      case round =>
        obtain ⟨i, o, rfl, rfl, hi, HO, hb⟩ := hrel
        have HBR := Lib.hid (C3.out.trans (hb.mono C3.out.size))
        obtain ⟨⟨p0, p1, p2, p3, p4⟩, pf⟩ := (HV1.out wr hb).cells
        have TR := T3.below hb
        have HB := Lib.hid hb
        clear hb
        by_cases hlt : (i : Int) < (r : Int)
        · obtain ⟨y, hy⟩ : ∃ y, x.is[i]? = some y := ⟨x.is[i]'(by have := HM.out; omega), List.getElem?_eq_getElem _⟩
          obtain ⟨blk, off, rfl, hII⟩ := nitems_at HI0.out hy
          obtain ⟨c0, c1, c2, c3, c4, g0, g1, g2, g3, g4, hcy⟩ := (HI.below HBR.out _ _ _ hII).get hy
          obtain ⟨ya, yb, yca, ycb, rfl, rfl, rfl, rfl, rfl⟩ := five hcy
          have hvy : HV wr (.agg #[.int .u8 (y.k : Int), .int .i64 y.n, .string (S y.t), .slice ya y.ns.length yca, .slice yb y.is.length ycb]) y := ⟨_, rfl, hcy⟩
          have hwy : y.wt ≤ 90000 := by have := JV.wts_get hy; have := x.wt_eq; have := HW.out; omega
          have hyE := ENC_ok (may_item' HMAY.out hy)
          obtain ⟨D, hD⟩ : ∃ D, D = Cn.hd (decide (0 < i)) := ⟨_, rfl⟩
          have HD := Lib.hid hD
          obtain ⟨nm, hnm⟩ : ∃ nm, x.ns[i]? = some nm := ⟨x.ns[i]'(by have := HR.out; omega), List.getElem?_eq_getElem _⟩
          have hst := Cn.mem_step HNL.out hnm hy
          have htk := Cn.mem_take false x.ns x.is (i + 1)
          have HST := Lib.hid hst
          obtain ⟨nb, no, rfl, dn⟩ := (HNN.out.below HBR.out) i nm hnm
          have htn := HTX.out nm (List.mem_of_getElem? hnm)
          have cT := text10_any nm wr (by have := (txt_quo htn).2; unfold maxLen; omega)
          have hqE := enc_text htn
          obtain ⟨Q, hQ⟩ : ∃ Q, Q = Qm.quo nm := ⟨_, rfl⟩
          have HQ := Lib.hid hQ
          have hnl4 := (txt_quo htn).2
          have HNW : Hid ((JV.text nm).wt ≤ 90000) := by show _ ≤ _; unfold JV.text; simp [JV.wt, JV.wn, JV.wts]; omega
          obtain ⟨NM, hNM⟩ : ∃ N : ByteArray, N = S nm := ⟨_, rfl⟩
          rw [← hNM] at dn cT
          rw [← hQ] at hqE
          have HQE := Lib.hid hqE
          have hsum : o.length + D.length + Q.length + 1 + (Cn.form y).length ≤ 1000000000 := by
            rw [hst, ← hD, ← hQ] at htk
            simp only [List.length_append, List.length_cons] at htk
            rw [HO.out]
            have := HL.out
            omega
          obtain ⟨o1, ho1⟩ : ∃ o1, o1 = o ++ D := ⟨_, rfl⟩
          have HO1 := Lib.hid ho1
          have A3 := add_S o1 Q (by rw [ho1, List.length_append]; omega)
          obtain ⟨o3, ho3⟩ : ∃ o3, o3 = o1 ++ Q := ⟨_, rfl⟩
          rw [← ho3] at A3
          have HO3 := Lib.hid ho3
          have A4 := add_S o3 [58] (by rw [ho3, ho1, List.length_append, List.length_append]; simp only [List.length_cons, List.length_nil]; omega)
          obtain ⟨o4, ho4⟩ : ∃ o4, o4 = o3 ++ [58] := ⟨_, rfl⟩
          rw [← ho4, show S [58] = (⟨#[58]⟩ : ByteArray) from rfl] at A4
          have HO4 := Lib.hid ho4
          have A2 := add_S o4 (Cn.form y) (by rw [ho4, ho3, ho1]; simp only [List.length_append, List.length_cons, List.length_nil]; omega)
          obtain ⟨QS, hQS⟩ : ∃ z : ByteArray, z = S Q := ⟨_, rfl⟩
          rw [← hQS] at A3
          have HQS := Lib.hid hQS
          obtain ⟨o2, ho2⟩ : ∃ o2, o2 = o4 ++ Cn.form y := ⟨_, rfl⟩
          obtain ⟨FY, hFY⟩ : ∃ F, F = S (Cn.form y) := ⟨_, rfl⟩
          rw [← ho2, ← hFY] at A2
          have HO2 := Lib.hid ho2
          have HVY := Lib.hid hvy
          have HFY := Lib.hid hFY
          have HYE := Lib.hid hyE
          have HWY := Lib.hid hwy
          have hrel : Hid (o2 = Cn.mem false (x.ns.take (i + 1)) (x.is.take (i + 1))) := by
            show _ = _
            rw [HO2.out, HO4.out, HO3.out, HO1.out, HST.out, HO.out, ← HD.out, ← HQ.out]
            simp
          by_cases hz : (0 : Int) < (i : Int)
          · have A1 := add_S o [44] (by have : D.length = 1 := by (rw [hD, decide_eq_true (by omega : 0 < i)]; rfl)
                                        simp only [List.length_cons, List.length_nil]; omega)
            have h44 : o ++ [44] = o1 := by rw [ho1, hD, decide_eq_true (by omega : 0 < i)]; rfl
            rw [h44, show S [44] = (⟨#[44]⟩ : ByteArray) from rfl] at A1
            clear hcy hII hy hst htk hD hsum ho1 ho2 hFY h44 hvy hyE hwy hnm htn hqE hQ hnl4 hNM ho3 ho4 hQS
            go_wp2_with fail
            refine cT.mono ?_; rintro e w7 ⟨tv, rfl, htv, b7⟩
            have T7 := TR.below b7
            have cQ := enc_call HQE.out tv w7 HNW.out htv T7
            rw [← HQS.out] at cQ
            have HB7 := Lib.hid (HB.out.trans (b7.mono HB.out.size))
            have HC7 := Lib.hid b7
            clear cT b7 p0 p1 p2 p3 p4 pf TR dn htv
            go_wp2_with fail
            refine cQ.mono ?_; rintro e w9 ⟨rfl, b9⟩
            have T9 := T7.below b9
            have HB9 := Lib.hid (HB7.out.trans (b9.mono HB7.out.size))
            have C79 := HC7.out.trans (b9.mono HC7.out.size)
            have G0 := (C79.cell (World.block_lt_of_cell? wr _ g0)).trans g0
            have G1 := (C79.cell (World.block_lt_of_cell? wr _ g1)).trans g1
            have G2 := (C79.cell (World.block_lt_of_cell? wr _ g2)).trans g2
            have G3 := (C79.cell (World.block_lt_of_cell? wr _ g3)).trans g3
            have G4 := (C79.cell (World.block_lt_of_cell? wr _ g4)).trans g4
            have cY := enc_call HYE.out _ w9 HWY.out (HVY.out.below C79) T9
            rw [← HFY.out] at cY
            obtain ⟨⟨p0, p1, p2, p3, p4⟩, pf⟩ := (HV1.out w9 HB9.out).cells
            clear cQ b9 T7 T9 C79 g0 g1 g2 g3 g4
            go_wp2_with fail
            refine cY.mono ?_; rintro e w8 ⟨rfl, b8⟩
            have HB8 := Lib.hid (HB9.out.trans (b8.mono HB9.out.size))
            clear cY b8 p0 p1 p2 p3 p4 pf G0 G1 G2 G3 G4
            go_wp2_with fail
            go_roundw
            case rel => exact ⟨i + 1, o2, by go_num, rfl, by omega, hrel, HB8.out⟩
            case measure => simp [intOf]; omega
          · have h44 : o = o1 := by rw [ho1, hD, decide_eq_false (by omega : ¬ 0 < i)]; simp [Cn.hd]
            rw [← h44] at A3
            clear hcy hII hy hst htk hD hsum ho1 ho2 hFY h44 hvy hyE hwy hnm htn hqE hQ hnl4 hNM ho3 ho4 hQS
            go_wp2_with fail
            refine cT.mono ?_; rintro e w7 ⟨tv, rfl, htv, b7⟩
            have T7 := TR.below b7
            have cQ := enc_call HQE.out tv w7 HNW.out htv T7
            rw [← HQS.out] at cQ
            have HB7 := Lib.hid (HB.out.trans (b7.mono HB.out.size))
            have HC7 := Lib.hid b7
            clear cT b7 p0 p1 p2 p3 p4 pf TR dn htv
            go_wp2_with fail
            refine cQ.mono ?_; rintro e w9 ⟨rfl, b9⟩
            have T9 := T7.below b9
            have HB9 := Lib.hid (HB7.out.trans (b9.mono HB7.out.size))
            have C79 := HC7.out.trans (b9.mono HC7.out.size)
            have G0 := (C79.cell (World.block_lt_of_cell? wr _ g0)).trans g0
            have G1 := (C79.cell (World.block_lt_of_cell? wr _ g1)).trans g1
            have G2 := (C79.cell (World.block_lt_of_cell? wr _ g2)).trans g2
            have G3 := (C79.cell (World.block_lt_of_cell? wr _ g3)).trans g3
            have G4 := (C79.cell (World.block_lt_of_cell? wr _ g4)).trans g4
            have cY := enc_call HYE.out _ w9 HWY.out (HVY.out.below C79) T9
            rw [← HFY.out] at cY
            obtain ⟨⟨p0, p1, p2, p3, p4⟩, pf⟩ := (HV1.out w9 HB9.out).cells
            clear cQ b9 T7 T9 C79 g0 g1 g2 g3 g4
            go_wp2_with fail
            refine cY.mono ?_; rintro e w8 ⟨rfl, b8⟩
            have HB8 := Lib.hid (HB9.out.trans (b8.mono HB9.out.size))
            clear cY b8 p0 p1 p2 p3 p4 pf G0 G1 G2 G3 G4
            go_wp2_with fail
            go_roundw
            case rel => exact ⟨i + 1, o2, by go_num, rfl, by omega, hrel, HB8.out⟩
            case measure => simp [intOf]; omega
        · obtain rfl : i = r := by omega
          have HO2 : Hid (o = Cn.mem false x.ns x.is) := by
            have := HO.out
            rw [← HM.out, List.take_length, ← HNL.out, List.take_length] at this
            exact this
          have A1 := add_S [123] o (by rw [HO2.out]; have := HL.out; simp only [List.length_cons, List.length_nil]; omega)
          have A2 := add_S ([123] ++ o) [125] (by rw [HO2.out]; have := HL.out; simp only [List.length_append, List.length_cons, List.length_nil]; omega)
          obtain ⟨r1, hr1⟩ : ∃ r, r = [123] ++ o := ⟨_, rfl⟩
          obtain ⟨r2, hr2⟩ : ∃ r, r = r1 ++ [125] := ⟨_, rfl⟩
          rw [← hr1, ← hr2, show S [125] = (⟨#[125]⟩ : ByteArray) from rfl] at A2
          rw [← hr1, show S [123] = (⟨#[123]⟩ : ByteArray) from rfl] at A1
          have hfr : F = r2 := by rw [HF2.out, hr2, hr1, HO2.out]; rfl
          have e1 : ((S F).toList == (S r2).toList) = true := by rw [hfr]; exact beq_self_eq_true _
          clear HO hr1 hr2 hfr
          go_wp2_with fail
          go_ret
          exact ⟨rfl, HBR.out⟩
  case pos =>
    subst h4
    have e4 : Cn.form x = 91 :: (Cn.cat false x.is ++ [93]) := by rw [Cn.form_eq, if_pos (by have := HK.out; omega)]
    have HL : Hid ((Cn.cat false x.is).length + 2 ≤ 1000000000) := by
      have := HLN.out
      rw [HF.out, e4] at this
      show _ ≤ _
      simp at this
      omega
    have HF2 : Hid (F = 91 :: (Cn.cat false x.is ++ [93])) := by show _ = _; rw [HF.out, e4]
    clear e4
    go_wp2_with fail
    clear q0 q1 q2 q3 q4
    go_loopw [5, 6] (fun sv iv wr => ∃ (i : Nat) (o : List UInt8), iv = .int .i64 (i : Int) ∧ sv = .string (S o) ∧ i ≤ m ∧ Hid (o = Cn.cat false (x.is.take i)) ∧ Below W3.heap.size W3 wr) (fun _ iv _ => m - (intOf iv).toNat)
    case atStart => exact ⟨0, [], rfl, rfl, Nat.zero_le _, by show _ = _; rw [List.take_zero, Cn.cat], HB6.out⟩
    case round =>
      obtain ⟨i, o, rfl, rfl, hi, HO, hb⟩ := hrel
      have HBR := Lib.hid (C3.out.trans (hb.mono C3.out.size))
      obtain ⟨⟨p0, p1, p2, p3, p4⟩, pf⟩ := (HV1.out wr hb).cells
      have TR := T3.below hb
      have HB := Lib.hid hb
      clear hb
      by_cases hlt : (i : Int) < (m : Int)
      · obtain ⟨y, hy⟩ : ∃ y, x.is[i]? = some y := ⟨x.is[i]'(by have := HM.out; omega), List.getElem?_eq_getElem _⟩
        obtain ⟨blk, off, rfl, hII⟩ := nitems_at HI0.out hy
        obtain ⟨c0, c1, c2, c3, c4, g0, g1, g2, g3, g4, hcy⟩ := (HI.below HBR.out _ _ _ hII).get hy
        obtain ⟨ya, yb, yca, ycb, rfl, rfl, rfl, rfl, rfl⟩ := five hcy
        have hvy : HV wr (.agg #[.int .u8 (y.k : Int), .int .i64 y.n, .string (S y.t), .slice ya y.ns.length yca, .slice yb y.is.length ycb]) y := ⟨_, rfl, hcy⟩
        have hwy : y.wt ≤ 90000 := by have := JV.wts_get hy; have := x.wt_eq; have := HW.out; omega
        have hyE := ENC_ok (may_item' HMAY.out hy)
        have hst := Cn.cat_step hy
        have htk := Cn.cat_take false x.is (i + 1)
        have HST := Lib.hid hst
        obtain ⟨D, hD⟩ : ∃ D, D = Cn.hd (decide (0 < i)) := ⟨_, rfl⟩
        have HD := Lib.hid hD
        have hsum : o.length + D.length + (Cn.form y).length ≤ 1000000000 := by
          rw [hst, ← hD] at htk
          simp only [List.length_append] at htk
          rw [HO.out]
          have := HL.out
          omega
        obtain ⟨o1, ho1⟩ : ∃ o1, o1 = o ++ D := ⟨_, rfl⟩
        have HO1 := Lib.hid ho1
        have A2 := add_S o1 (Cn.form y) (by rw [ho1, List.length_append]; omega)
        obtain ⟨o2, ho2⟩ : ∃ o2, o2 = o1 ++ Cn.form y := ⟨_, rfl⟩
        obtain ⟨FY, hFY⟩ : ∃ F, F = S (Cn.form y) := ⟨_, rfl⟩
        rw [← ho2, ← hFY] at A2
        have HO2 := Lib.hid ho2
        have HVY := Lib.hid hvy
        have HFY := Lib.hid hFY
        have HYE := Lib.hid hyE
        have HWY := Lib.hid hwy
        have hrel : Hid (o2 = Cn.cat false (x.is.take (i + 1))) := by
          show _ = _
          rw [HO2.out, HO1.out, HST.out, HO.out, ← HD.out]
          simp
        by_cases hz : (0 : Int) < (i : Int)
        · have A1 := add_S o [44] (by have : D.length = 1 := by (rw [hD, decide_eq_true (by omega : 0 < i)]; rfl)
                                      simp only [List.length_cons, List.length_nil]; omega)
          have h44 : o ++ [44] = o1 := by rw [ho1, hD, decide_eq_true (by omega : 0 < i)]; rfl
          rw [h44, show S [44] = (⟨#[44]⟩ : ByteArray) from rfl] at A1
          clear hcy hII hy hst htk hD hsum ho1 ho2 hFY h44 hvy hyE hwy
          go_wp2_with fail
          have cY := enc_call HYE.out _ wr HWY.out HVY.out TR
          rw [← HFY.out] at cY
          refine cY.mono ?_; rintro e w8 ⟨rfl, b8⟩
          have HB8 := Lib.hid (HB.out.trans (b8.mono HB.out.size))
          clear cY b8 p0 p1 p2 p3 p4 pf TR g0 g1 g2 g3 g4
          go_wp2_with fail
          go_roundw
          case rel => exact ⟨i + 1, o2, by go_num, rfl, by omega, hrel, HB8.out⟩
          case measure => simp [intOf]; omega
        · have h44 : o = o1 := by rw [ho1, hD, decide_eq_false (by omega : ¬ 0 < i)]; simp [Cn.hd]
          rw [← h44] at A2
          clear hcy hII hy hst htk hD hsum ho1 ho2 hFY h44 hvy hyE hwy
          go_wp2_with fail
          have cY := enc_call HYE.out _ wr HWY.out HVY.out TR
          rw [← HFY.out] at cY
          refine cY.mono ?_; rintro e w8 ⟨rfl, b8⟩
          have HB8 := Lib.hid (HB.out.trans (b8.mono HB.out.size))
          clear cY b8 p0 p1 p2 p3 p4 pf TR g0 g1 g2 g3 g4
          go_wp2_with fail
          go_roundw
          case rel => exact ⟨i + 1, o2, by go_num, rfl, by omega, hrel, HB8.out⟩
          case measure => simp [intOf]; omega
      · obtain rfl : i = m := by omega
        have HO2 : Hid (o = Cn.cat false x.is) := by
          have := HO.out
          rw [← HM.out, List.take_length] at this
          exact this
        have A1 := add_S [91] o (by rw [HO2.out]; have := HL.out; simp only [List.length_cons, List.length_nil]; omega)
        have A2 := add_S ([91] ++ o) [93] (by rw [HO2.out]; have := HL.out; simp only [List.length_append, List.length_cons, List.length_nil]; omega)
        obtain ⟨r1, hr1⟩ : ∃ r, r = [91] ++ o := ⟨_, rfl⟩
        obtain ⟨r2, hr2⟩ : ∃ r, r = r1 ++ [93] := ⟨_, rfl⟩
        rw [← hr1, ← hr2, show S [93] = (⟨#[93]⟩ : ByteArray) from rfl] at A2
        rw [← hr1, show S [91] = (⟨#[91]⟩ : ByteArray) from rfl] at A1
        have hfr : F = r2 := by rw [HF2.out, hr2, hr1, HO2.out]; rfl
        have e1 : ((S F).toList == (S r2).toList) = true := by rw [hfr]; exact beq_self_eq_true _
        clear HO hr1 hr2 hfr
        go_wp2_with fail
        go_ret
        exact ⟨rfl, HBR.out⟩
end Go.Proofs.YtpifbmcgadjhbaaDoor
