/-
  The document's Encode.
  The document's Encode: its form, its Encode.
  The document's Encode, of an object; and all of it.
-/
import Derived.Test.YtpifbmcgadjhbaaDoorCanEnc
import Derived.Test.YtpifbmcgadjhbaaDoorNumRefShow
namespace Go.Proofs.YtpifbmcgadjhbaaDoor
section
open Go.RowKit

set_option maxRecDepth 100000 in
set_option maxHeartbeats 1600000 in
theorem refCText_any (l : List UInt8) (w : World) (hl : l.length ≤ 100000000) :
    Calls Tryd.prog 33 #[.string (S l)] w fun e w' => e = .returned (.string (S (Qm.quo l))) ∧ Below w.heap.size w w' := by
  have z1 := S_size l
  have hat := S_at l
  obtain ⟨i0, hi0, hz0, hz1, hz2⟩ := info_parts info5
  have hown0 := own_new w w.heap.size (.int .u8 34) (Nat.le_refl _)
  have hb2 : Below w.heap.size w (w.alloc (.cells #[.int .u8 34] 5)) := (Below.refl _ _).alloc (Nat.le_refl _) _
  have HO := Lib.hid hown0
  clear hown0
  go_enter Tryd.func33, Tryd.ntmps33
  go_wp2_with fail
  go_loopw [3, 4] (fun v i wr => ∃ (k : Nat) (o : List UInt8), k ≤ l.length ∧ i = .int .i64 (k : Int) ∧ Hid (o = Qm.mid l k) ∧ o.length ≤ 2 * k + 1 ∧ wr.ownsRow w.heap.size 5 1 v o.length (V o) ∧ Below w.heap.size w wr) (fun _ i _ => l.length - (intOf i).toNat)
  case atStart => exact ⟨0, [34], Nat.zero_le _, rfl, rfl, by simp, HO.out, hb2⟩
  case round =>
    clear HO hb2
    obtain ⟨k, o, hk, rfl, HM, ho, hown, hbel⟩ := hrel
    have hsz := hbel.size
    by_cases hlt : k < l.length
    · have hbt := bt_get hlt
      obtain ⟨c, hc⟩ : ∃ c, l[k] = c := ⟨_, rfl⟩
      rw [hc] at hbt
      have hml := Qm.mid_len l (k + 1)
      by_cases h3 : c = 34 ∨ c = 92
      · have HM2 : Hid (Qm.mid l (k + 1) = o ++ [92] ++ [c]) := by unfold Hid; rw [Qm.mid_mark hlt hc h3, HM.out]
        clear hc HM
        rcases h3 with rfl | rfl
        all_goals
          go_wp2_with (first
            | (at_builtin; refine wpList_append_own _ rfl _ _ 37 rfl w.heap.size 5 i0 (.int .u8 0) 1 1 Tryd.underlying37 hi0 hz0 hz1 hz2 rfl (by decide) _ _ _ rfl (hown.alloc _) ⟨wr.heap.size, 0, none⟩ 1 1 [.int .u8 92] rfl rfl (World.news_of_block (cs := #[.int .u8 92]) (t := 5) (fr := (0, 0)) (heap_alloc_new wr _)) (by simp [Value.oneCell']) (by unfold maxLen; omega) (by omega) (by simp; omega) ?_; intro v' w2 hown1 hgrow _; have hb3 : Below w.heap.size w w2 := (hbel.alloc hsz _).grown hgrow (by simp <;> omega) (fun g e => (hown.lt _ e).1); have hsz2 := hb3.size)
            | (at_builtin; refine wpList_append_own _ rfl _ _ 37 rfl w.heap.size 5 i0 (.int .u8 0) 1 1 Tryd.underlying37 hi0 hz0 hz1 hz2 rfl (by decide) _ _ _ rfl (hown1.alloc _) ⟨w2.heap.size, 0, none⟩ 1 1 [.int .u8 _] rfl rfl (World.news_of_block (cs := #[.int .u8 _]) (t := 5) (fr := (0, 0)) (heap_alloc_new w2 _)) (by simp [Value.oneCell']) (by unfold maxLen; omega) (by omega) (by simp; omega) ?_; intro v'' w3 hown2 hgrow2 _))
          have hb4 := (hb3.alloc hsz2 _).grown hgrow2 (by simp <;> omega) (fun g e => (hown1.lt _ e).1)
          have HL := Lib.hid (show o.length + 1 + 1 ≤ 2 * (k + 1) + 1 by omega)
          clear hown hgrow hgrow2 hown1
          go_wp2_with fail
          go_roundw
          case rel =>
            refine ⟨k + 1, _, by omega, by go_num, HM2.out.symm, by rw [List.length_append, List.length_append]; exact HL.out, ?_, hb4⟩
            rw [V_append, V_append, List.length_append, List.length_append]
            exact hown2
          case measure => simp [intOf]; omega
      · have HM2 : Hid (Qm.mid l (k + 1) = o ++ [c]) := by unfold Hid; rw [Qm.mid_plain hlt hc h3, HM.out]
        have n1 : ((c.toNat : Int) == 34) = false := by
          rw [beq_eq_false_iff_ne]
          intro e
          exact h3 (.inl (UInt8.toNat_inj.1 (show c.toNat = 34 by omega)))
        have n2 : ((c.toNat : Int) == 92) = false := by
          rw [beq_eq_false_iff_ne]
          intro e
          exact h3 (.inr (UInt8.toNat_inj.1 (show c.toNat = 92 by omega)))
        clear hc HM h3
        go_wp2_with (at_builtin; refine wpList_append_own _ rfl _ _ 37 rfl w.heap.size 5 i0 (.int .u8 0) 1 1 Tryd.underlying37 hi0 hz0 hz1 hz2 rfl (by decide) _ _ _ rfl (hown.alloc _) ⟨wr.heap.size, 0, none⟩ 1 1 [.int .u8 (c.toNat : Int)] rfl rfl (World.news_of_block (cs := #[.int .u8 (c.toNat : Int)]) (t := 5) (fr := (0, 0)) (heap_alloc_new wr _)) (by simp [Value.oneCell']) (by unfold maxLen; omega) (by omega) (by simp; omega) ?_; intro v' w2 hown1 hgrow _)
        have hb3 : Below w.heap.size w w2 := (hbel.alloc hsz _).grown hgrow (by simp <;> omega) (fun g e => (hown.lt _ e).1)
        have HL := Lib.hid (show o.length + 1 ≤ 2 * (k + 1) + 1 by omega)
        clear hown hgrow
        go_wp2_with fail
        go_roundw
        case rel =>
          refine ⟨k + 1, _, by omega, by go_num, HM2.out.symm, by rw [List.length_append]; exact HL.out, ?_, hb3⟩
          rw [V_append, List.length_append]
          exact hown1
        case measure => simp [intOf]; omega
    · obtain rfl : k = l.length := by omega
      have HQ : Hid (o ++ [34] = Qm.quo l) := by unfold Hid; rw [HM.out, Qm.mid_full]
      clear HM
      go_wp2_with (at_builtin; refine wpList_append_own _ rfl _ _ 37 rfl w.heap.size 5 i0 (.int .u8 0) 1 1 Tryd.underlying37 hi0 hz0 hz1 hz2 rfl (by decide) _ _ _ rfl (hown.alloc _) ⟨wr.heap.size, 0, none⟩ 1 1 [.int .u8 34] rfl rfl (World.news_of_block (cs := #[.int .u8 34]) (t := 5) (fr := (0, 0)) (heap_alloc_new wr _)) (by simp [Value.oneCell']) (by unfold maxLen; omega) (by omega) (by simp; omega) ?_; intro v' w2 hown1 hgrow _; have hcv := conv_own w2 w.heap.size _ (o ++ [34]) (by rw [V_append, List.length_append]; exact hown1))
      have hb3 : Below w.heap.size w w2 := (hbel.alloc hsz _).grown hgrow (by simp <;> omega) (fun g e => (hown.lt _ e).1)
      go_ret
      exact ⟨ret_str (by rw [HQ.out]), hb3⟩
end

section
open Go.RowKit

/-- what the document's form is to do -/
def Frm (x : JV) : Prop := ∀ (w : World) (v : Value), HV w v x → (Cn.form x).length ≤ 1000000000 → Calls Tryd.prog 24 #[v] w fun e w' => e = .returned (.string (S (Cn.form x))) ∧ Below w.heap.size w w'
set_option maxHeartbeats 2000000 in
set_option maxRecDepth 4000 in
theorem form_alone (x : JV) (hp : x.part = true) (hk : x.k = 1 ∨ x.k = 2 ∨ x.k = 3) : Frm x := by
  intro w v hv hlen
  obtain ⟨cs, rfl, hc⟩ := hv
  obtain ⟨a, c, ca, cc, rfl, hJB, _, _⟩ := hc.form
  clear hc
  obtain ⟨k, n, t, ns, is⟩ := x
  obtain ⟨p1, p2, p3, _, _⟩ := Cn.part_bare hp
  have hJ : (-9223372036854775808 ≤ n ∧ n ≤ 9223372036854775807) := hJB.2.1
  show Calls _ _ #[.agg #[.int .u8 (k : Int), .int .i64 n, .string (S t), .slice a ns.length ca, .slice c is.length cc]] w _
  have hk : k = 1 ∨ k = 2 ∨ k = 3 := hk
  clear hJB hp hlen
  rcases hk with rfl | rfl | rfl
  · obtain ⟨hn, rfl, rfl, rfl⟩ := p1 rfl
    have e1 : Cn.form (.mk 1 n [] [] []) = if n = 1 then Cn.TRUE else Cn.FALSE := by
      rw [Cn.form, if_neg (by decide), if_neg (by decide), if_neg (by decide), if_neg (by decide)]
    rw [e1]
    clear p1 p2 p3 e1 hJ
    rcases hn with rfl | rfl
    · go_enter Tryd.func24, Tryd.ntmps24
      go_wp2_with fail
      go_ret
      exact ⟨rfl, (Below.refl _ _).alloc (Nat.le_refl _) _⟩
    · go_enter Tryd.func24, Tryd.ntmps24
      go_wp2_with fail
      go_ret
      exact ⟨rfl, (Below.refl _ _).alloc (Nat.le_refl _) _⟩
  · obtain ⟨rfl, rfl, rfl⟩ := p2 rfl
    have e1 : Cn.form (.mk 2 n [] [] []) = Lib.itoa n := by
      rw [Cn.form, if_neg (by decide), if_neg (by decide), if_pos rfl]
    obtain ⟨W1, hW1⟩ : ∃ W, W = w.alloc (.cells #[.int .u8 2, .int .i64 n, .string (S []), .slice a 0 ca, .slice c 0 cc] 25) := ⟨_, rfl⟩
    have g1 : Below w.heap.size w W1 := by rw [hW1]; exact (Below.refl _ _).alloc (Nat.le_refl _) _
    have HG1 := Lib.hid g1
    rw [e1]
    have cS := refNumShow_any n W1 hJ.1 hJ.2
    clear p1 p2 p3 e1 g1 hJ
    go_enter Tryd.func24, Tryd.ntmps24
    go_wp2_with fail
    rw [← hW1]
    refine cS.mono ?_; rintro e w2 ⟨rfl, b2⟩
    go_wp2_with fail
    go_ret
    exact ⟨rfl, HG1.out.trans (b2.mono HG1.out.size)⟩
  · obtain ⟨rfl, rfl, rfl, ht⟩ := p3 rfl
    have e1 : Cn.form (.mk 3 0 t [] []) = Qm.quo t := by
      rw [Cn.form, if_neg (by decide), if_neg (by decide), if_neg (by decide), if_pos rfl]
    obtain ⟨W1, hW1⟩ : ∃ W, W = w.alloc (.cells #[.int .u8 3, .int .i64 0, .string (S t), .slice a 0 ca, .slice c 0 cc] 25) := ⟨_, rfl⟩
    have g1 : Below w.heap.size w W1 := by rw [hW1]; exact (Below.refl _ _).alloc (Nat.le_refl _) _
    have HG1 := Lib.hid g1
    rw [e1]
    have cS := refCText_any t W1 (by have := (txt_quo ht).2; omega)
    clear p1 p2 p3 e1 g1 hJ ht
    go_enter Tryd.func24, Tryd.ntmps24
    go_wp2_with fail
    rw [← hW1]
    refine cS.mono ?_; rintro e w2 ⟨rfl, b2⟩
    go_wp2_with fail
    go_ret
    exact ⟨rfl, HG1.out.trans (b2.mono HG1.out.size)⟩
set_option maxHeartbeats 8000000 in
set_option maxRecDepth 5000 in
theorem form_list (x : JV) (hk : x.k = 4) (hml : x.is.length ≤ 90000) (ih : ∀ (i : Nat) y, x.is[i]? = some y → Frm y) : Frm x := by
  intro w v hv hlen
  obtain ⟨cs, rfl, hc⟩ := hv
  obtain ⟨a, c, ca, cc, rfl, hJB, _, hI⟩ := hc.form
  obtain ⟨m, hm⟩ : ∃ m, x.is.length = m := ⟨_, rfl⟩
  obtain ⟨s, hs⟩ : ∃ m, x.ns.length = m := ⟨_, rfl⟩
  obtain ⟨nI, hnI⟩ : ∃ z : Int, z = x.n := ⟨_, rfl⟩
  obtain ⟨tS, htS⟩ : ∃ z : ByteArray, z = S x.t := ⟨_, rfl⟩
  rw [hk, ← hnI, ← htS, hs, hm]
  show Calls _ _ #[.agg #[.int .u8 4, .int .i64 nI, .string tS, .slice a s ca, .slice c m cc]] w _
  have hm2 : (m : Int) ≤ 90000 := by omega
  obtain ⟨q, hq⟩ : ∃ q, q = w.heap.size := ⟨_, rfl⟩
  obtain ⟨W1, hW1⟩ : ∃ W, W = w.alloc (.cells #[.int .u8 4, .int .i64 nI, .string tS, .slice a s ca, .slice c m cc] 25) := ⟨_, rfl⟩
  have g1 : Below w.heap.size w W1 := by rw [hW1]; exact (Below.refl _ _).alloc (Nat.le_refl _) _
  have V1 : VAt q W1 (.int .u8 4) (.int .i64 nI) (.string tS) (.slice a s ca) (.slice c m cc) := by rw [hW1, hq]; exact VAt.new ..
  have e4 : Cn.form x = 91 :: (Cn.cat false x.is ++ [93]) := by rw [Cn.form_eq, if_pos hk]
  rw [e4] at hlen
  have hlen' : (Cn.cat false x.is).length + 2 ≤ 1000000000 := by simp at hlen; omega
  have HM := Lib.hid hm
  have HI0 := Lib.hid hI
  have HIH := Lib.hid ih
  have HG1 := Lib.hid g1
  have HV1 := Lib.hid V1
  have HL := Lib.hid hlen'
  rw [e4]
  obtain ⟨⟨p0, p1, p2, p3, p4⟩, pf⟩ := V1.cells
  clear hc hJB hnI htS hs hm g1 hk hlen hlen' hI ih V1 e4 hml
  go_enter Tryd.func24, Tryd.ntmps24
  go_wp2_with fail
  rw [← hW1, ← hq]
  clear hW1 hq p0 p1 p2 p3 p4 pf
  go_loopw [3, 4] (fun sv iv wr => ∃ (i : Nat) (o : List UInt8), iv = .int .i64 (i : Int) ∧ sv = .string (S o) ∧ i ≤ m ∧ Hid (o = Cn.cat false (x.is.take i)) ∧ Below W1.heap.size W1 wr) (fun _ iv _ => m - (intOf iv).toNat)
  case atStart => exact ⟨0, [], rfl, rfl, Nat.zero_le _, by show _ = _; rw [List.take_zero, Cn.cat], Below.refl _ _⟩
  case round =>
    obtain ⟨i, o, rfl, rfl, hi, HO, hb⟩ := hrel
    have HBR := Lib.hid (HG1.out.trans (hb.mono HG1.out.size))
    obtain ⟨⟨p0, p1, p2, p3, p4⟩, pf⟩ := (HV1.out.below hb).cells
    have HB := Lib.hid hb
    clear hb
    by_cases hlt : (i : Int) < (m : Int)
    · obtain ⟨y, hy⟩ : ∃ y, x.is[i]? = some y := ⟨x.is[i]'(by have := HM.out; omega), List.getElem?_eq_getElem _⟩
      obtain ⟨blk, off, rfl, hII⟩ := nitems_at HI0.out hy
      obtain ⟨c0, c1, c2, c3, c4, g0, g1, g2, g3, g4, hcy⟩ := (HI.below HBR.out _ _ _ hII).get hy
      obtain ⟨ya, yb, yca, ycb, rfl, rfl, rfl, rfl, rfl⟩ := five hcy
      have hvy : HV wr (.agg #[.int .u8 (y.k : Int), .int .i64 y.n, .string (S y.t), .slice ya y.ns.length yca, .slice yb y.is.length ycb]) y := ⟨_, rfl, hcy⟩
      have cY := HIH.out i y hy
      have hst := Cn.cat_step hy
      have htk := Cn.cat_take false x.is (i + 1)
      have HST := Lib.hid hst
      obtain ⟨D, hD⟩ : ∃ D, D = Cn.hd (decide (0 < i)) := ⟨_, rfl⟩
      have HD := Lib.hid hD
      have hsum : o.length + D.length + (Cn.form y).length ≤ 1000000000 := by
        rw [hst, ← hD] at htk
        simp only [List.length_append] at htk
        rw [HO.out]
        have := HL.out
        omega
      obtain ⟨o1, ho1⟩ : ∃ o1, o1 = o ++ D := ⟨_, rfl⟩
      have HO1 := Lib.hid ho1
      have A2 := add_S o1 (Cn.form y) (by rw [ho1, List.length_append]; omega)
      have cY1 := cY wr _ hvy (by omega)
      obtain ⟨o2, ho2⟩ : ∃ o2, o2 = o1 ++ Cn.form y := ⟨_, rfl⟩
      obtain ⟨FY, hFY⟩ : ∃ F, F = S (Cn.form y) := ⟨_, rfl⟩
      rw [← ho2, ← hFY] at A2
      rw [← hFY] at cY1
      have HO2 := Lib.hid ho2
      obtain ⟨K, hK⟩ : ∃ z : Int, z = (y.k : Int) := ⟨_, rfl⟩
      obtain ⟨N, hN⟩ : ∃ z : Int, z = y.n := ⟨_, rfl⟩
      obtain ⟨T, hTT⟩ : ∃ z : ByteArray, z = S y.t := ⟨_, rfl⟩
      obtain ⟨p, hp⟩ : ∃ z : Nat, z = y.ns.length := ⟨_, rfl⟩
      obtain ⟨r, hr⟩ : ∃ z : Nat, z = y.is.length := ⟨_, rfl⟩
      rw [← hK] at g0
      rw [← hN] at g1
      rw [← hTT] at g2
      rw [← hp] at g3
      rw [← hr] at g4
      rw [← hK, ← hN, ← hTT, ← hp, ← hr] at cY1
      have hrel : Hid (o2 = Cn.cat false (x.is.take (i + 1))) := by
        show _ = _
        rw [HO2.out, HO1.out, HST.out, HO.out, ← HD.out]
        simp
      by_cases hz : (0 : Int) < (i : Int)
      · have A1 := add_S o [44] (by have : D.length = 1 := by (rw [hD, decide_eq_true (by omega : 0 < i)]; rfl)
                                    simp only [List.length_cons, List.length_nil]; omega)
        have h44 : o ++ [44] = o1 := by rw [ho1, hD, decide_eq_true (by omega : 0 < i)]; rfl
        rw [h44, show S [44] = (⟨#[44]⟩ : ByteArray) from rfl] at A1
        clear hcy hII hy hst htk hD hsum ho1 ho2 hFY hK hN hTT hp hr h44 cY hvy
        go_wp2_with fail
        refine cY1.mono ?_; rintro e w3 ⟨rfl, b3⟩
        go_wp2_with fail
        go_roundw
        case rel => exact ⟨i + 1, o2, by go_num, rfl, by omega, hrel, HB.out.trans (b3.mono HB.out.size)⟩
        case measure => simp [intOf]; omega
      · have h44 : o = o1 := by rw [ho1, hD, decide_eq_false (by omega : ¬ 0 < i)]; simp [Cn.hd]
        rw [← h44] at A2
        clear hcy hII hy hst htk hD hsum ho1 ho2 hFY hK hN hTT hp hr h44 cY hvy
        go_wp2_with fail
        refine cY1.mono ?_; rintro e w3 ⟨rfl, b3⟩
        go_wp2_with fail
        go_roundw
        case rel => exact ⟨i + 1, o2, by go_num, rfl, by omega, hrel, HB.out.trans (b3.mono HB.out.size)⟩
        case measure => simp [intOf]; omega
    · obtain rfl : i = m := by omega
      have HO2 : Hid (o = Cn.cat false x.is) := by
        have := HO.out
        rw [← HM.out, List.take_length] at this
        exact this
      have A1 := add_S [91] o (by rw [HO2.out]; have := HL.out; simp only [List.length_cons, List.length_nil]; omega)
      have A2 := add_S ([91] ++ o) [93] (by rw [HO2.out]; have := HL.out; simp only [List.length_append, List.length_cons, List.length_nil]; omega)
      obtain ⟨r1, hr1⟩ : ∃ r, r = [91] ++ o := ⟨_, rfl⟩
      obtain ⟨r2, hr2⟩ : ∃ r, r = r1 ++ [93] := ⟨_, rfl⟩
      rw [← hr1, ← hr2, show S [93] = (⟨#[93]⟩ : ByteArray) from rfl] at A2
      rw [← hr1, show S [91] = (⟨#[91]⟩ : ByteArray) from rfl] at A1
      have HR2 : Hid (r2 = 91 :: (Cn.cat false x.is ++ [93])) := by show _ = _; rw [hr2, hr1, HO2.out]; rfl
      clear HO hr1 hr2
      go_wp2_with fail
      go_ret
      exact ⟨ret_str (by rw [HR2.out]), HBR.out⟩
end

section
open Go.RowKit

set_option maxHeartbeats 8000000 in
set_option maxRecDepth 5000 in
theorem form_obj (x : JV) (hk : x.k = 5) (hml : x.is.length ≤ 90000) (hnl : x.ns.length = x.is.length) (htx : ∀ n ∈ x.ns, Jn.txt n = true) (ih : ∀ (i : Nat) y, x.is[i]? = some y → Frm y) : Frm x := by
  intro w v hv hlen
  obtain ⟨cs, rfl, hc⟩ := hv
  obtain ⟨a, c, ca, cc, rfl, hJB, hN0, hI⟩ := hc.form
  obtain ⟨m, hm⟩ : ∃ m, x.is.length = m := ⟨_, rfl⟩
  have hs : x.ns.length = m := by rw [hnl, hm]
  obtain ⟨nI, hnI⟩ : ∃ z : Int, z = x.n := ⟨_, rfl⟩
  obtain ⟨tS, htS⟩ : ∃ z : ByteArray, z = S x.t := ⟨_, rfl⟩
  rw [hk, ← hnI, ← htS, hs, hm]
  show Calls _ _ #[.agg #[.int .u8 5, .int .i64 nI, .string tS, .slice a m ca, .slice c m cc]] w _
  have hm2 : (m : Int) ≤ 90000 := by omega
  obtain ⟨q, hq⟩ : ∃ q, q = w.heap.size := ⟨_, rfl⟩
  obtain ⟨W1, hW1⟩ : ∃ W, W = w.alloc (.cells #[.int .u8 5, .int .i64 nI, .string tS, .slice a m ca, .slice c m cc] 25) := ⟨_, rfl⟩
  have g1 : Below w.heap.size w W1 := by rw [hW1]; exact (Below.refl _ _).alloc (Nat.le_refl _) _
  have V1 : VAt q W1 (.int .u8 5) (.int .i64 nI) (.string tS) (.slice a m ca) (.slice c m cc) := by rw [hW1, hq]; exact VAt.new ..
  have HNN := Lib.hid hN0
  have HNL := Lib.hid hnl
  have HTX := Lib.hid htx
  have HS := Lib.hid hs
  clear hN0 hnl htx
  have e4 : Cn.form x = 123 :: (Cn.mem false x.ns x.is ++ [125]) := by rw [Cn.form_eq, if_neg (by omega), if_pos hk]
  rw [e4] at hlen
  have hlen' : (Cn.mem false x.ns x.is).length + 2 ≤ 1000000000 := by simp at hlen; omega
  have HM := Lib.hid hm
  have HI0 := Lib.hid hI
  have HIH := Lib.hid ih
  have HG1 := Lib.hid g1
  have HV1 := Lib.hid V1
  have HL := Lib.hid hlen'
  rw [e4]
  obtain ⟨⟨p0, p1, p2, p3, p4⟩, pf⟩ := V1.cells
  clear hc hJB hnI htS hs hm g1 hk hlen hlen' hI ih V1 e4 hml
  go_enter Tryd.func24, Tryd.ntmps24
  go_wp2_with fail
  rw [← hW1, ← hq]
  clear hW1 hq p0 p1 p2 p3 p4 pf
  go_loopw [3, 4] (fun sv iv wr => ∃ (i : Nat) (o : List UInt8), iv = .int .i64 (i : Int) ∧ sv = .string (S o) ∧ i ≤ m ∧ Hid (o = Cn.mem false (x.ns.take i) (x.is.take i)) ∧ Below W1.heap.size W1 wr) (fun _ iv _ => m - (intOf iv).toNat)
  case atStart => exact ⟨0, [], rfl, rfl, Nat.zero_le _, by show _ = _; rw [List.take_zero, List.take_zero, Cn.mem], Below.refl _ _⟩
  case round =>
    obtain ⟨i, o, rfl, rfl, hi, HO, hb⟩ := hrel
    have HBR := Lib.hid (HG1.out.trans (hb.mono HG1.out.size))
    obtain ⟨⟨p0, p1, p2, p3, p4⟩, pf⟩ := (HV1.out.below hb).cells
    have HB := Lib.hid hb
    clear hb
    by_cases hlt : (i : Int) < (m : Int)
    · obtain ⟨y, hy⟩ : ∃ y, x.is[i]? = some y := ⟨x.is[i]'(by have := HM.out; omega), List.getElem?_eq_getElem _⟩
      obtain ⟨blk, off, rfl, hII⟩ := nitems_at HI0.out hy
      obtain ⟨c0, c1, c2, c3, c4, g0, g1, g2, g3, g4, hcy⟩ := (HI.below HBR.out _ _ _ hII).get hy
      obtain ⟨ya, yb, yca, ycb, rfl, rfl, rfl, rfl, rfl⟩ := five hcy
      have hvy : HV wr (.agg #[.int .u8 (y.k : Int), .int .i64 y.n, .string (S y.t), .slice ya y.ns.length yca, .slice yb y.is.length ycb]) y := ⟨_, rfl, hcy⟩
      have cY := HIH.out i y hy
      obtain ⟨nm, hnm⟩ : ∃ nm, x.ns[i]? = some nm := ⟨x.ns[i]'(by have := HS.out; omega), List.getElem?_eq_getElem _⟩
      have hst := Cn.mem_step HNL.out hnm hy
      have htk := Cn.mem_take false x.ns x.is (i + 1)
      obtain ⟨nb, no, rfl, dn⟩ := (HNN.out.below HBR.out) i nm hnm
      have htn := HTX.out nm (List.mem_of_getElem? hnm)
      have cT := refCText_any nm wr (by have := (txt_quo htn).2; omega)
      obtain ⟨Q, hQ⟩ : ∃ Q, Q = Qm.quo nm := ⟨_, rfl⟩
      have HQ := Lib.hid hQ
      obtain ⟨NM, hNM⟩ : ∃ N : ByteArray, N = S nm := ⟨_, rfl⟩
      rw [← hNM] at dn
      rw [← hNM, ← hQ] at cT
      have HST := Lib.hid hst
      obtain ⟨D, hD⟩ : ∃ D, D = Cn.hd (decide (0 < i)) := ⟨_, rfl⟩
      have HD := Lib.hid hD
      have hsum : o.length + D.length + Q.length + 1 + (Cn.form y).length ≤ 1000000000 := by
        rw [hst, ← hD, ← hQ] at htk
        simp only [List.length_append, List.length_cons] at htk
        rw [HO.out]
        have := HL.out
        omega
      obtain ⟨o1, ho1⟩ : ∃ o1, o1 = o ++ D := ⟨_, rfl⟩
      have HO1 := Lib.hid ho1
      have A3 := add_S o1 Q (by rw [ho1, List.length_append]; omega)
      obtain ⟨o3, ho3⟩ : ∃ o3, o3 = o1 ++ Q := ⟨_, rfl⟩
      rw [← ho3] at A3
      have HO3 := Lib.hid ho3
      have A4 := add_S o3 [58] (by rw [ho3, ho1, List.length_append, List.length_append]; simp only [List.length_cons, List.length_nil]; omega)
      obtain ⟨o4, ho4⟩ : ∃ o4, o4 = o3 ++ [58] := ⟨_, rfl⟩
      rw [← ho4, show S [58] = (⟨#[58]⟩ : ByteArray) from rfl] at A4
      have HO4 := Lib.hid ho4
      have A2 := add_S o4 (Cn.form y) (by rw [ho4, ho3, ho1]; simp only [List.length_append, List.length_cons, List.length_nil]; omega)
      have HSUM := Lib.hid hsum
      obtain ⟨QS, hQS⟩ : ∃ z : ByteArray, z = S Q := ⟨_, rfl⟩
      rw [← hQS] at A3 cT
      obtain ⟨o2, ho2⟩ : ∃ o2, o2 = o4 ++ Cn.form y := ⟨_, rfl⟩
      obtain ⟨FY, hFY⟩ : ∃ F, F = S (Cn.form y) := ⟨_, rfl⟩
      rw [← ho2, ← hFY] at A2
      have HO2 := Lib.hid ho2
      obtain ⟨K, hK⟩ : ∃ z : Int, z = (y.k : Int) := ⟨_, rfl⟩
      obtain ⟨N, hN⟩ : ∃ z : Int, z = y.n := ⟨_, rfl⟩
      obtain ⟨T, hTT⟩ : ∃ z : ByteArray, z = S y.t := ⟨_, rfl⟩
      obtain ⟨p, hp⟩ : ∃ z : Nat, z = y.ns.length := ⟨_, rfl⟩
      obtain ⟨r, hr⟩ : ∃ z : Nat, z = y.is.length := ⟨_, rfl⟩
      rw [← hK] at g0
      rw [← hN] at g1
      rw [← hTT] at g2
      rw [← hp] at g3
      rw [← hr] at g4
      rw [← hK, ← hN, ← hTT, ← hp, ← hr] at hvy
      have HVY := Lib.hid hvy
      have HFY := Lib.hid hFY
      have HCY := Lib.hid cY
      have hrel : Hid (o2 = Cn.mem false (x.ns.take (i + 1)) (x.is.take (i + 1))) := by
        show _ = _
        rw [HO2.out, HO4.out, HO3.out, HO1.out, HST.out, HO.out, ← HD.out, ← HQ.out]
        simp
      by_cases hz : (0 : Int) < (i : Int)
      · have A1 := add_S o [44] (by have : D.length = 1 := by (rw [hD, decide_eq_true (by omega : 0 < i)]; rfl)
                                    simp only [List.length_cons, List.length_nil]; omega)
        have h44 : o ++ [44] = o1 := by rw [ho1, hD, decide_eq_true (by omega : 0 < i)]; rfl
        rw [h44, show S [44] = (⟨#[44]⟩ : ByteArray) from rfl] at A1
        clear hcy hII hy hst htk hD hsum ho1 ho2 hFY hK hN hTT hp hr h44 cY hvy hnm hQ hNM htn ho3 ho4 hQS
        go_wp2_with fail
        refine cT.mono ?_; rintro e w2 ⟨rfl, b2⟩
        have cY1 := HCY.out w2 _ (HVY.out.below b2) (by have := HSUM.out; omega)
        rw [← HFY.out] at cY1
        obtain ⟨⟨q0, q1, q2, q3, q4⟩, qf⟩ := (HV1.out.below (HB.out.trans (b2.mono HB.out.size))).cells
        have G0 := (b2.cell (World.block_lt_of_cell? wr _ g0)).trans g0
        have G1 := (b2.cell (World.block_lt_of_cell? wr _ g1)).trans g1
        have G2 := (b2.cell (World.block_lt_of_cell? wr _ g2)).trans g2
        have G3 := (b2.cell (World.block_lt_of_cell? wr _ g3)).trans g3
        have G4 := (b2.cell (World.block_lt_of_cell? wr _ g4)).trans g4
        have HB2 := Lib.hid (HB.out.trans (b2.mono HB.out.size))
        clear p0 p1 p2 p3 p4 pf g0 g1 g2 g3 g4 dn b2 cT
        go_wp2_with fail
        refine cY1.mono ?_; rintro e w3 ⟨rfl, b3⟩
        go_wp2_with fail
        go_roundw
        case rel => exact ⟨i + 1, o2, by go_num, rfl, by omega, hrel, HB2.out.trans (b3.mono HB2.out.size)⟩
        case measure => simp [intOf]; omega
      · have h44 : o = o1 := by rw [ho1, hD, decide_eq_false (by omega : ¬ 0 < i)]; simp [Cn.hd]
        rw [← h44] at A3
        clear hcy hII hy hst htk hD hsum ho1 ho2 hFY hK hN hTT hp hr h44 cY hvy hnm hQ hNM htn ho3 ho4 hQS
        go_wp2_with fail
        refine cT.mono ?_; rintro e w2 ⟨rfl, b2⟩
        have cY1 := HCY.out w2 _ (HVY.out.below b2) (by have := HSUM.out; omega)
        rw [← HFY.out] at cY1
        obtain ⟨⟨q0, q1, q2, q3, q4⟩, qf⟩ := (HV1.out.below (HB.out.trans (b2.mono HB.out.size))).cells
        have G0 := (b2.cell (World.block_lt_of_cell? wr _ g0)).trans g0
        have G1 := (b2.cell (World.block_lt_of_cell? wr _ g1)).trans g1
        have G2 := (b2.cell (World.block_lt_of_cell? wr _ g2)).trans g2
        have G3 := (b2.cell (World.block_lt_of_cell? wr _ g3)).trans g3
        have G4 := (b2.cell (World.block_lt_of_cell? wr _ g4)).trans g4
        have HB2 := Lib.hid (HB.out.trans (b2.mono HB.out.size))
        clear p0 p1 p2 p3 p4 pf g0 g1 g2 g3 g4 dn b2 cT
        go_wp2_with fail
        refine cY1.mono ?_; rintro e w3 ⟨rfl, b3⟩
        go_wp2_with fail
        go_roundw
        case rel => exact ⟨i + 1, o2, by go_num, rfl, by omega, hrel, HB2.out.trans (b3.mono HB2.out.size)⟩
        case measure => simp [intOf]; omega
    · obtain rfl : i = m := by omega
      have HO2 : Hid (o = Cn.mem false x.ns x.is) := by
        have := HO.out
        rw [← HM.out, List.take_length, ← HNL.out, List.take_length] at this
        exact this
      have A1 := add_S [123] o (by rw [HO2.out]; have := HL.out; simp only [List.length_cons, List.length_nil]; omega)
      have A2 := add_S ([123] ++ o) [125] (by rw [HO2.out]; have := HL.out; simp only [List.length_append, List.length_cons, List.length_nil]; omega)
      obtain ⟨r1, hr1⟩ : ∃ r, r = [123] ++ o := ⟨_, rfl⟩
      obtain ⟨r2, hr2⟩ : ∃ r, r = r1 ++ [125] := ⟨_, rfl⟩
      rw [← hr1, ← hr2, show S [125] = (⟨#[125]⟩ : ByteArray) from rfl] at A2
      rw [← hr1, show S [123] = (⟨#[123]⟩ : ByteArray) from rfl] at A1
      have HR2 : Hid (r2 = 123 :: (Cn.mem false x.ns x.is ++ [125])) := by show _ = _; rw [hr2, hr1, HO2.out]; rfl
      clear HO hr1 hr2
      go_wp2_with fail
      go_ret
      exact ⟨ret_str (by rw [HR2.out]), HBR.out⟩
theorem refForm_any : ∀ (K : Nat) (x : JV), x.cnt ≤ K → x.wt ≤ 90000 → x.part = true → Frm x := by
  intro K
  induction K with
  | zero => intro x h; have := x.cnt_pos; omega
  | succ K ih =>
    intro x hK hwt hp
    have hml : x.is.length ≤ 90000 := by have := JV.len_le x.is; have := x.cnt_eq; have := x.cnt_wt; omega
    have hit : ∀ (i : Nat) y, x.is[i]? = some y → Frm y := fun i y hy => by
      have h1 := JV.wts_get hy
      have h2 := JV.cnt_item hy
      have h3 := x.wt_eq
      exact ih y (by omega) (by omega) (JV.parts_get (Cn.part_items hp) hy)
    rcases Cn.part_k hp with h | h | h | h | h
    · exact form_alone x hp (.inl h)
    · exact form_alone x hp (.inr (.inl h))
    · exact form_alone x hp (.inr (.inr h))
    · exact form_list x h hml hit
    · obtain ⟨k, n, t, ns, is⟩ := x
      obtain ⟨_, _, _, _, p5⟩ := Cn.part_bare hp
      obtain ⟨_, _, q1, _, _, q2⟩ := p5 h
      exact form_obj _ h hml q1 q2 hit
set_option maxHeartbeats 4000000 in
set_option maxRecDepth 5000 in
theorem refEncode_any (x : JV) (v : Value) (w : World) (hwt : x.wt ≤ 90000) (hv : HV w v x) :
    Calls Tryd.prog 11 #[v] w fun e w' => e = .returned (.tuple #[.string (S (ENC x).1), .int .i64 ((ENC x).2 : Int)]) ∧ Below w.heap.size w w' := by
  obtain ⟨cs, rfl, hc⟩ := hv
  obtain ⟨a, c, ca, cb, rfl, _, _, _⟩ := hc.form
  obtain ⟨K, hK⟩ : ∃ z : Int, z = (x.k : Int) := ⟨_, rfl⟩
  obtain ⟨N, hNN⟩ : ∃ z : Int, z = x.n := ⟨_, rfl⟩
  obtain ⟨T, hTT⟩ : ∃ z : ByteArray, z = S x.t := ⟨_, rfl⟩
  obtain ⟨p, hp⟩ : ∃ z : Nat, z = x.ns.length := ⟨_, rfl⟩
  obtain ⟨r, hr⟩ : ∃ z : Nat, z = x.is.length := ⟨_, rfl⟩
  have hv : HV w (.agg #[.int .u8 K, .int .i64 N, .string T, .slice a p ca, .slice c r cb]) x := by rw [hK, hNN, hTT, hp, hr]; exact ⟨_, rfl, hc⟩
  rw [← hK, ← hNN, ← hTT, ← hp, ← hr]
  show Calls _ _ #[.agg #[.int .u8 K, .int .i64 N, .string T, .slice a p ca, .slice c r cb]] w _
  have hlen : (Cn.form x).length ≤ 1000000000 := by
    have := Cn.form_len x (Cn.inr_of x _ hc)
    omega
  clear hc hK hNN hTT hp hr
  obtain ⟨q, hq⟩ : ∃ q, q = w.heap.size := ⟨_, rfl⟩
  obtain ⟨W1, hW1⟩ : ∃ W, W = w.alloc (.cells #[.int .u8 K, .int .i64 N, .string T, .slice a p ca, .slice c r cb] 25) := ⟨_, rfl⟩
  have g1 : Below w.heap.size w W1 := by rw [hW1]; exact (Below.refl _ _).alloc (Nat.le_refl _) _
  have V1 : VAt q W1 (.int .u8 K) (.int .i64 N) (.string T) (.slice a p ca) (.slice c r cb) := by rw [hW1, hq]; exact VAt.new ..
  have hv1 := hv.below g1
  cases hm : x.may with
  | false =>
    have cM := refMay_any x W1 _ hwt hv1
    rw [hm] at cM
    rw [ENC_no hm]
    have HG := Lib.hid g1
    clear hv hv1 hm g1 V1
    go_enter Tryd.func11, Tryd.ntmps11
    go_wp2_with fail
    rw [← hW1]
    clear hW1
    refine cM.mono ?_; rintro e w2 ⟨rfl, b2⟩
    go_wp2_with fail
    go_ret2
    exact ⟨rfl, HG.out.trans (b2.mono HG.out.size)⟩
  | true =>
    have cM := refMay_any x W1 _ hwt hv1
    rw [hm] at cM
    rw [ENC_ok hm]
    have hpt : x.part = true := by
      unfold JV.may at hm
      simp only [Bool.and_eq_true] at hm
      exact hm.1
    have cF := refForm_any _ x (Nat.le_refl _) hwt hpt
    have HCF := Lib.hid cF
    have HG := Lib.hid g1
    have HVV := Lib.hid hv1
    have HV1 := Lib.hid V1
    clear hv hv1 hm g1 V1 cF hpt
    go_enter Tryd.func11, Tryd.ntmps11
    go_wp2_with fail
    rw [← hW1, ← hq]
    clear hW1 hq
    refine cM.mono ?_; rintro e w2 ⟨rfl, b2⟩
    have cF := HCF.out w2 _ (HVV.out.below b2) hlen
    obtain ⟨⟨p0, p1, p2, p3, p4⟩, pf⟩ := (HV1.out.below b2).cells
    have HB2 := Lib.hid (HG.out.trans (b2.mono HG.out.size))
    clear b2
    go_wp2_with fail
    refine cF.mono ?_; rintro e w3 ⟨rfl, b3⟩
    go_wp2_with fail
    go_ret2
    exact ⟨rfl, HB2.out.trans (b3.mono HB2.out.size)⟩
end
end Go.Proofs.YtpifbmcgadjhbaaDoor
