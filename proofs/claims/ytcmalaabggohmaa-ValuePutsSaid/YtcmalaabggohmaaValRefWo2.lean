/-
  What the document's Without comes to: the walk.
-/
import Derived.Test.YtcmalaabggohmaaValRefWo
import Derived.BigQuiet
import Derived.Deep.QuietTactic
import Derived.BigRegion
namespace Go.Proofs.Ytcmalaabggohmaa
open Go.RowKit

theorem own_set5 {w : World} {B b : Nat} {e : TypeId} {sz : Nat} {v : Value} {n : Nat} {xs : List Value} (h : w.ownsRow B e sz v n xs) (hb : b < B) (v0 v1 v2 v3 v4 : Value) :
    (((((w.setCell ⟨b, 0, none⟩ v0).setCell ⟨b, 1, none⟩ v1).setCell ⟨b, 2, none⟩ v2).setCell ⟨b, 3, none⟩ v3).setCell ⟨b, 4, none⟩ v4).ownsRow B e sz v n xs :=
  ownsRow_setCell_below (ownsRow_setCell_below (ownsRow_setCell_below (ownsRow_setCell_below (ownsRow_setCell_below h (a := ⟨b, 0, none⟩) hb v0) (a := ⟨b, 1, none⟩) hb v1) (a := ⟨b, 2, none⟩) hb v2) (a := ⟨b, 3, none⟩) hb v3) (a := ⟨b, 4, none⟩) hb v4
theorem ret_wo {u u' : Value} {a b : Bool} (h : u = u') (hb : a = b) : Ending.returned (.tuple #[u, .bool a]) = .returned (.tuple #[u', .bool b]) := by rw [h, hb]
set_option maxHeartbeats 4000000 in
set_option maxRecDepth 3000 in
theorem refWithout_any (x : JV) (l : List UInt8) (w : World) (u : Value) (hv : HV w u x) (hlen : x.ns.length ≤ 19000) :
    Calls Try.prog 27 #[u, .string (S l)] w fun e w' => ∃ u', e = .returned (.tuple #[u', .bool (x.without l).2]) ∧ HV w' u' (x.without l).1 ∧ Below w.heap.size w w' := by
  obtain ⟨cs, rfl, hc⟩ := hv
  obtain ⟨a, b, ca, cb, rfl, hB, hN, hI⟩ := hc.form
  obtain ⟨m, hm⟩ : ∃ m, x.is.length = m := ⟨_, rfl⟩
  obtain ⟨r, hr⟩ : ∃ m, x.ns.length = m := ⟨_, rfl⟩
  have hr2 : (r : Int) ≤ 19000 := by omega
  rw [hm, hr] at hc
  rw [hm, hr]
  obtain ⟨kI, hk⟩ : ∃ z : Int, z = (x.k : Int) := ⟨_, rfl⟩
  obtain ⟨nI, hn⟩ : ∃ z : Int, z = x.n := ⟨_, rfl⟩
  obtain ⟨t, ht⟩ : ∃ z, z = x.t := ⟨_, rfl⟩
  rw [← hk, ← hn, ← ht] at hc
  rw [← hk, ← hn, ← ht]
  have HM := Lib.hid hm
  have HR := Lib.hid hr
  have HK := Lib.hid hk
  have HNn := Lib.hid hn
  have HT := Lib.hid ht
  have HB := Lib.hid hB
  have HC0 := Lib.hid hc
  clear hm hr hc hB hk hn ht
  obtain ⟨W1, hW1⟩ : ∃ W, W = w.alloc (.cells #[.int .u8 kI, .int .i64 nI, .string (S t), .slice a r ca, .slice b m cb] 25) := ⟨_, rfl⟩
  obtain ⟨W2, hW2⟩ : ∃ W, W = W1.alloc (.cells #[.int .u8 0, .int .i64 0, .string ⟨#[]⟩, .slice none 0 0, .slice none 0 0] 25) := ⟨_, rfl⟩
  have b1 : Below w.heap.size w W1 := by rw [hW1]; exact (Below.refl _ _).alloc (Nat.le_refl _) _
  have b12 : Below W1.heap.size W1 W2 := by rw [hW2]; exact (Below.refl _ _).alloc (Nat.le_refl _) _
  have V1 : VAt w.heap.size W1 (.int .u8 kI) (.int .i64 nI) (.string (S t)) (.slice a r ca) (.slice b m cb) := by rw [hW1]; exact VAt.new ..
  have V2 : VAt W1.heap.size W2 (.int .u8 0) (.int .i64 0) (.string ⟨#[]⟩) (.slice none 0 0) (.slice none 0 0) := by rw [hW2]; exact VAt.new ..
  have V1 := V1.below b12
  have c2 : Hid (Below w.heap.size w W2) := b1.trans (b12.mono b1.size)
  have e1 : W1.heap.size = w.heap.size + 1 := by rw [hW1]; simp
  have e2 : W2.heap.size = w.heap.size + 2 := by rw [hW2]; simp [e1]
  rw [e1] at V2
  have HV1 := Lib.hid V1
  have HV2 := Lib.hid V2
  obtain ⟨⟨p0, p1, p2, p3, p4⟩, pf⟩ := V1.cells
  obtain ⟨⟨q0, q1, q2, q3, q4⟩, qf⟩ := V2.cells
  clear b1 b12 e1 V1 V2
  have HC1 : Hid (∀ w', Below w.heap.size w w' → HV w' (.agg #[.int .u8 kI, .int .i64 nI, .string (S t), .slice a r ca, .slice b m cb]) x) := fun w' h => ⟨_, rfl, HC.below h x _ HC0.out⟩
  by_cases h1 : kI ≠ 5
  · have hb : (kI != 5) = true := bne_iff_ne.2 h1
    have HG : Hid (x.without l = (x, false)) := if_neg (by have := HK.out; omega)
    have b3 : Below w.heap.size w (W1.alloc (.cells #[.int .u8 kI, .int .i64 nI, .string (S t), .slice a r ca, .slice b m cb] 25)) := by rw [hW1]; exact ((Below.refl _ _).alloc (Nat.le_refl _) _).alloc (by simp) _
    have v3 : VAt W1.heap.size (W1.alloc (.cells #[.int .u8 kI, .int .i64 nI, .string (S t), .slice a r ca, .slice b m cb] 25)) (.int .u8 kI) (.int .i64 nI) (.string (S t)) (.slice a r ca) (.slice b m cb) := VAt.new ..
    rw [show W1.heap.size = w.heap.size + 1 by rw [hW1]; simp] at v3
    clear h1
    go_enter Try.func27, Try.ntmps27
    go_wp2_with fail
    rw [← hW1]
    clear hW1 hW2
    refine bodyPost_ret (results_val (fn := Try.f27) (t := 4) (u := 5) rfl _ _ rfl v3 rfl) rfl ?_
    rw [HG.out]
    exact ⟨_, rfl, HC1.out _ b3, b3⟩
  obtain rfl : kI = 5 := Classical.not_not.1 h1
  have HK5 : Hid (x.k = 5) := by have := HK.out; show x.k = 5; omega
  clear h1
  by_cases h2 : r ≠ m
  · have hb : ((r : Int) != (m : Int)) = true := bne_iff_ne.2 (by omega)
    have HG : Hid (x.without l = (x, false)) := if_neg (by rw [HM.out, HR.out]; omega)
    have b3 : Below w.heap.size w (W1.alloc (.cells #[.int .u8 5, .int .i64 nI, .string (S t), .slice a r ca, .slice b m cb] 25)) := by rw [hW1]; exact ((Below.refl _ _).alloc (Nat.le_refl _) _).alloc (by simp) _
    have v3 : VAt W1.heap.size (W1.alloc (.cells #[.int .u8 5, .int .i64 nI, .string (S t), .slice a r ca, .slice b m cb] 25)) (.int .u8 5) (.int .i64 nI) (.string (S t)) (.slice a r ca) (.slice b m cb) := VAt.new ..
    rw [show W1.heap.size = w.heap.size + 1 by rw [hW1]; simp] at v3
    clear h2
    go_enter Try.func27, Try.ntmps27
    go_wp2_with fail
    rw [← hW1]
    clear hW1 hW2
    refine bodyPost_ret (results_val (fn := Try.f27) (t := 4) (u := 5) rfl _ _ rfl v3 rfl) rfl ?_
    rw [HG.out]
    exact ⟨_, rfl, HC1.out _ b3, b3⟩
  obtain rfl : r = m := Classical.not_not.1 h2
  clear h2
  have HI0 : Hid (WoI w (W2.alloc (.cells #[.int .u8 5, .int .i64 nI, .string (S t), .slice none 0 0, .slice none 0 0] 25)) x l nI t 0 (.int .u8 5) (.int .i64 nI) (.string (S t)) (.slice a r ca) (.slice b r cb)) := by
    have hb : Below W2.heap.size W2 (W2.alloc (.cells #[.int .u8 5, .int .i64 nI, .string (S t), .slice none 0 0, .slice none 0 0] 25)) := (Below.refl _ _).alloc (Nat.le_refl _) _
    refine ⟨c2.out.trans (hb.mono c2.out.size), HV1.out.below hb, HV2.out.below hb, by simp [e2], ⟨.slice none 0 0, .slice none 0 0, [], ?_, World.ownsRow_nil _ _ _ 1, World.ownsRow_nil _ _ _ 5, HCS.nil _⟩⟩
    rw [← e2]
    exact VAt.new ..
  have HN0 := Lib.hid hN
  have HI1 : Hid (x.is = [] ∨ ∃ blk off, b = some ⟨blk, off, none⟩ ∧ HI w blk off x.is) := hI
  clear hN hI
  go_enter Try.func27, Try.ntmps27
  go_wp2_with fail
  rw [← hW1, ← hW2]
  clear hW1 hW2 p0 p1 p2 p3 p4 pf q0 q1 q2 q3 q4 qf e2
  go_loopw [7] (fun iv wr => ∃ i : Nat, iv = .int .i64 (i : Int) ∧ i ≤ r ∧ WoI w wr x l nI t i (.int .u8 5) (.int .i64 nI) (.string (S t)) (.slice a r ca) (.slice b r cb)) (fun iv _ => r - (intOf iv).toNat)
  case atStart => exact ⟨0, rfl, Nat.zero_le _, HI0.out⟩
  case round =>
    obtain ⟨i, rfl, hi, hW⟩ := hrel
    have HWo := Lib.hid hW
    obtain ⟨⟨p0, p1, p2, p3, p4⟩, pf⟩ := hW.hv.cells
    obtain ⟨nv, xv, cs, hO, o1, o2, hcs⟩ := hW.own
    by_cases hlt : (i : Int) < (r : Int)
    · obtain ⟨p, hp⟩ : ∃ p, x.ns[i]? = some p := ⟨x.ns[i]'(by have := HR.out; omega), List.getElem?_eq_getElem _⟩
      obtain ⟨y, hy⟩ : ∃ y, x.is[i]? = some y := ⟨x.is[i]'(by have := HM.out; omega), List.getElem?_eq_getElem _⟩
      obtain ⟨bb, oo, rfl, g0⟩ := (HN0.out.below hW.below) i p hp
      obtain ⟨blk, off, rfl, hII⟩ := items_at HI1.out hy
      obtain ⟨c0, c1, c2', c3, c4, f0, f1, f2, f3, f4, hcy⟩ := hII.get hy
      have htl : Hid ((x.ns.take i).length = (x.is.take i).length) := by rw [Hid, List.length_take, List.length_take, HM.out, HR.out]
      have hks : Hid (JV.keep (x.ns.take (i + 1)) (x.is.take (i + 1)) l = if p = l then JV.keep (x.ns.take i) (x.is.take i) l else ((JV.keep (x.ns.take i) (x.is.take i) l).1 ++ [p], (JV.keep (x.ns.take i) (x.is.take i) l).2 ++ [y])) := by
        rw [Hid, JV.take_snoc hy, show x.ns.take (i + 1) = x.ns.take i ++ [p] by rw [List.take_add_one, hp]; rfl]
        exact JV.keep_snoc p y l _ _ htl.out
      have u1 := S_eq p l
      by_cases hpq : p = l
      · subst hpq
        have hs : ((S p).toList == (S p).toList) = true := by simp
        go_wp2_with fail
        go_roundw
        case rel =>
          refine ⟨i + 1, by go_num, by omega, ⟨hW.below, hW.hv, hW.hr, hW.size, ?_⟩⟩
          rw [hks.out, if_pos rfl]
          exact ⟨nv, xv, cs, hO, o1, o2, hcs⟩
        case measure => simp [intOf]; omega
      · have hb : ((S p).toList == (S l).toList) = false := by rw [u1]; exact beq_eq_false_iff_ne.2 hpq
        have HPQ := Lib.hid hpq
        obtain ⟨ya, yb, yca, ycb, hcf, _⟩ := hcy.form
        simp only [List.cons.injEq, and_true] at hcf
        obtain ⟨rfl, rfl, rfl, rfl, rfl⟩ := hcf
        have hone : ∀ u ∈ [Value.int .u8 (y.k : Int), .int .i64 y.n, .string (S y.t), .slice ya y.ns.length yca, .slice yb y.is.length ycb], u.oneCell' = true := fun u hu => by
          simp only [List.mem_cons, List.not_mem_nil, or_false] at hu
          rcases hu with rfl | rfl | rfl | rfl | rfl <;> rfl
        have hra : Hid (∀ w', Below w.heap.size w w' → w'.rangeAt blk (off + i * 5) [Value.int .u8 (y.k : Int), .int .i64 y.n, .string (S y.t), .slice ya y.ns.length yca, .slice yb y.is.length ycb]) := fun w' hb' => by
          have hk : ∀ {o : Nat} {c : Value}, w.cell? ⟨blk, o, none⟩ = some c → w'.cell? ⟨blk, o, none⟩ = some c := fun hg => (hb'.cell (World.block_lt_of_cell? w _ hg)).trans hg
          intro j v hj
          rcases j with _ | _ | _ | _ | _ | j
          all_goals simp only [List.getElem?_cons_zero, List.getElem?_cons_succ, List.getElem?_nil, Option.some.injEq, reduceCtorEq] at hj
          all_goals subst hj
          · exact hk f0
          · exact hk f1
          · exact hk f2
          · exact hk f3
          · exact hk f4
        have HCY := Lib.hid hcy
        have HONE := Lib.hid hone
        have HG0 := Lib.hid g0
        have hl19 : Hid ((JV.keep (x.ns.take i) (x.is.take i) l).1.length = (JV.keep (x.ns.take i) (x.is.take i) l).2.length ∧ (JV.keep (x.ns.take i) (x.is.take i) l).1.length ≤ 19000) := by
          have := JV.keep_len l (x.ns.take i) (x.is.take i)
          refine ⟨this.1, Nat.le_trans this.2 ?_⟩
          rw [List.length_take]
          omega
        have hltn : i < r := by omega
        clear u1 hpq f0 f1 f2 f3 f4 hII hcy hone hp hy
        go_wp2_with fail
        refine region_names 38 6 2 7 (by kernel_rfl) (by kernel_rfl) (by simp) (by omega) (by omega) (by omega) rfl rfl rfl hO hW.hv hltn HG0.out o1 hW.size (by omega) (by have := hl19.out; omega) (fun f nv' w2 g1 g2 g3 => ?_)
        have k2 := g3.below hW.below (by omega) (fun k e => by have := (o1.lt k e).1; omega)
        have V2 := g3.vat hW.hv (by omega) (fun e => by have := (o1.lt _ e.symm).1; omega)
        have R2 := g3.vat hW.hr (by omega) (fun e => by have := (o1.lt _ e.symm).1; omega)
        have o2' := g3.own o2 (by omega) (own_apart o2 o1 (by decide))
        have s2 := Nat.le_trans hW.size g3.size
        rw [putR_lit]
        simp only [putL, pApp, Nat.reduceAdd, Nat.reduceLeDiff, decide_true, decide_false, Bool.and_true, Bool.and_false, cond_true, cond_false, Nat.zero_add, Nat.le_refl]
        go_wp2_with fail
        refine region_items 48 6 2 7 (by kernel_rfl) (by kernel_rfl) (by simp) (by omega) (by omega) (by omega) rfl rfl rfl g1 V2 hltn (hra.out w2 k2) HONE.out o2' s2 (by omega) (by have := hl19.out; omega) (fun f' xv' w3 g4 g5 g6 => ?_)
        have k3 := g6.below k2 (by omega) (fun k e => by have := (o2.lt k e).1; omega)
        have V3 := g6.vat V2 (by omega) (fun e => by have := (o2.lt _ e.symm).1; omega)
        have R3 := g6.vat R2 (by omega) (fun e => by have := (o2.lt _ e.symm).1; omega)
        have o1' := g6.own g2 (by omega) (own_apart g2 o2' (by decide))
        have s3 := Nat.le_trans s2 g6.size
        have HI3 : Hid (WoI w w3 x l nI t (i + 1) (.int .u8 5) (.int .i64 nI) (.string (S t)) (.slice (some ⟨bb, oo, none⟩) r ca) (.slice (some ⟨blk, off, none⟩) r cb)) := by
          refine ⟨k3, V3, R3, s3, ?_⟩
          rw [hks.out, if_neg HPQ.out]
          refine ⟨nv', xv', _, g4, ?_, ?_, HCS.snoc HCY.out hcs⟩
          · rw [List.length_append, List.length_singleton, NC_snoc]
            exact o1'
          · rw [List.length_append, List.length_singleton]
            exact g5
        clear g1 g2 g3 g4 g5 g6 k2 k3 V2 V3 R2 R3 o1' o2' s2 s3 hO o1 o2 hcs hW p0 p1 p2 p3 p4 pf
        rw [putR_lit]
        simp only [putL, pApp, Nat.reduceAdd, Nat.reduceLeDiff, decide_true, decide_false, Bool.and_true, Bool.and_false, cond_true, cond_false, Nat.zero_add, Nat.le_refl]
        go_wp2_with fail
        go_roundw
        case rel => exact ⟨i + 1, by go_num, by omega, HI3.out⟩
        case measure => simp [intOf]; omega
    · obtain rfl : i = r := by omega
      have hkl := JV.keep_len l x.ns x.is
      rw [show x.ns.take i = x.ns by rw [← HR.out]; exact List.take_length, show x.is.take i = x.is by rw [← HM.out]; exact List.take_length] at o1 o2 hcs
      obtain ⟨na, nc, rfl, _⟩ := NS.of_own o1
      obtain ⟨xa, xc, rfl, _⟩ := HI.of_own o2 (HCS.below hW.below _ _ hcs)
      have HO1 := Lib.hid o1
      have HO2 := Lib.hid o2
      have HCS0 := Lib.hid hcs
      have HG : Hid (x.without l = (.mk 5 x.n x.t (JV.keep x.ns x.is l).1 (JV.keep x.ns x.is l).2, decide ((JV.keep x.ns x.is l).1.length < x.ns.length))) := if_pos ⟨HK5.out, by rw [HM.out, HR.out]⟩
      have HJ : Hid (JB 5 x.n x.t (JV.keep x.ns x.is l).1 (JV.keep x.ns x.is l).2.length) := by
        obtain ⟨j1, j2, j3, j4, j5, j6⟩ := HB.out
        exact ⟨by omega, j2, j3, Nat.le_trans hkl.2 j4, by rw [← hkl.1]; exact Nat.le_trans hkl.2 j4, fun z hz => j6 z (JV.keep_mem l _ _ z hz)⟩
      obtain ⟨K, hK⟩ : ∃ K, (JV.keep x.ns x.is l).1.length = K := ⟨_, rfl⟩
      obtain ⟨M, hM⟩ : ∃ K, (JV.keep x.ns x.is l).2.length = K := ⟨_, rfl⟩
      have HKK := Lib.hid hK
      have HMM := Lib.hid hM
      rw [hK, hM] at hO
      have hW2 := Lib.hid hW
      obtain ⟨⟨q0, q1, q2, q3, q4⟩, qf⟩ := hW.hr.cells
      obtain ⟨⟨y0, y1, y2, y3, y4⟩, yf⟩ := hO.cells
      clear hW hO o1 o2 hcs hkl hK hM
      go_wp2_with fail
      go_region
      go_wp2_with fail
      have HB5 := below_val (b := w.heap.size + 1) hW2.out.below (by omega) (.int .u8 5) (.int .i64 nI) (.string (S t)) (.slice na K nc) (.slice xa M xc)
      refine bodyPost_ret (results_val (fn := Try.f27) (t := 4) (u := 5) rfl _ _ rfl (hW2.out.hr.set5 (.int .u8 5) (.int .i64 nI) (.string (S t)) (.slice na K nc) (.slice xa M xc)) rfl) rfl ?_
      have P1 := own_set5 HO1.out (b := w.heap.size + 1) (by omega) (.int .u8 5) (.int .i64 nI) (.string (S t)) (.slice na K nc) (.slice xa M xc)
      have P2 := own_set5 HO2.out (b := w.heap.size + 1) (by omega) (.int .u8 5) (.int .i64 nI) (.string (S t)) (.slice na K nc) (.slice xa M xc)
      obtain ⟨na', nc', e1, hNS⟩ := NS.of_own P1
      obtain ⟨xa', xc', e2, hIS⟩ := HI.of_own P2 (HCS.below HB5 _ _ HCS0.out)
      simp only [Value.slice.injEq, true_and] at e1 e2
      obtain ⟨rfl, rfl⟩ := e1
      obtain ⟨rfl, rfl⟩ := e2
      rw [HG.out]
      refine ⟨_, ret_wo rfl (by rw [HKK.out, HR.out]), ?_, Below.drew HB5⟩
      rw [HNn.out, HT.out, ← HKK.out, ← HMM.out] at *
      exact (HV.of _ 5 x.n x.t _ _ _ _ _ _ HJ.out hNS hIS).below (below_drew _)
end Go.Proofs.Ytcmalaabggohmaa
