/-
  What the program's Without comes to.
-/
import Derived.Test.YtcmalaabggohmaaValGet
namespace Go.Proofs.Ytcmalaabggohmaa
open Go.RowKit

set_option maxHeartbeats 1000000 in
theorem region_names2 {ops : Array Oper} {Q : Exit → Act → World → Prop} {A : Act} {id : Nat} {w1 : World} (s ot vt it : Nat)
    (hkey : ops.toList.map keyOf = (TApp s ot vt it 3 22 9 25).map fun x => (x.1, x.2.1, true, x.2.2)) (hlow : (List.range ops.size).all (fun i => match ops[i]? with | some o => o.after.all (fun e => !Region.binds .any e || decide (e.on < i)) | none => true) = true)
    (hsz : s + 9 < A.tmps.size) (hot : ot < s) (hvt : vt < s) (hit : it < s)
    {B ob vb : Nat} {a0 a1 a2 v a4 v0 v1 v2 v4 : Value} {nb no r c i n : Nat} {p : List UInt8} {xs : List Value}
    (eo : A.eval (.tmp ot) = .pointer (some ⟨ob, 0, none⟩)) (ev : A.eval (.tmp vt) = .pointer (some ⟨vb, 0, none⟩)) (ei : A.eval (.tmp it) = .int .i64 (i : Int))
    (hO : VAt ob w1 a0 a1 a2 v a4) (hV : VAt vb w1 v0 v1 v2 (.slice (some ⟨nb, no, none⟩) r c) v4) (hi : i < r) (hp : w1.cell? ⟨nb, no + i, none⟩ = some (.string (S p)))
    (hown : w1.ownsRow B 9 1 v n xs) (hB : B ≤ w1.heap.size) (hob : ob < B) (hn : n + 1 ≤ 90000)
    (fin : ∀ (f : Nat → Value) v' w', VAt ob w' a0 a1 a2 v' a4 → w'.ownsRow B 9 1 v' (n + 1) (xs ++ [.string (S p)]) → Kb ob v.ownBlock w1 w' → (v'.ownBlock = v.ownBlock ∨ v'.ownBlock = some (w1.heap.size + 1)) → Q .normal (putR A (pApp s) f) w') :
    (Code.region id ops true).wp Try.prog Q A w1 := by
  obtain ⟨i0, hi0, hz0, hz1, hz2⟩ := info_parts info_name
  have b1 := below_drew w1
  have b2 : Below w1.heap.size w1 (w1.drew.alloc (.cells #[.string (S p)] 9)) := b1.alloc (Nat.le_refl _) _
  have hlt : ob < w1.heap.size := (Array.getElem?_eq_some_iff.1 hO).1
  have BE : ∀ w, w = w1.drew ∨ w = w1.drew.alloc (.cells #[.string (S p)] 9) → Below w1.heap.size w1 w := fun w h => by
    rcases h with rfl | rfl
    · exact b1
    · exact b2
  have hown2 : (w1.drew.alloc (.cells #[.string (S p)] 9)).ownsRow B 9 1 v n xs := (World.ownsRow.drew hown).alloc _
  have hrow : ∀ k, v.ownBlock = some k → B ≤ k := fun k e => (hown.lt k e).1
  refine wp_region_app s ot vt it 3 22 9 25 (by kernel_rfl) hkey hlow hsz hot hvt hit
    (.pointer (some ⟨ob, 0, none⟩)) (.pointer (some ⟨vb, 0, none⟩)) (.pointer (some ⟨ob, 3, none⟩)) v (.pointer (some ⟨vb, 3, none⟩)) (.slice (some ⟨nb, no, none⟩) r c) (.int .i64 (i : Int)) (.pointer (some ⟨nb, no + i, none⟩)) (.string (S p)) (.slice (some ⟨w1.heap.size, 0, none⟩) 1 1) eo ev ei
    (w1.drew.alloc (.cells #[.string (S p)] 9)) (fld3 ob) (fld3 vb) (fun w h => ?_) (fun w h => ?_) (fun o a K w _ ho h1 h2 hk => ?_) (fun w h => ?_) (fun o a K ho h1 hk => ?_)
    (fun v' w' => w'.ownsRow B 9 1 v' (n + 1) (xs ++ [.string (S p)]) ∧ (w1.drew.alloc (.cells #[.string (S p)] 9)).grownBy w' v.ownBlock ∧ (v'.ownBlock = v.ownBlock ∨ v'.ownBlock = some (w1.heap.size + 1)))
    (fun v' w' => VAt ob w' a0 a1 a2 v' a4 ∧ w'.ownsRow B 9 1 v' (n + 1) (xs ++ [.string (S p)]) ∧ Kb ob v.ownBlock w1 w' ∧ (v'.ownBlock = v.ownBlock ∨ v'.ownBlock = some (w1.heap.size + 1)))
    (fun o a K ho h1 h2 hk => ?_) (fun v' w' ⟨h1, h2, h9⟩ => ?_) (fun f v' w' ⟨h1, h2, h3, h4⟩ => fin f v' w' h1 h2 h3 h4)
  · exact ld_one agg_names w ((hO.below (BE w h)).cells.1.2.2.2.1)
  · exact ld_one agg_names w ((hV.below (BE w h)).cells.1.2.2.2.1)
  · exact wp_val (by simp [execOp, ho, h1, h2, ix_names nb no r c i w hi]) hk
  · exact ld_one agg_str w (((BE w h).cell (World.block_lt_of_cell? w1 _ hp)).trans hp)
  · refine wp_buildSlice 22 9 1 _ ho #[.string (S p)] i0 _ Try.underlying22 hi0 hz0 (by rw [hz1]; decide) (by rw [hz1]; decide) ?_ hk
    rw [hz1, show (#[(0, Operand.tmp (s + 6))].map fun x : Nat × Operand => (x.1, a.eval x.2)).toList = [(0, Value.string (S p))] by simp [h1]]
    exact fill_str (S p)
  · obtain ⟨v2, w', hr, g1, g2, _, g4⟩ := run_append_own_at (P := Try.prog) (w1.drew.alloc (.cells #[.string (S p)] 9)) B 22 o.type 9 i0 (.string ⟨#[]⟩) 1 16 Try.underlying22 hi0 hz0 hz1 hz2 rfl (by decide) v n xs hown2 ⟨w1.heap.size, 0, none⟩ 1 1 [.string (S p)] rfl
      (World.news_of_block (cs := #[.string (S p)]) (t := 9) (fr := (0, 0)) (heap_alloc_new w1.drew _)) (by simp [Value.oneCell']) (by unfold maxLen; omega) (by omega) (by simp; omega)
    exact wp_val (v := v2) (w' := w') (by simp [execOp, ho, resolve, invoke, builtin, h1, h2, hr]) (hk v2 w' ⟨g1, g2, by simpa using g4⟩)
  · have hO' : VAt ob w' a0 a1 a2 v a4 := (h2.block ob (Nat.lt_of_lt_of_le hlt b2.size) (fun e => by have := hrow ob e.symm; omega)).trans (hO.below b2)
    obtain ⟨⟨_, _, _, q3, _⟩, qf⟩ := hO'.cells
    obtain ⟨pp, ll, kk, rfl⟩ : ∃ pp ll kk, v' = .slice pp ll kk := by
      rcases h1.2 with ⟨rfl, _⟩ | ⟨g, cap, _, rfl, _⟩
      · exact ⟨_, _, _, rfl⟩
      · exact ⟨_, _, _, rfl⟩
    refine ⟨_, st_slice (by kernel_rfl) w' q3 (qf 3), hO'.set3 _, ownsRow_setCell_below h1 hob _, ?_, h9⟩
    exact ⟨h2.os.trans b2.os, h2.tape.trans b2.tape, h2.output.trans b2.output, Nat.le_trans b2.size (by have := h2.size; simpa using this), fun k hk hne hg => by
      rw [← b2.block k hk, ← h2.block k (Nat.lt_of_lt_of_le hk b2.size) hg]
      exact heap_setCell_other w' ⟨ob, 3, none⟩ k _ hne⟩
/-- a name more -/
theorem CpI.name {B ob : Nat} {w wr w' : World} {k0 n0 t0 v0 v1 v2 v3 v4 : Value} {ns : List (List UInt8)} {is : List JV} {p : List UInt8} {pa : Option Addr} {la ka : Nat} {v' xv : Value} {cs : List Value}
    (h1 : Below w.heap.size w wr) (h2 : VAt w.heap.size wr v0 v1 v2 v3 v4) (h3 : VAt (w.heap.size + 1) wr (.int .u8 0) (.int .i64 0) (.string ⟨#[]⟩) (.slice none 0 0) (.slice none 0 0)) (h4 : B ≤ wr.heap.size) (h5 : w.heap.size + 1 < ob) (h6 : ob < B)
    (g2 : wr.ownsRow B 9 1 (.slice pa la ka) ns.length (NC ns)) (g3 : wr.ownsRow B 25 5 xv is.length cs) (g4 : HCSp (fun b => B ≤ b ∧ some b ≠ (Value.slice pa la ka).ownBlock ∧ some b ≠ xv.ownBlock) wr cs is)
    (f1 : VAt ob w' k0 n0 t0 v' xv) (f2 : w'.ownsRow B 9 1 v' (ns.length + 1) (NC ns ++ [.string (S p)])) (f4 : Kb ob (Value.slice pa la ka).ownBlock wr w')
    (f5 : v'.ownBlock = (Value.slice pa la ka).ownBlock ∨ v'.ownBlock = some (wr.heap.size + 1)) : CpI B ob w w' k0 n0 t0 v0 v1 v2 v3 v4 (ns ++ [p]) is := by
  have hlt := fun k e => g2.lt k e
  obtain ⟨pa', la', ka', rfl⟩ : ∃ pp ll kk, v' = .slice pp ll kk := by
    rcases f2.2 with ⟨rfl, _⟩ | ⟨g, cap, _, rfl, _⟩
    · exact ⟨_, _, _, rfl⟩
    · exact ⟨_, _, _, rfl⟩
  refine ⟨f4.below h1 (by omega) (fun k e => by have := (hlt k e).1; omega), f4.vat h2 (by omega) (fun e => by have := (hlt _ e.symm).1; omega), f4.vat h3 (by omega) (fun e => by have := (hlt _ e.symm).1; omega), Nat.le_trans h4 f4.size, h5, h6, pa', la', ka', xv, _, f1, ?_,
    f4.own g3 h6 (own_apart g3 g2 (by decide)), HCSp.stay (fun b hb hl => ⟨⟨hb.1, ?_, hb.2.2⟩, f4.block b hl (by have := hb.1; omega) hb.2.1⟩) _ _ g4⟩
  · rw [List.length_append, List.length_singleton, NC_snoc]
    exact f2
  · rcases f5 with e | e
    · rw [e]; exact hb.2.1
    · rw [e]
      intro e2
      simp only [Option.some.injEq] at e2
      omega
set_option maxHeartbeats 4000000 in
set_option maxRecDepth 3000 in
theorem without_any (x : JV) (l : List UInt8) (hwt : x.wt ≤ 90000) (w : World) (u : Value) (hv : HV w u x) :
    Calls Try.prog 26 #[u, .string (S l)] w fun e w' => (∃ u', e = .returned (.tuple #[u', .bool (x.without l).2]) ∧ HO w.heap.size w' u' (x.without l).1) ∧ Below w.heap.size w w' := by
  have hwe := x.wt_eq
  have hnl := JV.wn_len x.ns
  have hil := JV.len_le x.is
  have hic := JV.cnts_wt x.is
  have hvu := hv
  obtain ⟨cs, rfl, hc⟩ := hv
  obtain ⟨a, b, ca, cb, rfl, hB, hN, hI⟩ := hc.form
  have hv1 : ∀ w', Below w.heap.size w w' → HV w' (.agg #[.int .u8 (x.k : Int), .int .i64 x.n, .string (S x.t), .slice a x.ns.length ca, .slice b x.is.length cb]) x := fun w' h => ⟨_, rfl, HC.below h x _ hc⟩
  obtain ⟨q, hq⟩ : ∃ q, (x.ns.length == x.is.length) = q := ⟨_, rfl⟩
  have cC := fun w' h => copy_any _ x (Nat.le_refl _) hwt w' _ (hv1 w' h)
  have cQ := fun w' h => isPaired_any x w' _ (hv1 w' h) hq
  have cB := fun w' h => bare_any x w' _ (hv1 w' h)
  have hr0 : x.ns.length ≤ 45000 := by omega
  obtain ⟨m, hm⟩ : ∃ m, x.is.length = m := ⟨_, rfl⟩
  obtain ⟨r, hr⟩ : ∃ m, x.ns.length = m := ⟨_, rfl⟩
  have hm2 : (m : Int) ≤ 22500 := by omega
  have hr2 : (r : Int) ≤ 45000 := by omega
  rw [hm, hr] at cC cQ cB
  rw [hm, hr] at hq
  rw [hm, hr]
  obtain ⟨kI, hk⟩ : ∃ z : Int, z = (x.k : Int) := ⟨_, rfl⟩
  obtain ⟨nI, hn⟩ : ∃ z : Int, z = x.n := ⟨_, rfl⟩
  obtain ⟨t, ht⟩ : ∃ z, z = x.t := ⟨_, rfl⟩
  rw [← hk, ← hn, ← ht] at cC cQ cB
  rw [← hk, ← hn, ← ht]
  have HM := Lib.hid hm
  have HR := Lib.hid hr
  have HK := Lib.hid hk
  have HNn := Lib.hid hn
  have HT := Lib.hid ht
  have HB := Lib.hid hB
  have HN0 := Lib.hid hN
  have HI1 := Lib.hid hI
  have CC := Lib.hid cC
  have CB := Lib.hid cB
  have HWT : Hid (∀ (i : Nat) y, x.is[i]? = some y → y.wt ≤ 90000) := fun i y hy => by
    have := JV.wts_get hy
    omega
  clear hwe hnl hil hic hvu hv1 hm hr hc hB hk hn ht hN hI cC cB
  obtain ⟨W1, hW1⟩ : ∃ W, W = w.alloc (.cells #[.int .u8 kI, .int .i64 nI, .string (S t), .slice a r ca, .slice b m cb] 25) := ⟨_, rfl⟩
  obtain ⟨W2, hW2⟩ : ∃ W, W = W1.alloc (.cells #[.int .u8 0, .int .i64 0, .string ⟨#[]⟩, .slice none 0 0, .slice none 0 0] 25) := ⟨_, rfl⟩
  have b1 : Below w.heap.size w W1 := by rw [hW1]; exact (Below.refl _ _).alloc (Nat.le_refl _) _
  have b12 : Below W1.heap.size W1 W2 := by rw [hW2]; exact (Below.refl _ _).alloc (Nat.le_refl _) _
  have V1 : VAt w.heap.size W1 (.int .u8 kI) (.int .i64 nI) (.string (S t)) (.slice a r ca) (.slice b m cb) := by rw [hW1]; exact VAt.new ..
  have V2 : VAt W1.heap.size W2 (.int .u8 0) (.int .i64 0) (.string ⟨#[]⟩) (.slice none 0 0) (.slice none 0 0) := by rw [hW2]; exact VAt.new ..
  have V1 := V1.below b12
  have c2 := b1.trans (b12.mono b1.size)
  have e1 : W1.heap.size = w.heap.size + 1 := by rw [hW1]; simp
  have e2 : W2.heap.size = w.heap.size + 2 := by rw [hW2]; simp [e1]
  rw [e1] at V2
  have CQ := cQ W2 c2
  have C2 := Lib.hid c2
  have HE2 := Lib.hid e2
  have HV1 := Lib.hid V1
  have HV2 := Lib.hid V2
  obtain ⟨⟨p0, p1, p2, p3, p4⟩, pf⟩ := V1.cells
  obtain ⟨⟨q0, q1, q2, q3, q4⟩, qf⟩ := V2.cells
  clear b1 b12 e1 e2 V1 V2 cQ c2 pf
  -- it is none: a copy of it
  have FIN : Hid (∀ w3 w4 u, Below w.heap.size w w3 → w.heap.size + 2 ≤ w3.heap.size → HO w3.heap.size w4 u x → Below w3.heap.size w3 w4 → ∀ v0 v1 v2 v3 v4,
      HO w.heap.size (((((w4.setCell ⟨w.heap.size + 1, 0, none⟩ v0).setCell ⟨w.heap.size + 1, 1, none⟩ v1).setCell ⟨w.heap.size + 1, 2, none⟩ v2).setCell ⟨w.heap.size + 1, 3, none⟩ v3).setCell ⟨w.heap.size + 1, 4, none⟩ v4) u x ∧
      Below w.heap.size w (((((w4.setCell ⟨w.heap.size + 1, 0, none⟩ v0).setCell ⟨w.heap.size + 1, 1, none⟩ v1).setCell ⟨w.heap.size + 1, 2, none⟩ v2).setCell ⟨w.heap.size + 1, 3, none⟩ v3).setCell ⟨w.heap.size + 1, 4, none⟩ v4)) :=
    fun w3 w4 u h1 h2 h3 h4 v0 v1 v2 v3 v4 => ⟨(HO.set5 h3 (b := w.heap.size + 1) (by omega) _ _ _ _ _).mono (by omega), below_val (h1.trans (h4.mono h1.size)) (by omega) _ _ _ _ _⟩
  by_cases h1 : kI ≠ 5
  · have hb : (kI != 5) = true := bne_iff_ne.2 h1
    have HG : Hid (x.without l = (x, false)) := if_neg (by have := HK.out; omega)
    clear h1
    go_enter Try.func26, Try.ntmps26
    go_wp2_with fail
    rw [← hW1, ← hW2]
    clear hW1 hW2
    go_wp2_with fail
    refine (CC.out W2 C2.out).mono ?_; rintro e w4 ⟨⟨u, rfl, hO⟩, b4⟩
    have HV2 := Lib.hid (HV2.out.below b4)
    obtain ⟨za, zb, zca, zcb, rfl⟩ := hO.five
    have HF := Lib.hid (FIN.out W2 w4 _ C2.out (by rw [HE2.out]; exact Nat.le_refl _) hO b4)
    clear p0 p1 p2 p3 p4 q0 q1 q2 q3 q4 qf hO
    obtain ⟨⟨q0, q1, q2, q3, q4⟩, qf⟩ := HV2.out.cells
    go_wp2_with fail
    refine bodyPost_ret (results_val (fn := Try.f26) (t := 4) (u := 5) rfl _ _ rfl (HV2.out.set5 _ _ _ _ _) rfl) rfl ?_
    rw [HG.out]
    exact ⟨⟨_, rfl, (HF.out _ _ _ _ _).1⟩, (HF.out _ _ _ _ _).2⟩
  obtain rfl : kI = 5 := Classical.not_not.1 h1
  have HK5 : Hid (x.k = 5) := by have := HK.out; show x.k = 5; omega
  clear h1
  cases q with
  | false =>
    have HG : Hid (x.without l = (x, false)) := if_neg (by rw [HM.out, HR.out]; rw [beq_eq_false_iff_ne] at hq; omega)
    clear hq
    go_enter Try.func26, Try.ntmps26
    go_wp2_with fail
    rw [← hW1, ← hW2]
    clear hW1 hW2
    go_wp2_with fail
    refine CQ.mono ?_; rintro e w3 ⟨rfl, b3⟩
    have c3 := C2.out.trans (b3.mono C2.out.size)
    have HV1 := Lib.hid (HV1.out.below b3)
    have HV2 := Lib.hid (HV2.out.below b3)
    clear p0 p1 p2 p3 p4
    obtain ⟨⟨p0, p1, p2, p3, p4⟩, _⟩ := HV1.out.cells
    go_wp2_with fail
    refine (CC.out w3 c3).mono ?_; rintro e w4 ⟨⟨u, rfl, hO⟩, b4⟩
    have HV2 := Lib.hid (HV2.out.below b4)
    obtain ⟨za, zb, zca, zcb, rfl⟩ := hO.five
    have HF := Lib.hid (FIN.out w3 w4 _ c3 (by rw [← HE2.out]; exact b3.size) hO b4)
    clear p0 p1 p2 p3 p4 q0 q1 q2 q3 q4 qf hO
    obtain ⟨⟨q0, q1, q2, q3, q4⟩, qf⟩ := HV2.out.cells
    go_wp2_with fail
    refine bodyPost_ret (results_val (fn := Try.f26) (t := 4) (u := 5) rfl _ _ rfl (HV2.out.set5 _ _ _ _ _) rfl) rfl ?_
    rw [HG.out]
    exact ⟨⟨_, rfl, (HF.out _ _ _ _ _).1⟩, (HF.out _ _ _ _ _).2⟩
  | true =>
  obtain rfl : r = m := beq_iff_eq.1 hq
  clear hq FIN
  go_enter Try.func26, Try.ntmps26
  go_wp2_with fail
  rw [← hW1, ← hW2]
  clear hW1 hW2
  go_wp2_with fail
  refine CQ.mono ?_; rintro e w3 ⟨rfl, b3⟩
  have c3 := C2.out.trans (b3.mono C2.out.size)
  have HV1 := Lib.hid (HV1.out.below b3)
  have HV2 := Lib.hid (HV2.out.below b3)
  have hs3 : w.heap.size + 2 ≤ w3.heap.size := by rw [← HE2.out]; exact b3.size
  clear p0 p1 p2 p3 p4 q0 q1 q2 q3 q4 qf
  obtain ⟨⟨p0, p1, p2, p3, p4⟩, _⟩ := HV1.out.cells
  go_wp2_with fail
  refine (CB.out w3 c3).mono ?_; rintro e w4 ⟨rfl, b4⟩
  have c4 := c3.trans (b4.mono c3.size)
  have hs4 : w.heap.size + 2 ≤ w4.heap.size := Nat.le_trans hs3 b4.size
  have V1 := HV1.out.below b4
  have V2 := HV2.out.below b4
  obtain ⟨ob, hob⟩ : ∃ ob, ob = w4.heap.size := ⟨_, rfl⟩
  obtain ⟨W5, hW5⟩ : ∃ W, W = w4.alloc (.cells #[.int .u8 5, .int .i64 nI, .string (S t), .slice none 0 0, .slice none 0 0] 25) := ⟨_, rfl⟩
  have b45 : Below w4.heap.size w4 W5 := by rw [hW5]; exact (Below.refl _ _).alloc (Nat.le_refl _) _
  have V3 : VAt w4.heap.size W5 (.int .u8 5) (.int .i64 nI) (.string (S t)) (.slice none 0 0) (.slice none 0 0) := by rw [hW5]; exact VAt.new ..
  have e5 : W5.heap.size = w4.heap.size + 1 := by rw [hW5]; simp
  rw [← hob] at V3
  have V1 := V1.below b45
  have HC0 : Hid (CpI (ob + 1) ob w W5 (.int .u8 5) (.int .i64 nI) (.string (S t)) (.int .u8 5) (.int .i64 nI) (.string (S t)) (.slice a r ca) (.slice b r cb) (JV.keep (x.ns.take 0) (x.is.take 0) l).1 (JV.keep (x.ns.take 0) (x.is.take 0) l).2) :=
    ⟨c4.trans (b45.mono c4.size), V1, V2.below b45, by omega, by omega, by omega, none, 0, 0, .slice none 0 0, [], V3, World.ownsRow_nil _ _ _ _, World.ownsRow_nil _ _ _ _, rfl⟩
  clear p0 p1 p2 p3 p4
  obtain ⟨⟨p0, p1, p2, p3, p4⟩, _⟩ := V1.cells
  rw [hW5] at p4
  clear p0 p1 p2 p3 V1 V2 V3 e5 b45 CQ
  go_wp2_with fail
  rw [← hW5, ← hob]
  clear hW5 hob p4 hs3 hs4 b3 b4 c3 c4
  go_loopw [24] (fun iv wr => ∃ i : Nat, iv = .int .i64 (i : Int) ∧ i ≤ r ∧ CpI (ob + 1) ob w wr (.int .u8 5) (.int .i64 nI) (.string (S t)) (.int .u8 5) (.int .i64 nI) (.string (S t)) (.slice a r ca) (.slice b r cb) (JV.keep (x.ns.take i) (x.is.take i) l).1 (JV.keep (x.ns.take i) (x.is.take i) l).2) (fun iv _ => r - (intOf iv).toNat)
  case atStart => exact ⟨0, rfl, Nat.zero_le _, HC0.out⟩
  case round =>
    obtain ⟨i, rfl, hi, hW⟩ := hrel
    by_cases hlt : (i : Int) < (r : Int)
    · obtain ⟨p, hp⟩ : ∃ p, x.ns[i]? = some p := ⟨x.ns[i]'(by have := HR.out; omega), List.getElem?_eq_getElem _⟩
      obtain ⟨y, hy⟩ : ∃ y, x.is[i]? = some y := ⟨x.is[i]'(by have := HM.out; omega), List.getElem?_eq_getElem _⟩
      obtain ⟨bb, oo, rfl, g0⟩ := HN0.out i p hp
      obtain ⟨blk, off, rfl, hII⟩ := items_at HI1.out hy
      obtain ⟨c0, c1, c2', c3', c4', f0, f1, f2, f3, f4, hcy⟩ := hII.get hy
      obtain ⟨ya, yb, yca, ycb, rfl, rfl, rfl, rfl, rfl⟩ := five hcy
      have hk : ∀ {b o : Nat} {c : Value}, w.cell? ⟨b, o, none⟩ = some c → wr.cell? ⟨b, o, none⟩ = some c := fun hg => (hW.below.cell (World.block_lt_of_cell? w _ hg)).trans hg
      replace f0 := hk f0
      replace f1 := hk f1
      replace f2 := hk f2
      replace f3 := hk f3
      replace f4 := hk f4
      clear hk
      have hyw := HWT.out i y hy
      have htl : (x.ns.take i).length = (x.is.take i).length := by rw [List.length_take, List.length_take, HM.out, HR.out]
      have hks : Hid (JV.keep (x.ns.take (i + 1)) (x.is.take (i + 1)) l = if p = l then JV.keep (x.ns.take i) (x.is.take i) l else ((JV.keep (x.ns.take i) (x.is.take i) l).1 ++ [p], (JV.keep (x.ns.take i) (x.is.take i) l).2 ++ [y])) := by
        rw [Hid, JV.take_snoc hy, show x.ns.take (i + 1) = x.ns.take i ++ [p] by rw [List.take_add_one, hp]; rfl]
        exact JV.keep_snoc p y l _ _ htl
      have hl19 : Hid ((JV.keep (x.ns.take i) (x.is.take i) l).1.length = (JV.keep (x.ns.take i) (x.is.take i) l).2.length ∧ (JV.keep (x.ns.take i) (x.is.take i) l).1.length ≤ 45000) := by
        have := JV.keep_len l (x.ns.take i) (x.is.take i)
        refine ⟨this.1, Nat.le_trans this.2 ?_⟩
        rw [List.length_take]
        have := HR.out
        omega
      have b9 : Below wr.heap.size wr (wr.alloc (.cells #[.int .u8 (y.k : Int), .int .i64 y.n, .string (S y.t), .slice ya y.ns.length yca, .slice yb y.is.length ycb] 25)) := (Below.refl _ _).alloc (Nat.le_refl _) _
      have X9 := VAt.new wr (.int .u8 (y.k : Int)) (.int .i64 y.n) (.string (S y.t)) (.slice ya y.ns.length yca) (.slice yb y.is.length ycb)
      have hW9 := hW.mem b9
      have hsz9 : wr.heap.size < (wr.alloc (.cells #[.int .u8 (y.k : Int), .int .i64 y.n, .string (S y.t), .slice ya y.ns.length yca, .slice yb y.is.length ycb] 25)).heap.size := by simp
      have hobr : ob < wr.heap.size := Nat.lt_of_lt_of_le hW.at2 hW.size
      have G0 : (wr.alloc (.cells #[.int .u8 (y.k : Int), .int .i64 y.n, .string (S y.t), .slice ya y.ns.length yca, .slice yb y.is.length ycb] 25)).cell? ⟨bb, oo + i, none⟩ = some (.string (S p)) := (hW9.below.cell (World.block_lt_of_cell? w _ g0)).trans g0
      obtain ⟨⟨z0, z1, z2, z3, z4⟩, _⟩ := hW9.hv.cells
      have u1 := S_toList p
      have u2 := S_toList l
      have HW9 := Lib.hid hW9
      have X9h := Lib.hid X9
      have HCY := Lib.hid hcy
      have HRng : Hid (wr.heap.size < (wr.alloc (.cells #[.int .u8 (y.k : Int), .int .i64 y.n, .string (S y.t), .slice ya y.ns.length yca, .slice yb y.is.length ycb] 25)).heap.size ∧ ob < wr.heap.size) := ⟨hsz9, hobr⟩
      have HG0 := Lib.hid G0
      clear hW hW9 X9 b9 hcy hII hy hp htl g0 hsz9 hobr z0 z1 z2 z4
      by_cases hpq : p = l
      · subst hpq
        go_wp2_with fail
        go_roundw
        case rel =>
          refine ⟨i + 1, by go_num, by omega, ?_⟩
          rw [hks.out, if_pos rfl]
          exact HW9.out
        case measure => simp [intOf]; omega
      · have hb : ((S p).toList == (S l).toList) = false := by rw [u1, u2]; exact beq_eq_false_iff_ne.2 hpq
        have hb3 : (p == l) = false := beq_eq_false_iff_ne.2 hpq
        have HPQ := Lib.hid hpq
        have hltn : i < r := by omega
        clear hpq
        go_wp2_with fail
        clear f0 f1 f2 f3 f4 z3 G0
        obtain ⟨W9, hW9⟩ : ∃ W, W = wr.alloc (.cells #[.int .u8 (y.k : Int), .int .i64 y.n, .string (S y.t), .slice ya y.ns.length yca, .slice yb y.is.length ycb] 25) := ⟨_, rfl⟩
        rw [← hW9] at HW9 X9h HRng HG0
        rw [← hW9]
        clear hW9
        obtain ⟨xb, hxb⟩ : ∃ xb, xb = wr.heap.size := ⟨_, rfl⟩
        rw [← hxb] at X9h HRng
        rw [← hxb]
        clear hxb
        obtain ⟨h1, h2, h3, h4, h5, h6, pa, la, ka, xv, cs, r1, r2, r3, r4⟩ := HW9.out
        refine region_names2 36 6 2 7 (by kernel_rfl) (by kernel_rfl) (by simp) (by omega) (by omega) (by omega) rfl rfl rfl r1 h2 hltn HG0.out r2 h4 h6 (by have := hl19.out; omega) (fun f nv' w5 s1 s2 s3 s4 => ?_)
        have HW5 := Lib.hid (CpI.name (p := p) h1 h2 h3 h4 h5 h6 r2 r3 r4 s1 s2 s3 s4)
        have X5 : VAt xb w5 _ _ _ _ _ := s3.vat X9h.out (by have := HRng.out; omega) (fun e => by
          obtain ⟨c, fz, hh⟩ := Lib.ownsRow_kind r2 _ e.symm
          have h9 := X9h.out
          unfold VAt at h9
          rw [hh] at h9
          simp at h9)
        clear h1 h2 h3 h4 r1 r2 r3 r4 s1 s2 s3 s4
        obtain ⟨h1, h2, h3, h4, _, _, pa', la', ka', xv', cs', r1, r2, r3, r4⟩ := HW5.out
        have hvy : HV w5.drew (.agg #[.int .u8 (y.k : Int), .int .i64 y.n, .string (S y.t), .slice ya y.ns.length yca, .slice yb y.is.length ycb]) y := ⟨_, rfl, HC.below h1.drew y _ HCY.out⟩
        have cY := (copy_any _ y (Nat.le_refl _) hyw _ _ hvy).mono (R' := fun e w' => (∃ u, e = .returned u ∧ HO w5.heap.size w' u y) ∧ Below w5.heap.size w5 w') fun e w' ⟨h1, h2⟩ => ⟨h1, (below_drew _).trans h2⟩
        rw [putR_lit]
        simp only [putL, pApp, Nat.reduceAdd, Nat.reduceLeDiff, decide_true, decide_false, Bool.and_true, Bool.and_false, cond_true, cond_false, Nat.zero_add, Nat.le_refl]
        go_wp2_with fail
        refine region_copy 46 6 8 (by kernel_rfl) (by kernel_rfl) (by simp) (by omega) (by omega) rfl rfl r1 X5 cY r3 h4 h6 (by have := hl19.out; omega) (fun f v' w' d0 d1 d2 d3 d4 s1 s2 s3 s4 s5 => ?_)
        have HI2 : Hid (CpI (ob + 1) ob w w' (.int .u8 5) (.int .i64 nI) (.string (S t)) (.int .u8 5) (.int .i64 nI) (.string (S t)) (.slice (some ⟨bb, oo, none⟩) r ca) (.slice (some ⟨blk, off, none⟩) r cb) (JV.keep (x.ns.take (i + 1)) (x.is.take (i + 1)) l).1 (JV.keep (x.ns.take (i + 1)) (x.is.take (i + 1)) l).2) := by
          rw [hks.out, if_neg HPQ.out]
          exact CpI.item h1 h2 h3 h4 h5 h6 r2 r3 r4 s1 s2 s3 s4 s5
        clear h1 h2 h3 h4 r1 r2 r3 r4 s1 s2 s3 s4 s5 cY X5 hvy HW5 HW9 X9h
        rw [putR_lit]
        simp only [putL, pCp, Nat.reduceAdd, Nat.reduceLeDiff, decide_true, decide_false, Bool.and_true, Bool.and_false, cond_true, cond_false, Nat.zero_add, Nat.le_refl]
        go_wp2_with fail
        go_roundw
        case rel => exact ⟨i + 1, by go_num, by omega, HI2.out⟩
        case measure => simp [intOf]; omega
    · obtain rfl : i = r := by omega
      have hkl := JV.keep_len l x.ns x.is
      rw [show x.ns.take i = x.ns by rw [← HR.out]; exact List.take_length, show x.is.take i = x.is by rw [← HM.out]; exact List.take_length] at hW
      obtain ⟨h1, h2, h3, h4, h5, h6, pa, la, ka, xv, cs, f1, f2, f3, f4⟩ := hW
      obtain ⟨na, nc, hna, _⟩ := NS.of_own f2
      obtain ⟨rfl, rfl, rfl⟩ : pa = na ∧ la = (JV.keep x.ns x.is l).1.length ∧ ka = nc := by simpa using hna
      obtain ⟨xa, xc, rfl, _⟩ := HI.of_own f3 (HCSp.hcs _ _ f4)
      have HG : Hid (x.without l = (.mk 5 x.n x.t (JV.keep x.ns x.is l).1 (JV.keep x.ns x.is l).2, decide ((JV.keep x.ns x.is l).1.length < x.ns.length))) := if_pos ⟨HK5.out, by rw [HM.out, HR.out]⟩
      have HJ : Hid (JB 5 x.n x.t (JV.keep x.ns x.is l).1 (JV.keep x.ns x.is l).2.length) := by
        obtain ⟨j1, j2, j3, j4, j5, j6⟩ := HB.out
        exact ⟨by omega, j2, j3, Nat.le_trans hkl.2 j4, by rw [← hkl.1]; exact Nat.le_trans hkl.2 j4, fun z hz => j6 z (JV.keep_mem l _ _ z hz)⟩
      have H1 := Lib.hid h1
      have H3 := Lib.hid h3
      have F2 := Lib.hid f2
      have F3 := Lib.hid f3
      have F4 := Lib.hid f4
      obtain ⟨K, hK⟩ : ∃ K, (JV.keep x.ns x.is l).1.length = K := ⟨_, rfl⟩
      obtain ⟨M, hM⟩ : ∃ K, (JV.keep x.ns x.is l).2.length = K := ⟨_, rfl⟩
      have HKK := Lib.hid hK
      have HMM := Lib.hid hM
      rw [hK] at f1 F2 F4
      rw [hM] at f1 F3 F4
      obtain ⟨⟨p0, p1, p2, p3, p4⟩, pf⟩ := h2.cells
      obtain ⟨⟨q0, q1, q2, q3, q4⟩, qf⟩ := h3.cells
      obtain ⟨⟨y0, y1, y2, y3, y4⟩, yf⟩ := f1.cells
      clear h1 h2 h3 f1 f2 f3 f4 h4 hkl hK hM hna
      go_wp2_with fail
      go_region
      go_wp2_with fail
      have HB5 := below_val (b := w.heap.size + 1) H1.out (by omega) (.int .u8 5) (.int .i64 nI) (.string (S t)) (.slice pa K ka) (.slice xa M xc)
      refine bodyPost_ret (results_val (fn := Try.f26) (t := 4) (u := 5) rfl _ _ rfl (H3.out.set5 (.int .u8 5) (.int .i64 nI) (.string (S t)) (.slice pa K ka) (.slice xa M xc)) rfl) rfl ?_
      rw [HG.out]
      refine ⟨⟨_, ret_wo rfl (by rw [HKK.out, HR.out]), ?_⟩, Below.drew HB5⟩
      have P1 := own_set5 F2.out (b := w.heap.size + 1) (by omega) (.int .u8 5) (.int .i64 nI) (.string (S t)) (.slice pa K ka) (.slice xa M xc)
      have P2 := own_set5 F3.out (b := w.heap.size + 1) (by omega) (.int .u8 5) (.int .i64 nI) (.string (S t)) (.slice pa K ka) (.slice xa M xc)
      have hKK := HKK.out
      have hMM := HMM.out
      subst hKK
      subst hMM
      refine HO.below (B := w.heap.size) (w := (((((wr.setCell ⟨w.heap.size + 1, 0, none⟩ (.int .u8 5)).setCell ⟨w.heap.size + 1, 1, none⟩ (.int .i64 nI)).setCell ⟨w.heap.size + 1, 2, none⟩ (.string (S t))).setCell ⟨w.heap.size + 1, 3, none⟩ (.slice pa (JV.keep x.ns x.is l).1.length ka)).setCell ⟨w.heap.size + 1, 4, none⟩ (.slice xa (JV.keep x.ns x.is l).2.length xc))) ?_ (below_drew _)
      refine ⟨.slice pa (JV.keep x.ns x.is l).1.length ka, .slice xa (JV.keep x.ns x.is l).2.length xc, cs, by rw [HNn.out, HT.out]; rfl, HJ.out, own_mono (B' := w.heap.size) P1 (by omega), own_mono (B' := w.heap.size) P2 (by omega), HCSp.stay (fun b hb _ => ⟨⟨by have := hb.1; omega, hb.2⟩, ?_⟩) _ _ F4.out⟩
      have hne : b ≠ w.heap.size + 1 := by have := hb.1; omega
      rw [heap_setCell_other _ ⟨w.heap.size + 1, 4, none⟩ b _ hne, heap_setCell_other _ ⟨w.heap.size + 1, 3, none⟩ b _ hne, heap_setCell_other _ ⟨w.heap.size + 1, 2, none⟩ b _ hne, heap_setCell_other _ ⟨w.heap.size + 1, 1, none⟩ b _ hne, heap_setCell_other _ ⟨w.heap.size + 1, 0, none⟩ b _ hne]
end Go.Proofs.Ytcmalaabggohmaa
