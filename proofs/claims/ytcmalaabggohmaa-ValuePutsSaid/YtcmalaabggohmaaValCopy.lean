/-
  What the program's bare and Copy come to.
-/
import Derived.Test.YtcmalaabggohmaaValCp
import Derived.Test.YtcmalaabggohmaaValCnt
import Derived.Test.YtcmalaabggohmaaValRefWo2
import Derived.Test.YtcmalaabggohmaaValSize
import Derived.Lib.AppendZeros
namespace Go.Proofs.Ytcmalaabggohmaa
open Go.RowKit

set_option maxHeartbeats 1000000 in
theorem bare_any (x : JV) (w : World) (v : Value) (hv : HV w v x) :
    Calls Try.prog 41 #[v] w fun e w' => e = .returned (.agg #[.int .u8 (x.k : Int), .int .i64 x.n, .string (S x.t), .slice none 0 0, .slice none 0 0]) ∧ Below w.heap.size w w' := by
  obtain ⟨cs, rfl, hc⟩ := hv
  obtain ⟨a, b, ca, cb, rfl, hB, hN, hI⟩ := hc.form
  have b1 : Below w.heap.size w ((w.alloc (.cells #[.int .u8 (x.k : Int), .int .i64 x.n, .string (S x.t), .slice a x.ns.length ca, .slice b x.is.length cb] 25)).alloc (.cells #[.int .u8 (x.k : Int), .int .i64 x.n, .string (S x.t), .slice none 0 0, .slice none 0 0] 25)) := ((Below.refl _ _).alloc (Nat.le_refl _) _).alloc (by simp) _
  have v1 := VAt.new (w.alloc (.cells #[.int .u8 (x.k : Int), .int .i64 x.n, .string (S x.t), .slice a x.ns.length ca, .slice b x.is.length cb] 25)) (.int .u8 (x.k : Int)) (.int .i64 x.n) (.string (S x.t)) (.slice none 0 0) (.slice none 0 0)
  rw [show (w.alloc (.cells #[.int .u8 (x.k : Int), .int .i64 x.n, .string (S x.t), .slice a x.ns.length ca, .slice b x.is.length cb] 25)).heap.size = w.heap.size + 1 by simp] at v1
  clear hc hB hN hI
  go_enter Try.func41, Try.ntmps41
  go_wp2_with fail
  refine bodyPost_ret (results_one (fn := Try.f41) (t := 2) rfl _ _ rfl v1 rfl) rfl ?_
  exact ⟨rfl, b1⟩
theorem run_append_none (W : World) (ty : TypeId) (c : Nat) : (Builtin.append_ #[22, 22] ty #[.slice none 0 0, .slice none 0 c]).run Try.prog W = .ok (.slice none 0 0) W := by
  have hu := Try.underlying22
  obtain ⟨i0, hi0, hz0, hz1, hz2⟩ := info_parts info_name
  simp [Builtin.append_, run_underlying hu, sizeOf, typeInfo, hi0, Builtin.lenOf, Builtin.firstCells]
/-- append(nil, names...) -/
theorem run_names (W : World) (ty : TypeId) (B : Nat) (hB : B ≤ W.heap.size) (a : Option Addr) (ca : Nat) (ns : List (List UInt8)) (hN : NS W a ns) (hl : ns.length ≤ 90000) :
    ∃ p l k w', (Builtin.append_ #[22, 22] ty #[.slice none 0 0, .slice a ns.length ca]).run Try.prog W = .ok (.slice p l k) w' ∧ w'.ownsRow B 9 1 (.slice p l k) ns.length (NC ns) ∧ W.grownBy w' none := by
  obtain ⟨i0, hi0, hz0, hz1, hz2⟩ := info_parts info_name
  cases a with
  | none =>
    have h0 : ns = [] := by
      rcases ns with _ | ⟨n, r⟩
      · rfl
      · obtain ⟨b, o, h, _⟩ := hN 0 n rfl
        cases h
    subst h0
    exact ⟨none, 0, 0, W, run_append_none W ty ca, World.ownsRow_nil _ _ _ _, ⟨rfl, rfl, rfl, Nat.le_refl _, fun _ _ _ => rfl⟩⟩
  | some ad =>
    obtain ⟨v', w', hr, g1, g2, _⟩ := run_append_own (P := Try.prog) W B 22 ty 9 i0 (.string ⟨#[]⟩) 1 16 Try.underlying22 hi0 hz0 hz1 hz2 rfl (by decide) _ 0 [] (World.ownsRow_nil _ _ _ _) ad ns.length ca (NC ns) (by simp [NC]) (fun j u hj => by
      have hx : ∃ x, ns[j]? = some x ∧ u = .string (S x) := by
        simp only [NC, List.getElem?_map, Option.map_eq_some_iff] at hj
        obtain ⟨x, h1, h2⟩ := hj
        exact ⟨x, h1, h2.symm⟩
      obtain ⟨x, h1, rfl⟩ := hx
      obtain ⟨b, o, h2, h3⟩ := hN j x h1
      obtain rfl : ad = ⟨b, o, none⟩ := by simpa using h2
      rw [show (⟨b, o, none⟩ : Addr).add j = ⟨b, o + j, none⟩ by unfold Addr.add; split <;> simp_all]
      exact h3) (fun u hu => by
      simp only [NC, List.mem_map] at hu
      obtain ⟨x, _, rfl⟩ := hu
      rfl) (by unfold maxLen; omega) (by omega) hB
    rw [Nat.zero_add, List.nil_append] at g1
    obtain ⟨p, l, k, rfl⟩ : ∃ pp ll kk, v' = .slice pp ll kk := by
      rcases g1.2 with ⟨rfl, _⟩ | ⟨g, cap, _, rfl, _⟩
      · exact ⟨_, _, _, rfl⟩
      · exact ⟨_, _, _, rfl⟩
    exact ⟨p, l, k, w', hr, g1, g2⟩
theorem own_mono {w : World} {B B' : Nat} {e : TypeId} {sz : Nat} {v : Value} {n : Nat} {xs : List Value} (h : w.ownsRow B e sz v n xs) (hb : B' ≤ B) : w.ownsRow B' e sz v n xs := by
  refine ⟨h.1, ?_⟩
  rcases h.2 with h1 | ⟨g, cap, cur, rfl, hg, r⟩
  · exact .inl h1
  · exact .inr ⟨g, cap, cur, rfl, by omega, r⟩
/-- what stands while a value is built up in block ob, its rows from B on -/
structure CpI (B ob : Nat) (w wr : World) (k0 n0 t0 : Value) (v0 v1 v2 v3 v4 : Value) (ns : List (List UInt8)) (is : List JV) : Prop where
  below : Below w.heap.size w wr
  hv : VAt w.heap.size wr v0 v1 v2 v3 v4
  hr : VAt (w.heap.size + 1) wr (.int .u8 0) (.int .i64 0) (.string ⟨#[]⟩) (.slice none 0 0) (.slice none 0 0)
  size : B ≤ wr.heap.size
  at1 : w.heap.size + 1 < ob
  at2 : ob < B
  own : ∃ pa la ka xv cs, VAt ob wr k0 n0 t0 (.slice pa la ka) xv ∧ wr.ownsRow B 9 1 (.slice pa la ka) ns.length (NC ns) ∧ wr.ownsRow B 25 5 xv is.length cs ∧
    HCSp (fun b => B ≤ b ∧ some b ≠ (Value.slice pa la ka).ownBlock ∧ some b ≠ xv.ownBlock) wr cs is
theorem CpI.mem {B ob : Nat} {w wr w' : World} {k0 n0 t0 v0 v1 v2 v3 v4 : Value} {ns : List (List UInt8)} {is : List JV} (h : CpI B ob w wr k0 n0 t0 v0 v1 v2 v3 v4 ns is) (hb : Below wr.heap.size wr w') : CpI B ob w w' k0 n0 t0 v0 v1 v2 v3 v4 ns is := by
  obtain ⟨h1, h2, h3, h4, h5, h6, pa, la, ka, xv, cs, g1, g2, g3, g4⟩ := h
  exact ⟨h1.trans (hb.mono h1.size), h2.below hb, h3.below hb, Nat.le_trans h4 hb.size, h5, h6, pa, la, ka, xv, cs, g1.below hb, own_stay g2 fun b e => hb.block b (g2.lt b e).2, own_stay g3 fun b e => hb.block b (g3.lt b e).2,
    HCSp.stay (fun b h hl => ⟨h, hb.block b hl⟩) _ _ g4⟩
/-- an Item more -/
theorem CpI.item {B ob : Nat} {w wr w' : World} {k0 n0 t0 v0 v1 v2 v3 v4 : Value} {ns : List (List UInt8)} {is : List JV} {y : JV} {pa : Option Addr} {la ka : Nat} {xv xv' : Value} {cs : List Value} {d0 d1 d2 d3 d4 : Value}
    (h1 : Below w.heap.size w wr) (h2 : VAt w.heap.size wr v0 v1 v2 v3 v4) (h3 : VAt (w.heap.size + 1) wr (.int .u8 0) (.int .i64 0) (.string ⟨#[]⟩) (.slice none 0 0) (.slice none 0 0)) (h4 : B ≤ wr.heap.size) (h5 : w.heap.size + 1 < ob) (h6 : ob < B)
    (g2 : wr.ownsRow B 9 1 (.slice pa la ka) ns.length (NC ns)) (g3 : wr.ownsRow B 25 5 xv is.length cs) (g4 : HCSp (fun b => B ≤ b ∧ some b ≠ (Value.slice pa la ka).ownBlock ∧ some b ≠ xv.ownBlock) wr cs is)
    (f1 : VAt ob w' k0 n0 t0 (.slice pa la ka) xv') (f2 : w'.ownsRow B 25 5 xv' (is.length + 1) (cs ++ [d0, d1, d2, d3, d4])) (f3 : HCp (fun b => wr.heap.size ≤ b ∧ some b ≠ xv'.ownBlock) w' [d0, d1, d2, d3, d4] y) (f4 : Kb ob xv.ownBlock wr w')
    (f5 : xv'.ownBlock = xv.ownBlock ∨ ∃ g, xv'.ownBlock = some g ∧ wr.heap.size ≤ g) : CpI B ob w w' k0 n0 t0 v0 v1 v2 v3 v4 ns (is ++ [y]) := by
  have hlt := fun k e => g3.lt k e
  have hN : w.heap.size + 1 < wr.heap.size := by omega
  refine ⟨f4.below h1 (by omega) (fun k e => by have := (hlt k e).1; omega), f4.vat h2 (by omega) (fun e => by have := (hlt _ e.symm).1; omega), f4.vat h3 (by omega) (fun e => by have := (hlt _ e.symm).1; omega), Nat.le_trans h4 f4.size, h5, h6, pa, la, ka, xv', _, f1,
    f4.own g2 h6 (own_apart g2 g3 (by decide)), ?_, HCSp.app (HCSp.stay (fun b hb hl => ⟨⟨hb.1, hb.2.1, ?_⟩, f4.block b hl (by have := hb.1; omega) hb.2.2⟩) _ _ g4) (HCSp.one (HCp.stay (fun b hb _ => ⟨⟨by omega, ?_, hb.2⟩, rfl⟩) _ _ f3))⟩
  · rw [List.length_append, List.length_singleton]
    exact f2
  · rcases f5 with e | ⟨g, e, hg⟩
    · rw [e]; exact hb.2.2
    · rw [e]
      intro e2
      simp only [Option.some.injEq] at e2
      omega
  · intro e
    have := (g2.lt b e.symm).2
    have := hb.1
    omega
set_option maxHeartbeats 4000000 in
set_option maxRecDepth 3000 in
theorem copy_any : ∀ (K : Nat) (x : JV), x.cnt ≤ K → x.wt ≤ 90000 → ∀ (w : World) (v : Value), HV w v x →
    Calls Try.prog 23 #[v] w fun e w' => (∃ u, e = .returned u ∧ HO w.heap.size w' u x) ∧ Below w.heap.size w w' := by
  intro K
  induction K with
  | zero => intro x h; have := x.cnt_pos; omega
  | succ K ih =>
  intro x hK hwt w v hv
  have hwe := x.wt_eq
  have hnl := JV.wn_len x.ns
  have hil := JV.len_le x.is
  have hic := JV.cnts_wt x.is
  obtain ⟨cs, rfl, hc⟩ := hv
  obtain ⟨a, b, ca, cb, rfl, hB, hN, hI⟩ := hc.form
  have hv1 : ∀ w', Below w.heap.size w w' → HV w' (.agg #[.int .u8 (x.k : Int), .int .i64 x.n, .string (S x.t), .slice a x.ns.length ca, .slice b x.is.length cb]) x := fun w' h => ⟨_, rfl, HC.below h x _ hc⟩
  obtain ⟨m, hm⟩ : ∃ m, x.is.length = m := ⟨_, rfl⟩
  have hm2 : (m : Int) ≤ 22500 := by omega
  have hr2 : x.ns.length ≤ 90000 := by omega
  have cB := fun w' h => bare_any x w' _ (hv1 w' h)
  have cN := fun W (h : Below w.heap.size w W) ty B hB => run_names W ty B hB a ca x.ns (hN.below h) hr2
  obtain ⟨r, hr⟩ : ∃ r, x.ns.length = r := ⟨_, rfl⟩
  rw [hm, hr] at cB
  rw [hr] at cN
  rw [hm, hr]
  obtain ⟨k0, hk0⟩ : ∃ z : Int, z = (x.k : Int) := ⟨_, rfl⟩
  obtain ⟨n0, hn0⟩ : ∃ z, z = x.n := ⟨_, rfl⟩
  obtain ⟨t0, ht0⟩ : ∃ z, z = x.t := ⟨_, rfl⟩
  rw [← hk0, ← hn0, ← ht0] at cB
  rw [← hk0, ← hn0, ← ht0]
  have HK := Lib.hid hk0
  have HNn := Lib.hid hn0
  have HTt := Lib.hid ht0
  have HM := Lib.hid hm
  have HR := Lib.hid hr
  have HJB := Lib.hid hB
  have HI1 := Lib.hid hI
  have HWT : Hid (∀ (i : Nat) y, x.is[i]? = some y → y.wt ≤ 90000 ∧ y.cnt ≤ K) := fun i y hy => by
    have := JV.wts_get hy
    have := JV.cnt_item hy
    omega
  obtain ⟨W1, hW1⟩ : ∃ W, W = w.alloc (.cells #[.int .u8 k0, .int .i64 n0, .string (S t0), .slice a r ca, .slice b m cb] 25) := ⟨_, rfl⟩
  obtain ⟨W2, hW2⟩ : ∃ W, W = W1.alloc (.cells #[.int .u8 0, .int .i64 0, .string ⟨#[]⟩, .slice none 0 0, .slice none 0 0] 25) := ⟨_, rfl⟩
  have b1 : Below w.heap.size w W1 := by rw [hW1]; exact (Below.refl _ _).alloc (Nat.le_refl _) _
  have b12 : Below W1.heap.size W1 W2 := by rw [hW2]; exact (Below.refl _ _).alloc (Nat.le_refl _) _
  have V1 : VAt w.heap.size W1 (.int .u8 k0) (.int .i64 n0) (.string (S t0)) (.slice a r ca) (.slice b m cb) := by rw [hW1]; exact VAt.new ..
  have V2 : VAt W1.heap.size W2 (.int .u8 0) (.int .i64 0) (.string ⟨#[]⟩) (.slice none 0 0) (.slice none 0 0) := by rw [hW2]; exact VAt.new ..
  have e1 : W1.heap.size = w.heap.size + 1 := by rw [hW1]; simp
  have e2 : W2.heap.size = w.heap.size + 2 := by rw [hW2]; simp [e1]
  rw [e1] at V2
  have V1 := V1.below b12
  have c2 := b1.trans (b12.mono b1.size)
  have CB := cB W2 c2
  have CN := Lib.hid cN
  obtain ⟨⟨p0, p1, p2, p3, p4⟩, _⟩ := V1.cells
  clear hwe hnl hil hic hB hN hI hc hv1 hm hr hk0 hn0 ht0 cB cN b1 b12 e1
  go_enter Try.func23, Try.ntmps23
  go_wp2_with fail
  rw [← hW1, ← hW2]
  clear hW1 hW2
  go_wp2_with fail
  refine CB.mono ?_; rintro e w3 ⟨rfl, b3⟩
  have V1 := V1.below b3
  have V2 := V2.below b3
  have c3 := c2.trans (b3.mono c2.size)
  have hs3 : w.heap.size + 2 ≤ w3.heap.size := by rw [← e2]; exact b3.size
  obtain ⟨W4, hW4⟩ : ∃ W, W = w3.alloc (.cells #[.int .u8 k0, .int .i64 n0, .string (S t0), .slice none 0 0, .slice none 0 0] 25) := ⟨_, rfl⟩
  have b34 : Below w3.heap.size w3 W4 := by rw [hW4]; exact (Below.refl _ _).alloc (Nat.le_refl _) _
  have V3 : VAt w3.heap.size W4 (.int .u8 k0) (.int .i64 n0) (.string (S t0)) (.slice none 0 0) (.slice none 0 0) := by rw [hW4]; exact VAt.new ..
  have e4 : W4.heap.size = w3.heap.size + 1 := by rw [hW4]; simp
  have V1 := V1.below b34
  have V2 := V2.below b34
  have c4 := c3.trans (b34.mono c3.size)
  clear p0 p1 p2 p3 p4
  obtain ⟨⟨p0, p1, p2, p3, p4⟩, _⟩ := V1.cells
  rw [hW4] at p3 p4
  clear p0 p1 p2 CB
  obtain ⟨pa, la, ka, w5, hr5, g1, g2⟩ := CN.out W4 c4 22 (w3.heap.size + 1) (by rw [e4]; exact Nat.le_refl _)
  have b45 : Below W4.heap.size W4 w5 := ⟨g2.os, g2.tape, g2.output, g2.size, fun k hk => g2.block k hk (by simp)⟩
  have V1' := V1.below b45
  have V2' := V2.below b45
  have V3' := V3.below b45
  have c5 := c4.trans (b45.mono c4.size)
  obtain ⟨⟨q0, q1, q2, q3, q4⟩, qf⟩ := V3'.cells
  obtain ⟨⟨z0, z1, z2, z3, z4⟩, _⟩ := V1'.cells
  rw [hW4] at hr5
  obtain ⟨ob, hob⟩ : ∃ ob, ob = w3.heap.size := ⟨_, rfl⟩
  have hs5 := b45.size
  have V1'' : VAt w.heap.size (w5.setCell ⟨ob, 3, none⟩ (.slice pa la ka)) (.int .u8 k0) (.int .i64 n0) (.string (S t0)) (.slice a r ca) (.slice b m cb) := by
    have := heap_setCell_other w5 ⟨ob, 3, none⟩ w.heap.size (.slice pa la ka) (show w.heap.size ≠ ob by omega)
    exact this.trans V1'
  have HC0 : Hid (CpI (ob + 1) ob w (w5.setCell ⟨ob, 3, none⟩ (.slice pa la ka)) (.int .u8 k0) (.int .i64 n0) (.string (S t0)) (.int .u8 k0) (.int .i64 n0) (.string (S t0)) (.slice a r ca) (.slice b m cb) x.ns []) := by
    refine ⟨c5.setCell (p := ⟨ob, 3, none⟩) (by show w.heap.size ≤ ob; omega) _, V1'', ?_, by simp; omega, by omega, by omega, pa, la, ka, .slice none 0 0, [], ?_, ?_, World.ownsRow_nil _ _ _ _, rfl⟩
    · exact (heap_setCell_other w5 ⟨ob, 3, none⟩ (w.heap.size + 1) (.slice pa la ka) (show w.heap.size + 1 ≠ ob by omega)).trans V2'
    · rw [hob]
      exact V3'.set3 _
    · rw [hob]
      have := ownsRow_setCell_below (a := ⟨w3.heap.size, 3, none⟩) g1 (show w3.heap.size < w3.heap.size + 1 by omega) (.slice pa la ka)
      rwa [HR.out]
  obtain ⟨⟨y0, y1, y2, y3, y4⟩, _⟩ := V1''.cells
  rw [hob] at y4
  clear V1 V2 V3 V1' V2' V3' V1'' c2 c3 c4 b3 b34 g1 y0 y1 y2 y3 z0 z1 z2 z3 z4
  go_wp2_with (at_builtin; refine Lib.wpList_append_run _ rfl _ _ _ _ rfl _ _ rfl rfl _ _ hr5 ?_)
  rw [← hob]
  obtain ⟨W6, hW6⟩ : ∃ W, W = w5.setCell ⟨ob, 3, none⟩ (.slice pa la ka) := ⟨_, rfl⟩
  rw [← hW6] at HC0
  rw [← hW6]
  clear hW6 hr5 g2 b45 q0 q1 q2 q3 q4 qf y4 p3 p4 c5 hs5 e4 hW4 hob
  go_loopw [17] (fun iv wr => ∃ i : Nat, iv = .int .i64 (i : Int) ∧ i ≤ m ∧ CpI (ob + 1) ob w wr (.int .u8 k0) (.int .i64 n0) (.string (S t0)) (.int .u8 k0) (.int .i64 n0) (.string (S t0)) (.slice a r ca) (.slice b m cb) x.ns (x.is.take i)) (fun iv _ => m - (intOf iv).toNat)
  case atStart => exact ⟨0, rfl, Nat.zero_le _, by rw [List.take_zero]; exact HC0.out⟩
  case round =>
    obtain ⟨i, rfl, hi, hW⟩ := hrel
    by_cases hlt : (i : Int) < (m : Int)
    · obtain ⟨y, hy⟩ : ∃ y, x.is[i]? = some y := ⟨x.is[i]'(by have := HM.out; omega), List.getElem?_eq_getElem _⟩
      obtain ⟨blk, off, rfl, hII⟩ := items_at HI1.out hy
      obtain ⟨c0, c1, c2, c3, c4, g0, g1, g2, g3, g4, hcy⟩ := (HI.below hW.below _ _ _ hII).get hy
      obtain ⟨ya, yb, yca, ycb, rfl, rfl, rfl, rfl, rfl⟩ := five hcy
      obtain ⟨hyw, hyc⟩ := HWT.out i y hy
      have hsn : Hid (x.is.take (i + 1) = x.is.take i ++ [y]) := JV.take_snoc hy
      have b9 : Below wr.heap.size wr (wr.alloc (.cells #[.int .u8 (y.k : Int), .int .i64 y.n, .string (S y.t), .slice ya y.ns.length yca, .slice yb y.is.length ycb] 25)) := (Below.refl _ _).alloc (Nat.le_refl _) _
      have X9 := VAt.new wr (.int .u8 (y.k : Int)) (.int .i64 y.n) (.string (S y.t)) (.slice ya y.ns.length yca) (.slice yb y.is.length ycb)
      have hW9 := hW.mem b9
      have hvy : HV (wr.alloc (.cells #[.int .u8 (y.k : Int), .int .i64 y.n, .string (S y.t), .slice ya y.ns.length yca, .slice yb y.is.length ycb] 25)).drew (.agg #[.int .u8 (y.k : Int), .int .i64 y.n, .string (S y.t), .slice ya y.ns.length yca, .slice yb y.is.length ycb]) y := ⟨_, rfl, HC.below b9.drew y _ hcy⟩
      have cY := (ih y hyc hyw _ _ hvy).mono (R' := fun e w' => (∃ u, e = .returned u ∧ HO (wr.alloc (.cells #[.int .u8 (y.k : Int), .int .i64 y.n, .string (S y.t), .slice ya y.ns.length yca, .slice yb y.is.length ycb] 25)).heap.size w' u y) ∧ Below (wr.alloc (.cells #[.int .u8 (y.k : Int), .int .i64 y.n, .string (S y.t), .slice ya y.ns.length yca, .slice yb y.is.length ycb] 25)).heap.size (wr.alloc (.cells #[.int .u8 (y.k : Int), .int .i64 y.n, .string (S y.t), .slice ya y.ns.length yca, .slice yb y.is.length ycb] 25)) w') fun e w' ⟨h1, h2⟩ => ⟨h1, (below_drew _).trans h2⟩
      have hl5 : (x.is.take i).length + 1 ≤ 90000 := by rw [List.length_take]; omega
      obtain ⟨h1, h2, h3, h4, h5, h6, pa, la, ka, xv, cs, f1, f2, f3, f4⟩ := hW9
      clear hW hcy hII hy hyw hyc hvy
      go_wp2_with fail
      clear g0 g1 g2 g3 g4
      obtain ⟨W9, hW9⟩ : ∃ W, W = wr.alloc (.cells #[.int .u8 (y.k : Int), .int .i64 y.n, .string (S y.t), .slice ya y.ns.length yca, .slice yb y.is.length ycb] 25) := ⟨_, rfl⟩
      rw [← hW9] at h1 h2 h3 h4 f1 f2 f3 f4 cY X9 b9
      rw [← hW9]
      clear hW9
      refine region_copy 21 3 5 (by kernel_rfl) (by kernel_rfl) (by simp) (by omega) (by omega) rfl rfl f1 X9 cY f3 h4 h6 hl5 (fun f v' w' d0 d1 d2 d3 d4 r1 r2 r3 r4 r5 => ?_)
      have HI2 : Hid (CpI (ob + 1) ob w w' (.int .u8 k0) (.int .i64 n0) (.string (S t0)) (.int .u8 k0) (.int .i64 n0) (.string (S t0)) (.slice a r ca) (.slice (some ⟨blk, off, none⟩) m cb) x.ns (x.is.take (i + 1))) := by
        rw [hsn.out]
        exact CpI.item h1 h2 h3 h4 h5 h6 f2 f3 f4 r1 r2 r3 r4 r5
      clear h1 h2 h3 h4 h5 h6 f1 f2 f3 f4 r1 r2 r3 r4 r5 cY X9 b9
      rw [putR_lit]
      simp only [putL, pCp, Nat.reduceAdd, Nat.reduceLeDiff, decide_true, decide_false, Bool.and_true, Bool.and_false, cond_true, cond_false, Nat.zero_add, Nat.le_refl]
      go_wp2_with fail
      go_roundw
      case rel => exact ⟨i + 1, by go_num, by omega, HI2.out⟩
      case measure => simp [intOf]; omega
    · obtain rfl : i = m := by omega
      have hall : x.is.take i = x.is := by rw [← HM.out]; exact List.take_length
      rw [hall] at hW
      obtain ⟨h1, h2, h3, h4, h5, h6, pa, la, ka, xv, cs, f1, f2, f3, f4⟩ := hW
      obtain ⟨xa, xl, xk, rfl⟩ : ∃ pp ll kk, xv = .slice pp ll kk := by
        rcases f3.2 with ⟨rfl, _⟩ | ⟨g, cap, _, rfl, _⟩
        · exact ⟨_, _, _, rfl⟩
        · exact ⟨_, _, _, rfl⟩
      obtain ⟨⟨q0, q1, q2, q3, q4⟩, qf⟩ := h3.cells
      obtain ⟨⟨y0, y1, y2, y3, y4⟩, yf⟩ := f1.cells
      have H1 := Lib.hid h1
      have H3 := Lib.hid h3
      have F2 := Lib.hid f2
      have F3 := Lib.hid f3
      have F4 := Lib.hid f4
      have H4 := Lib.hid h4
      clear h1 h2 h3 f1 f2 f3 f4 h4 hall
      go_wp2_with fail
      have HB5 := below_val (b := w.heap.size + 1) H1.out (by omega) (.int .u8 k0) (.int .i64 n0) (.string (S t0)) (.slice pa la ka) (.slice xa xl xk)
      refine bodyPost_ret (results_one (fn := Try.f23) (t := 2) rfl _ _ rfl (H3.out.set5 (.int .u8 k0) (.int .i64 n0) (.string (S t0)) (.slice pa la ka) (.slice xa xl xk)) rfl) rfl ?_
      have P1 := own_set5 F2.out (b := w.heap.size + 1) (by omega) (.int .u8 k0) (.int .i64 n0) (.string (S t0)) (.slice pa la ka) (.slice xa xl xk)
      have P2 := own_set5 F3.out (b := w.heap.size + 1) (by omega) (.int .u8 k0) (.int .i64 n0) (.string (S t0)) (.slice pa la ka) (.slice xa xl xk)
      refine ⟨⟨_, rfl, .slice pa la ka, .slice xa xl xk, cs, by rw [HK.out, HNn.out, HTt.out], HJB.out, own_mono P1 (by omega), own_mono P2 (by omega), HCSp.stay (fun b hb _ => ⟨⟨by have := hb.1; omega, hb.2⟩, ?_⟩) _ _ F4.out⟩, HB5⟩
      have hne : b ≠ w.heap.size + 1 := by have := hb.1; omega
      rw [heap_setCell_other _ ⟨w.heap.size + 1, 4, none⟩ b _ hne, heap_setCell_other _ ⟨w.heap.size + 1, 3, none⟩ b _ hne, heap_setCell_other _ ⟨w.heap.size + 1, 2, none⟩ b _ hne, heap_setCell_other _ ⟨w.heap.size + 1, 1, none⟩ b _ hne, heap_setCell_other _ ⟨w.heap.size + 1, 0, none⟩ b _ hne]
end Go.Proofs.Ytcmalaabggohmaa
