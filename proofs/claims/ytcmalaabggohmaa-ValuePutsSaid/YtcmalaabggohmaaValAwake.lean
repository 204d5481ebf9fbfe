/-
  The laws' awake.
-/
import Derived.Test.YtcmalaabggohmaaValAwG
namespace Go.Proofs.Ytcmalaabggohmaa
open Go.RowKit

set_option maxHeartbeats 4000000 in
set_option maxRecDepth 3000 in
theorem awake_any (w : World) : Calls Try.prog 12 #[] w fun e w' => e = .returned (.bool true) ∧ Below w.heap.size w w' := by
  obtain ⟨W1, hW1⟩ : ∃ W, W = w.alloc (.cells #[.string ⟨#[97]⟩] 9) := ⟨_, rfl⟩
  have b1 : Below w.heap.size w W1 := by rw [hW1]; exact (Below.refl _ _).alloc (Nat.le_refl _) _
  have n1 : W1.heap[w.heap.size]? = some (.cells (NC [[97]]).toArray 9 (0, 0)) := by rw [hW1]; exact heap_alloc_new w _
  have cnum := fun w => num_any 1 w (by omega)
  go_enter Try.func12, Try.ntmps12
  go_wp2_with fail
  rw [← hW1]
  clear hW1
  refine (cnum _).mono ?_; rintro e w2 ⟨v, rfl, hv, b2⟩
  obtain ⟨c0, c1, c2, c3, c4, rfl, hc, _⟩ := hv.cells
  obtain ⟨W3, hW3⟩ : ∃ W, W = w2.alloc (.cells #[c0, c1, c2, c3, c4] 25) := ⟨_, rfl⟩
  have b3 : Below w2.heap.size w2 W3 := by rw [hW3]; exact (Below.refl _ _).alloc (Nat.le_refl _) _
  have B3 := (b1.trans (b2.mono b1.size)).trans (b3.mono (b1.trans (b2.mono b1.size)).size)
  have n3 : W3.heap[w.heap.size]? = some (.cells (NC [[97]]).toArray 9 (0, 0)) := (b3.block _ (Nat.lt_of_lt_of_le (Array.getElem?_eq_some_iff.1 n1).1 b2.size)).trans ((b2.block _ (Array.getElem?_eq_some_iff.1 n1).1).trans n1)
  have i3 : W3.heap[w2.heap.size]? = some (.cells #[c0, c1, c2, c3, c4] 25 (0, 0)) := by rw [hW3]; exact heap_alloc_new w2 _
  have cobj : Calls Try.prog 29 #[.slice (some ⟨w.heap.size, 0, none⟩) 1 1, .slice (some ⟨w2.heap.size, 0, none⟩) 1 1] W3 fun e w' => ∃ v, e = .returned v ∧ HV w' v Ja ∧ Below W3.heap.size W3 w' := obj_call [[97]] [JV.num 1] w.heap.size w2.heap.size 1 1 [c0, c1, c2, c3, c4] W3 rfl rfl (by decide) (by decide) (by decide) n3 i3 (HCS.one (HC.below b3 _ _ hc))
  go_wp2_with fail
  rw [← hW3]
  clear hW3
  refine cobj.mono ?_; rintro e w4 ⟨v, rfl, hv4, b4⟩
  have B4 := B3.trans (b4.mono B3.size)
  obtain ⟨a0, a1, a2, a3, a4, rfl, hca, za, zb, zca, zcb, rfl, rfl, rfl, rfl, rfl⟩ := hv4.cells
  clear cobj n3 i3 n1 hv hc b1 b2 b3 B3 hv4 b4
  obtain ⟨W5, hW5⟩ : ∃ W, W = w4.alloc (.cells #[.int .u8 (Ja.k : Int), .int .i64 Ja.n, .string (S Ja.t), .slice za Ja.ns.length zca, .slice zb Ja.is.length zcb] 25) := ⟨_, rfl⟩
  have b5 : Below w4.heap.size w4 W5 := by rw [hW5]; exact (Below.refl _ _).alloc (Nat.le_refl _) _
  have VA : VAt w4.heap.size W5 (.int .u8 (Ja.k : Int)) (.int .i64 Ja.n) (.string (S Ja.t)) (.slice za Ja.ns.length zca) (.slice zb Ja.is.length zcb) := by rw [hW5]; exact VAt.new ..
  have B5 := B4.trans (b5.mono B4.size)
  have hA5 := HC.below b5 Ja _ hca
  obtain ⟨ab, hab⟩ : ∃ ab, ab = w4.heap.size := ⟨_, rfl⟩
  rw [← hab] at VA
  have cW : ∀ w u, Below W5.heap.size W5 w → HV w u JV.yes → Calls Try.prog 24 #[.agg #[.int .u8 (Ja.k : Int), .int .i64 Ja.n, .string (S Ja.t), .slice za Ja.ns.length zca, .slice zb Ja.is.length zcb], .string ⟨#[98]⟩, u] w fun e w' => (∃ u', e = .returned (.tuple #[u', .int .i64 0]) ∧ HO w.heap.size w' u' Jb) ∧ Below w.heap.size w w' := fun w u h1 h2 =>
    with_any Ja JV.yes [98] (by decide) (by decide) (by decide) w _ u ⟨_, rfl, HC.below h1 Ja _ hA5⟩ h2
  have HCA := Lib.hid hca
  clear hca b5 B4
  go_wp2_with fail
  rw [← hW5, ← hab]
  clear hW5 hab
  refine region_awake (by kernel_rfl) (by kernel_rfl) (by simp) rfl VA cW (fun f w6 bb d0 d1 d2 d3 d4 f2 f3 VB hVB b6 => ?_)
  rw [putR_lit]
  simp only [putL, pAw, Nat.reduceAdd, Nat.reduceLeDiff, Nat.reduceEqDiff, decide_true, decide_false, Bool.and_true, Bool.and_false, Bool.or_true, Bool.or_false, cond_true, cond_false, Nat.zero_add, Nat.le_refl]
  rw [f2, f3]
  have B6 := B5.trans (b6.mono B5.size)
  have VA6 := VA.below b6
  have hA6 := HC.below b6 Ja _ hA5
  obtain ⟨_, _, _, _, _, e, hcb, ya, yb, yca, ycb, rfl, rfl, rfl, rfl, rfl⟩ := hVB.cells
  simp only [Value.agg.injEq, Array.mk.injEq, List.cons.injEq, and_true] at e
  obtain ⟨rfl, rfl, rfl, rfl, rfl⟩ := e
  have cl : Calls Try.prog 28 #[.slice none 0 0] w6 fun e w' => ∃ v, e = .returned v ∧ HV w' v (JV.list []) ∧ Below w6.heap.size w6 w' := list_any [] none 0 w6 (by decide) (.inl rfl)
  clear cW hVB VA hA5 f2 f3 b6 B5 HCA cnum
  go_wp2_with fail
  refine cl.mono ?_; rintro e w7 ⟨v, rfl, hv7, b7⟩
  obtain ⟨e0, e1, e2, e3, e4, rfl, hc7, _⟩ := hv7.cells
  obtain ⟨W8, hW8⟩ : ∃ W, W = w7.alloc (.cells #[e0, e1, e2, e3, e4] 25) := ⟨_, rfl⟩
  have b8 : Below w7.heap.size w7 W8 := by rw [hW8]; exact (Below.refl _ _).alloc (Nat.le_refl _) _
  have i8 : W8.heap[w7.heap.size]? = some (.cells #[e0, e1, e2, e3, e4] 25 (0, 0)) := by rw [hW8]; exact heap_alloc_new w7 _
  have b68 := b7.trans (b8.mono b7.size)
  have cl2 : Calls Try.prog 28 #[.slice (some ⟨w7.heap.size, 0, none⟩) 1 1] W8 fun e w' => ∃ v, e = .returned v ∧ HV w' v Jd ∧ Below W8.heap.size W8 w' := list_call [JV.list []] w7.heap.size 1 [e0, e1, e2, e3, e4] W8 rfl (by decide) i8 (HCS.one (HC.below b8 _ _ hc7))
  clear hv7 cl i8 b7
  go_wp2_with fail
  rw [← hW8]
  clear hW8
  refine cl2.mono ?_; rintro e w9 ⟨v, rfl, hv9, b9⟩
  obtain ⟨_, _, _, _, _, rfl, hcd, xa, xb, xca, xcb, rfl, rfl, rfl, rfl, rfl⟩ := hv9.cells
  have b69 := b68.trans (b9.mono b68.size)
  obtain ⟨W10, hW10⟩ : ∃ W, W = w9.alloc (.cells #[.int .u8 (Jd.k : Int), .int .i64 Jd.n, .string (S Jd.t), .slice xa Jd.ns.length xca, .slice xb Jd.is.length xcb] 25) := ⟨_, rfl⟩
  have b10 : Below w9.heap.size w9 W10 := by rw [hW10]; exact (Below.refl _ _).alloc (Nat.le_refl _) _
  have VD : VAt w9.heap.size W10 (.int .u8 (Jd.k : Int)) (.int .i64 Jd.n) (.string (S Jd.t)) (.slice xa Jd.ns.length xca) (.slice xb Jd.is.length xcb) := by rw [hW10]; exact VAt.new ..
  have b610 := b69.trans (b10.mono b69.size)
  have B10 := Lib.hid (B6.trans (b610.mono B6.size))
  have VA10 := VA6.below b610
  have VB10 := VB.below b610
  have hA10 := HC.below b610 Ja _ hA6
  have hB10 := HC.below b610 Jb _ hcb
  have hD10 := HC.below b10 Jd _ hcd
  obtain ⟨db, hdb⟩ : ∃ db, db = w9.heap.size := ⟨_, rfl⟩
  rw [← hdb] at VD
  clear b610 b10 b69 b68 b9 b8 hv9 hcd hc7 hcb hA6 VA6 VB B6 cl2
  go_wp2_with fail
  rw [← hW10, ← hdb]
  clear hW10 hdb
  refine region_aw (by kernel_rfl) (by kernel_rfl) (by simp) rfl rfl rfl rfl VA10 VB10 VD ⟨_, rfl, hA10⟩ ⟨_, rfl, hB10⟩ ⟨_, rfl, hD10⟩ (fun f u f0 b11 => ?_)
  have f0 : f 0 = .bool true := f0
  rw [putR_lit]
  simp only [putL, show ∀ i, paw i = (Saw.contains i) from fun _ => rfl, Saw]
  simp
  rw [f0]
  go_wp2_with fail
  go_ret
  exact ⟨rfl, B10.out.trans (b11.mono B10.out.size)⟩

/-- a value in sight, its cells written out -/
theorem HV.open {w : World} {v : Value} {y : JV} (hv : HV w v y) : ∃ a b ca cb, v = .agg #[.int .u8 (y.k : Int), .int .i64 y.n, .string (S y.t), .slice a y.ns.length ca, .slice b y.is.length cb] ∧
    (∀ w', Below w.heap.size w w' → HV w' (.agg #[.int .u8 (y.k : Int), .int .i64 y.n, .string (S y.t), .slice a y.ns.length ca, .slice b y.is.length cb]) y) ∧ (y.is = [] ∨ ∃ blk off, b = some ⟨blk, off, none⟩ ∧ HI w blk off y.is) ∧ NS w a y.ns ∧ JB y.k y.n y.t y.ns y.is.length := by
  obtain ⟨cs, rfl, hc⟩ := hv
  obtain ⟨a, b, ca, cb, rfl, hB, hN, hI⟩ := hc.form
  exact ⟨a, b, ca, cb, rfl, fun w' h => ⟨_, rfl, HC.below h y _ hc⟩, hI, hN, hB⟩
set_option maxHeartbeats 1000000 in
set_option maxRecDepth 10000 in
theorem long_any (xs : List JV) (w : World) (b : Option Addr) (cb : Nat) (hl : xs.length ≤ maxLen) (hI : xs = [] ∨ ∃ blk off, b = some ⟨blk, off, none⟩ ∧ HI w blk off xs) :
    Calls Try.prog 11 #[.slice b xs.length cb] w fun e w' => (∃ B : Bool, e = .returned (.bool B) ∧ (B = false → JV.wts xs < 20000)) ∧ w = w' := by
  have cS := size_any _ xs (Nat.le_refl _) w b cb 0 (by omega) hl hI
  generalize xs.length = m at *
  rw [show ((0 : Nat) : Int) = 0 from rfl] at cS
  go_enter Try.func11, Try.ntmps11
  go_wp2_with fail
  refine cS.mono ?_; rintro e w1 ⟨⟨Z, rfl, hZ, _⟩, rfl⟩
  have HZ := Lib.hid hZ
  clear hZ
  by_cases h : (20000 : Int) ≤ (Z : Int)
  · go_wp2_with fail
    go_ret
    refine ⟨⟨_, rfl, fun h2 => ?_⟩, rfl⟩
    first | (have := of_decide_eq_false h2; omega) | simp at h2
  · go_wp2_with fail
    go_ret
    exact ⟨⟨_, rfl, fun _ => by have := HZ.out (by omega); omega⟩, rfl⟩

/-- two values that a law was handed, each in a block of its own, and both in a row behind them, over which Long goes -/
theorem head2 {w : World} {v u : Value} {x y : JV} (hv : HV w v x) (hu : HV w u y) :
    ∃ a b ca cb a' b' ca' cb', v = .agg #[.int .u8 (x.k : Int), .int .i64 x.n, .string (S x.t), .slice a x.ns.length ca, .slice b x.is.length cb] ∧ u = .agg #[.int .u8 (y.k : Int), .int .i64 y.n, .string (S y.t), .slice a' y.ns.length ca', .slice b' y.is.length cb'] ∧
      ∀ W3, W3 = ((w.alloc (.cells #[.int .u8 (x.k : Int), .int .i64 x.n, .string (S x.t), .slice a x.ns.length ca, .slice b x.is.length cb] 25)).alloc (.cells #[.int .u8 (y.k : Int), .int .i64 y.n, .string (S y.t), .slice a' y.ns.length ca', .slice b' y.is.length cb'] 25)).alloc
          (.cells #[.int .u8 (x.k : Int), .int .i64 x.n, .string (S x.t), .slice a x.ns.length ca, .slice b x.is.length cb, .int .u8 (y.k : Int), .int .i64 y.n, .string (S y.t), .slice a' y.ns.length ca', .slice b' y.is.length cb'] 25) →
        Below w.heap.size w W3 ∧
        (∀ W, Below W3.heap.size W3 W → VAt w.heap.size W (.int .u8 (x.k : Int)) (.int .i64 x.n) (.string (S x.t)) (.slice a x.ns.length ca) (.slice b x.is.length cb)) ∧
        (∀ W, Below W3.heap.size W3 W → VAt (w.heap.size + 1) W (.int .u8 (y.k : Int)) (.int .i64 y.n) (.string (S y.t)) (.slice a' y.ns.length ca') (.slice b' y.is.length cb')) ∧
        (∀ W, Below W3.heap.size W3 W → HV W (.agg #[.int .u8 (x.k : Int), .int .i64 x.n, .string (S x.t), .slice a x.ns.length ca, .slice b x.is.length cb]) x) ∧
        (∀ W, Below W3.heap.size W3 W → HV W (.agg #[.int .u8 (y.k : Int), .int .i64 y.n, .string (S y.t), .slice a' y.ns.length ca', .slice b' y.is.length cb']) y) ∧
        Calls Try.prog 11 #[.slice (some ⟨w.heap.size + 1 + 1, 0, none⟩) 2 2] W3 fun e w' => (∃ B : Bool, e = .returned (.bool B) ∧ (B = false → x.wt + y.wt < 20000)) ∧ W3 = w' := by
  obtain ⟨a, b, ca, cb, rfl, hV, _, _, _⟩ := hv.open
  obtain ⟨a', b', ca', cb', rfl, hV', _, _, _⟩ := hu.open
  refine ⟨a, b, ca, cb, a', b', ca', cb', rfl, rfl, fun W3 hW => ?_⟩
  obtain ⟨W1, hW1⟩ : ∃ W, W = w.alloc (.cells #[.int .u8 (x.k : Int), .int .i64 x.n, .string (S x.t), .slice a x.ns.length ca, .slice b x.is.length cb] 25) := ⟨_, rfl⟩
  rw [← hW1] at hW
  obtain ⟨W2, hW2⟩ : ∃ W, W = W1.alloc (.cells #[.int .u8 (y.k : Int), .int .i64 y.n, .string (S y.t), .slice a' y.ns.length ca', .slice b' y.is.length cb'] 25) := ⟨_, rfl⟩
  rw [← hW2] at hW
  have b1 : Below w.heap.size w W1 := by rw [hW1]; exact (Below.refl _ _).alloc (Nat.le_refl _) _
  have b12 : Below W1.heap.size W1 W2 := by rw [hW2]; exact (Below.refl _ _).alloc (Nat.le_refl _) _
  have b23 : Below W2.heap.size W2 W3 := by rw [hW]; exact (Below.refl _ _).alloc (Nat.le_refl _) _
  have V1 : VAt w.heap.size W1 (.int .u8 (x.k : Int)) (.int .i64 x.n) (.string (S x.t)) (.slice a x.ns.length ca) (.slice b x.is.length cb) := by rw [hW1]; exact VAt.new ..
  have V2 : VAt W1.heap.size W2 (.int .u8 (y.k : Int)) (.int .i64 y.n) (.string (S y.t)) (.slice a' y.ns.length ca') (.slice b' y.is.length cb') := by rw [hW2]; exact VAt.new ..
  have e1 : W1.heap.size = w.heap.size + 1 := by rw [hW1]; simp
  have e2 : W2.heap.size = w.heap.size + 1 + 1 := by rw [hW2]; simp [e1]
  have c2 := b1.trans (b12.mono b1.size)
  have c3 := c2.trans (b23.mono c2.size)
  have V1 := (V1.below b12).below b23
  have V2 := V2.below b23
  have i3 : W3.heap[W2.heap.size]? = some (.cells (([.int .u8 (x.k : Int), .int .i64 x.n, .string (S x.t), .slice a x.ns.length ca, .slice b x.is.length cb] : List Value) ++ ([.int .u8 (y.k : Int), .int .i64 y.n, .string (S y.t), .slice a' y.ns.length ca', .slice b' y.is.length cb'] : List Value)).toArray 25 (0, 0)) := by rw [hW]; exact heap_alloc_new W2 _
  obtain ⟨cs, hcs, hc⟩ := hV W3 c3
  obtain rfl : cs = [.int .u8 (x.k : Int), .int .i64 x.n, .string (S x.t), .slice a x.ns.length ca, .slice b x.is.length cb] := by simpa using hcs.symm
  obtain ⟨cs', hcs', hc'⟩ := hV' W3 c3
  obtain rfl : cs' = [.int .u8 (y.k : Int), .int .i64 y.n, .string (S y.t), .slice a' y.ns.length ca', .slice b' y.is.length cb'] := by simpa using hcs'.symm
  have cL := long_any ([x] ++ [y]) W3 (some ⟨W2.heap.size, 0, none⟩) 2 (by show 2 ≤ maxLen; unfold maxLen; omega) (.inr ⟨W2.heap.size, 0, rfl, HI.of_block i3 (HCS.snoc hc' (HCS.one hc))⟩)
  rw [e2, show ([x] ++ [y]).length = 2 from rfl] at cL
  rw [e1] at V2
  refine ⟨c3, fun W h => V1.below h, fun W h => V2.below h, fun W h => ⟨_, rfl, HC.below h x _ hc⟩, fun W h => ⟨_, rfl, HC.below h y _ hc'⟩, cL.mono fun e w' ⟨⟨B, h1, h2⟩, h3⟩ => ⟨⟨B, h1, fun h => ?_⟩, h3⟩⟩
  have := h2 h
  simp only [JV.wts, List.cons_append, List.nil_append] at this
  omega
end Go.Proofs.Ytcmalaabggohmaa
