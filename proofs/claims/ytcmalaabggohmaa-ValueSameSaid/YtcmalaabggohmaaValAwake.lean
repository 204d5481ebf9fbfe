/-
  The laws' awake.
-/
import Derived.Test.YtcmalaabggohmaaValAwG
namespace Go.Proofs.Ytcmalaabggohmaa
open Go.RowKit

set_option maxHeartbeats 4000000 in
set_option maxRecDepth 3000 in
theorem awake_any (w : World) : Calls Try.prog 12 #[] w fun e w' => e = .returned (.bool true) ∧ Below w.heap.size w w' := by
  obtain ⟨W1, hW1⟩ : ∃ W, W = w.alloc (.cells #[.string ⟨#[97]⟩] 9) := ⟨_, rfl⟩
  have b1 : Below w.heap.size w W1 := by rw [hW1]; exact (Below.refl _ _).alloc (Nat.le_refl _) _
  have n1 : W1.heap[w.heap.size]? = some (.cells (NC [[97]]).toArray 9 (0, 0)) := by rw [hW1]; exact heap_alloc_new w _
  have cnum := fun w => num_any 1 w (by omega)
  go_enter Try.func12, Try.ntmps12
  go_wp2_with fail
  rw [← hW1]
  clear hW1
  refine (cnum _).mono ?_; rintro e w2 ⟨v, rfl, hv, b2⟩
  obtain ⟨c0, c1, c2, c3, c4, rfl, hc, _⟩ := hv.cells
  obtain ⟨W3, hW3⟩ : ∃ W, W = w2.alloc (.cells #[c0, c1, c2, c3, c4] 25) := ⟨_, rfl⟩
  have b3 : Below w2.heap.size w2 W3 := by rw [hW3]; exact (Below.refl _ _).alloc (Nat.le_refl _) _
  have B3 := (b1.trans (b2.mono b1.size)).trans (b3.mono (b1.trans (b2.mono b1.size)).size)
  have n3 : W3.heap[w.heap.size]? = some (.cells (NC [[97]]).toArray 9 (0, 0)) := (b3.block _ (Nat.lt_of_lt_of_le (Array.getElem?_eq_some_iff.1 n1).1 b2.size)).trans ((b2.block _ (Array.getElem?_eq_some_iff.1 n1).1).trans n1)
  have i3 : W3.heap[w2.heap.size]? = some (.cells #[c0, c1, c2, c3, c4] 25 (0, 0)) := by rw [hW3]; exact heap_alloc_new w2 _
  have cobj : Calls Try.prog 29 #[.slice (some ⟨w.heap.size, 0, none⟩) 1 1, .slice (some ⟨w2.heap.size, 0, none⟩) 1 1] W3 fun e w' => ∃ v, e = .returned v ∧ HV w' v Ja ∧ Below W3.heap.size W3 w' := obj_call [[97]] [JV.num 1] w.heap.size w2.heap.size 1 1 [c0, c1, c2, c3, c4] W3 rfl rfl (by decide) (by decide) (by decide) n3 i3 (HCS.one (HC.below b3 _ _ hc))
  go_wp2_with fail
  rw [← hW3]
  clear hW3
  refine cobj.mono ?_; rintro e w4 ⟨v, rfl, hv4, b4⟩
  have B4 := B3.trans (b4.mono B3.size)
  obtain ⟨a0, a1, a2, a3, a4, rfl, hca, za, zb, zca, zcb, rfl, rfl, rfl, rfl, rfl⟩ := hv4.cells
  clear cobj n3 i3 n1 hv hc b1 b2 b3 B3 hv4 b4
  obtain ⟨W5, hW5⟩ : ∃ W, W = w4.alloc (.cells #[.int .u8 (Ja.k : Int), .int .i64 Ja.n, .string (S Ja.t), .slice za Ja.ns.length zca, .slice zb Ja.is.length zcb] 25) := ⟨_, rfl⟩
  have b5 : Below w4.heap.size w4 W5 := by rw [hW5]; exact (Below.refl _ _).alloc (Nat.le_refl _) _
  have VA : VAt w4.heap.size W5 (.int .u8 (Ja.k : Int)) (.int .i64 Ja.n) (.string (S Ja.t)) (.slice za Ja.ns.length zca) (.slice zb Ja.is.length zcb) := by rw [hW5]; exact VAt.new ..
  have B5 := B4.trans (b5.mono B4.size)
  have hA5 := HC.below b5 Ja _ hca
  obtain ⟨ab, hab⟩ : ∃ ab, ab = w4.heap.size := ⟨_, rfl⟩
  rw [← hab] at VA
  have cW : ∀ w u, Below W5.heap.size W5 w → HV w u JV.yes → Calls Try.prog 24 #[.agg #[.int .u8 (Ja.k : Int), .int .i64 Ja.n, .string (S Ja.t), .slice za Ja.ns.length zca, .slice zb Ja.is.length zcb], .string ⟨#[98]⟩, u] w fun e w' => (∃ u', e = .returned (.tuple #[u', .int .i64 0]) ∧ HO w.heap.size w' u' Jb) ∧ Below w.heap.size w w' := fun w u h1 h2 =>
    with_any Ja JV.yes [98] (by decide) (by decide) (by decide) w _ u ⟨_, rfl, HC.below h1 Ja _ hA5⟩ h2
  have HCA := Lib.hid hca
  clear hca b5 B4
  go_wp2_with fail
  rw [← hW5, ← hab]
  clear hW5 hab
  refine region_awake (by kernel_rfl) (by kernel_rfl) (by simp) rfl VA cW (fun f w6 bb d0 d1 d2 d3 d4 f2 f3 VB hVB b6 => ?_)
  rw [putR_lit]
  simp only [putL, pAw, Nat.reduceAdd, Nat.reduceLeDiff, Nat.reduceEqDiff, decide_true, decide_false, Bool.and_true, Bool.and_false, Bool.or_true, Bool.or_false, cond_true, cond_false, Nat.zero_add, Nat.le_refl]
  rw [f2, f3]
  have B6 := B5.trans (b6.mono B5.size)
  have VA6 := VA.below b6
  have hA6 := HC.below b6 Ja _ hA5
  obtain ⟨_, _, _, _, _, e, hcb, ya, yb, yca, ycb, rfl, rfl, rfl, rfl, rfl⟩ := hVB.cells
  simp only [Value.agg.injEq, Array.mk.injEq, List.cons.injEq, and_true] at e
  obtain ⟨rfl, rfl, rfl, rfl, rfl⟩ := e
  have cl : Calls Try.prog 28 #[.slice none 0 0] w6 fun e w' => ∃ v, e = .returned v ∧ HV w' v (JV.list []) ∧ Below w6.heap.size w6 w' := list_any [] none 0 w6 (by decide) (.inl rfl)
  clear cW hVB VA hA5 f2 f3 b6 B5 HCA cnum
  go_wp2_with fail
  refine cl.mono ?_; rintro e w7 ⟨v, rfl, hv7, b7⟩
  obtain ⟨e0, e1, e2, e3, e4, rfl, hc7, _⟩ := hv7.cells
  obtain ⟨W8, hW8⟩ : ∃ W, W = w7.alloc (.cells #[e0, e1, e2, e3, e4] 25) := ⟨_, rfl⟩
  have b8 : Below w7.heap.size w7 W8 := by rw [hW8]; exact (Below.refl _ _).alloc (Nat.le_refl _) _
  have i8 : W8.heap[w7.heap.size]? = some (.cells #[e0, e1, e2, e3, e4] 25 (0, 0)) := by rw [hW8]; exact heap_alloc_new w7 _
  have b68 := b7.trans (b8.mono b7.size)
  have cl2 : Calls Try.prog 28 #[.slice (some ⟨w7.heap.size, 0, none⟩) 1 1] W8 fun e w' => ∃ v, e = .returned v ∧ HV w' v Jd ∧ Below W8.heap.size W8 w' := list_call [JV.list []] w7.heap.size 1 [e0, e1, e2, e3, e4] W8 rfl (by decide) i8 (HCS.one (HC.below b8 _ _ hc7))
  clear hv7 cl i8 b7
  go_wp2_with fail
  rw [← hW8]
  clear hW8
  refine cl2.mono ?_; rintro e w9 ⟨v, rfl, hv9, b9⟩
  obtain ⟨_, _, _, _, _, rfl, hcd, xa, xb, xca, xcb, rfl, rfl, rfl, rfl, rfl⟩ := hv9.cells
  have b69 := b68.trans (b9.mono b68.size)
  obtain ⟨W10, hW10⟩ : ∃ W, W = w9.alloc (.cells #[.int .u8 (Jd.k : Int), .int .i64 Jd.n, .string (S Jd.t), .slice xa Jd.ns.length xca, .slice xb Jd.is.length xcb] 25) := ⟨_, rfl⟩
  have b10 : Below w9.heap.size w9 W10 := by rw [hW10]; exact (Below.refl _ _).alloc (Nat.le_refl _) _
  have VD : VAt w9.heap.size W10 (.int .u8 (Jd.k : Int)) (.int .i64 Jd.n) (.string (S Jd.t)) (.slice xa Jd.ns.length xca) (.slice xb Jd.is.length xcb) := by rw [hW10]; exact VAt.new ..
  have b610 := b69.trans (b10.mono b69.size)
  have B10 := Lib.hid (B6.trans (b610.mono B6.size))
  have VA10 := VA6.below b610
  have VB10 := VB.below b610
  have hA10 := HC.below b610 Ja _ hA6
  have hB10 := HC.below b610 Jb _ hcb
  have hD10 := HC.below b10 Jd _ hcd
  obtain ⟨db, hdb⟩ : ∃ db, db = w9.heap.size := ⟨_, rfl⟩
  rw [← hdb] at VD
  clear b610 b10 b69 b68 b9 b8 hv9 hcd hc7 hcb hA6 VA6 VB B6 cl2
  go_wp2_with fail
  rw [← hW10, ← hdb]
  clear hW10 hdb
  refine region_aw (by kernel_rfl) (by kernel_rfl) (by simp) rfl rfl rfl rfl VA10 VB10 VD ⟨_, rfl, hA10⟩ ⟨_, rfl, hB10⟩ ⟨_, rfl, hD10⟩ (fun f u f0 b11 => ?_)
  have f0 : f 0 = .bool true := f0
  rw [putR_lit]
  simp only [putL, show ∀ i, paw i = (Saw.contains i) from fun _ => rfl, Saw]
  simp
  rw [f0]
  go_wp2_with fail
  go_ret
  exact ⟨rfl, B10.out.trans (b11.mono B10.out.size)⟩
end Go.Proofs.Ytcmalaabggohmaa
