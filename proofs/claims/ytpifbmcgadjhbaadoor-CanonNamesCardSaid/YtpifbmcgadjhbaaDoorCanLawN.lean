/-
  CanonNames.
-/
import Derived.Test.YtpifbmcgadjhbaaDoorCanAwake
import Derived.Test.YtpifbmcgadjhbaaDoorCanFree
namespace Go.Proofs.YtpifbmcgadjhbaaDoor
open Go.RowKit

theorem en_1 : ENC (.mk 1 0 [] [] []) = ([102, 97, 108, 115, 101], 0) := by rw [ENC_ok (by decide)]; rfl
theorem itoa_min : Lib.itoa (-9223372036854775808) = [45, 57, 50, 50, 51, 51, 55, 50, 48, 51, 54, 56, 53, 52, 55, 55, 53, 56, 48, 56] := (Nm.itoa_is (by decide) _).2 (by decide)
theorem itoa_0 : Lib.itoa 0 = [48] := (Nm.itoa_is (by decide) 0).2 (by decide)
theorem en_2 : ENC (.mk 2 (-9223372036854775808) [] [] []) = ([45, 57, 50, 50, 51, 51, 55, 50, 48, 51, 54, 56, 53, 52, 55, 55, 53, 56, 48, 56], 0) := by
  rw [ENC_ok (by decide), Cn.form_2, itoa_min]
theorem en_3 : ENC (.mk 2 0 [] [] []) = ([48], 0) := by rw [ENC_ok (by decide), Cn.form_2, itoa_0]
theorem en_4 : ENC (JV.text []) = ([34, 34], 0) := by rw [ENC_ok (by decide)]; rfl
theorem en_5 : ENC (JV.text [92, 47, 0, 31, 127, 195, 169]) = ([34, 92, 92, 47, 0, 31, 127, 195, 169, 34], 0) := by rw [ENC_ok (by decide)]; rfl
theorem en_6 : ENC (.mk 4 0 [] [] []) = ([91, 93], 0) := by rw [ENC_ok (by decide)]; rfl
theorem en_7 : ENC (.mk 4 0 [] [] [.mk 4 0 [] [] [], .mk 5 0 [] [] []]) = ([91, 91, 93, 44, 123, 125, 93], 0) := by rw [ENC_ok (by decide)]; rfl
theorem en_8 : ENC (.mk 5 0 [] [[34]] [JV.text []]) = ([123, 34, 92, 34, 34, 58, 34, 34, 125], 0) := by rw [ENC_ok (by decide)]; rfl
theorem no_1 : ENC (.mk 0 0 [] [] []) = ([], 3) := ENC_no (by decide)
theorem no_2 : ENC (.mk 9 0 [] [] []) = ([], 3) := ENC_no (by decide)
theorem no_3 : ENC (JV.text [255]) = ([], 3) := ENC_no (by decide)
theorem no_4 : ENC (.mk 5 0 [] [[98], [97]] [JV.text [], JV.text []]) = ([], 3) := ENC_no (by decide)
theorem no_5 : ENC (.mk 5 0 [] [[97]] []) = ([], 3) := ENC_no (by decide)
theorem no_6 : ENC (.mk 4 0 [] [] [.mk 0 0 [] [] []]) = ([], 3) := ENC_no (by decide)

theorem bareV (W : World) (k : Nat) (n : Int) (h1 : k < 256) (h2 : -9223372036854775808 ≤ n ∧ n ≤ 9223372036854775807) : HV W (.agg #[.int .u8 (k : Int), .int .i64 n, .string ⟨#[]⟩, .slice none 0 0, .slice none 0 0]) (.mk k n [] [] []) :=
  HV.of W k n [] [] [] none none 0 0 ⟨h1, h2, Nat.zero_le _, Nat.zero_le _, Nat.zero_le _, fun x h => by simp at h⟩ (NS.nil _ _) (.inl rfl)

theorem bareC (W : World) (k : Nat) (n : Int) (h1 : k < 256) (h2 : -9223372036854775808 ≤ n ∧ n ≤ 9223372036854775807) : HC W [.int .u8 (k : Int), .int .i64 n, .string ⟨#[]⟩, .slice none 0 0, .slice none 0 0] (.mk k n [] [] []) := by
  obtain ⟨cs, h, hc⟩ := bareV W k n h1 h2
  have h := congrArg Array.toList (Value.agg.inj h)
  simp only at h
  rw [h]
  exact hc
theorem textV (W : World) (t : List UInt8) (ht : t.length ≤ 100) : HV W (.agg #[.int .u8 3, .int .i64 0, .string (S t), .slice none 0 0, .slice none 0 0]) (JV.text t) :=
  HV.of W 3 0 t [] [] none none 0 0 ⟨by omega, by omega, by unfold maxLen; omega, Nat.zero_le _, Nat.zero_le _, fun x h => by simp at h⟩ (NS.nil _ _) (.inl rfl)
theorem hc_of {W : World} {c0 c1 c2 c3 c4 : Value} {x : JV} (h : HV W (.agg #[c0, c1, c2, c3, c4]) x) : HC W [c0, c1, c2, c3, c4] x := by
  obtain ⟨cs, h, hc⟩ := h
  have h := congrArg Array.toList (Value.agg.inj h)
  simp only at h
  rw [h]
  exact hc
theorem newB {u W : World} {o : Obj} (h : W = u.alloc o) : W.heap[u.heap.size]? = some o := by rw [h]; exact heap_alloc_new u _
theorem newA {u W : World} {o : Obj} (h : W = u.alloc o) : Below u.heap.size u W := by rw [h]; exact (Below.refl _ _).alloc (Nat.le_refl _) _
theorem listV (W : World) (b : Nat) (cs : List Value) (is : List JV) (hl : is.length ≤ 100) (m : Nat) (hm : is.length = m) (h1 : W.heap[b]? = some (.cells cs.toArray 25 (0, 0))) (h2 : HCS W cs is) :
    HV W (.agg #[.int .u8 4, .int .i64 0, .string ⟨#[]⟩, .slice none 0 0, .slice (some ⟨b, 0, none⟩) m m]) (.mk 4 0 [] [] is) := by
  subst hm
  exact HV.of W 4 0 [] [] is none (some ⟨b, 0, none⟩) 0 is.length ⟨by omega, by omega, Nat.zero_le _, Nat.zero_le _, by unfold maxLen; omega, fun x h => by simp at h⟩ (NS.nil _ _) (.inr ⟨b, 0, rfl, HI.of_block h1 h2⟩)
theorem objV (W : World) (d : Nat) (ns : List (List UInt8)) (is : List JV) (hl : is.length ≤ 100) (hn : ns.length ≤ 100) (hns : ∀ x ∈ ns, x.length ≤ 100) (m r : Nat) (hm : is.length = m) (hr : ns.length = r) (h0 : W.heap[d]? = some (.cells (NC ns).toArray 9 (0, 0)))
    (b : Option Addr) (hI : is = [] ∨ ∃ blk off, b = some ⟨blk, off, none⟩ ∧ HI W blk off is) :
    HV W (.agg #[.int .u8 5, .int .i64 0, .string ⟨#[]⟩, .slice (some ⟨d, 0, none⟩) r r, .slice b m m]) (.mk 5 0 [] ns is) := by
  subst hm hr
  exact HV.of W 5 0 [] ns is (some ⟨d, 0, none⟩) b ns.length is.length ⟨by omega, by omega, Nat.zero_le _, by unfold maxLen; omega, by unfold maxLen; omega, fun x h => by have := hns x h; unfold maxLen; omega⟩ (NS.of_block h0) hI
set_option maxHeartbeats 1000000 in
theorem text10_v (t : List UInt8) (w : World) :
    Calls Tryd.prog 14 #[.string (S t)] w fun e w' => e = .returned (.agg #[.int .u8 3, .int .i64 0, .string (S t), .slice none 0 0, .slice none 0 0]) ∧ Below w.heap.size w w' := by
  have a := VAt.new w (.int .u8 3) (.int .i64 0) (.string (S t)) (.slice none 0 0) (.slice none 0 0)
  go_enter Tryd.func14, Tryd.ntmps14
  go_wp2_with fail
  refine bodyPost_ret (results_one (fn := Tryd.f14) (t := 2) rfl _ _ rfl a rfl) rfl ?_
  exact ⟨rfl, (Below.refl _ _).alloc (Nat.le_refl _) _⟩
def SIX : List JV := [.mk 0 0 [] [] [], .mk 9 0 [] [] [], JV.text [255], .mk 5 0 [] [[98], [97]] [JV.text [], JV.text []], .mk 5 0 [] [[97]] [], .mk 4 0 [] [] [.mk 0 0 [] [] []]]
theorem six_no {i : Nat} {y : JV} (h : SIX[i]? = some y) : ENC y = ([], 3) ∧ y.wt ≤ 90000 := by
  have hi : i < 6 := (List.getElem?_eq_some_iff.1 h).1
  rcases i with _ | _ | _ | _ | _ | _ | i
  all_goals first | omega | (simp only [SIX, List.getElem?_cons_zero, List.getElem?_cons_succ, Option.some.injEq] at h; subst h)
  · exact ⟨no_1, by decide⟩
  · exact ⟨no_2, by decide⟩
  · exact ⟨no_3, by decide⟩
  · exact ⟨no_4, by decide⟩
  · exact ⟨no_5, by decide⟩
  · exact ⟨no_6, by decide⟩

theorem six_of (u V1 V2 V3 V4 : World) (p : Nat) (hn : u.heap[p]? = some (.cells (NC [[98], [97]]).toArray 9 (0, 0)))
    (h1 : V1 = u.alloc (.cells #[.int .u8 3, .int .i64 0, .string (S []), .slice none 0 0, .slice none 0 0, .int .u8 3, .int .i64 0, .string (S []), .slice none 0 0, .slice none 0 0] 25))
    (h2 : V2 = V1.alloc (.cells #[.string ⟨#[97]⟩] 9))
    (h3 : V3 = V2.alloc (.cells #[.int .u8 0, .int .i64 0, .string ⟨#[]⟩, .slice none 0 0, .slice none 0 0] 25))
    (h4 : V4 = V3.alloc (.cells #[.int .u8 0, .int .i64 0, .string ⟨#[]⟩, .slice none 0 0, .slice none 0 0, .int .u8 9, .int .i64 0, .string ⟨#[]⟩, .slice none 0 0, .slice none 0 0, .int .u8 3, .int .i64 0, .string (S [255]), .slice none 0 0, .slice none 0 0,
      .int .u8 5, .int .i64 0, .string ⟨#[]⟩, .slice (some ⟨p, 0, none⟩) 2 2, .slice (some ⟨u.heap.size, 0, none⟩) 2 2, .int .u8 5, .int .i64 0, .string ⟨#[]⟩, .slice (some ⟨u.heap.size + 1, 0, none⟩) 1 1, .slice none 0 0,
      .int .u8 4, .int .i64 0, .string ⟨#[]⟩, .slice none 0 0, .slice (some ⟨u.heap.size + 1 + 1, 0, none⟩) 1 1] 25)) :
    Below u.heap.size u V4 ∧ HI V4 (u.heap.size + 1 + 1 + 1) 0 SIX := by
  have s1 : V1.heap.size = u.heap.size + 1 := by rw [h1]; simp
  have s2 : V2.heap.size = u.heap.size + 1 + 1 := by rw [h2]; simp [s1]
  have s3 : V3.heap.size = u.heap.size + 1 + 1 + 1 := by rw [h3]; simp [s2]
  have b1 := newA h1
  have b2 := newA h2
  have b3 := newA h3
  have b4 := newA h4
  have n1 := newB h1
  have n2 := newB h2
  have n3 := newB h3
  have n4 := newB h4
  rw [s1] at n2
  rw [s2] at n3
  rw [s3] at n4
  have k34 : ∀ {i : Nat} {o : Obj}, V3.heap[i]? = some o → V4.heap[i]? = some o := fun h => (b4.block _ (Array.getElem?_eq_some_iff.1 h).1).trans h
  have k23 : ∀ {i : Nat} {o : Obj}, V2.heap[i]? = some o → V3.heap[i]? = some o := fun h => (b3.block _ (Array.getElem?_eq_some_iff.1 h).1).trans h
  have k12 : ∀ {i : Nat} {o : Obj}, V1.heap[i]? = some o → V2.heap[i]? = some o := fun h => (b2.block _ (Array.getElem?_eq_some_iff.1 h).1).trans h
  have k01 : ∀ {i : Nat} {o : Obj}, u.heap[i]? = some o → V1.heap[i]? = some o := fun h => (b1.block _ (Array.getElem?_eq_some_iff.1 h).1).trans h
  have m0 := k34 (k23 (k12 (k01 hn)))
  have m1 := k34 (k23 (k12 n1))
  have m2 := k34 (k23 n2)
  have m3 := k34 n3
  have B2 := b1.trans (b2.mono b1.size)
  have B3 := B2.trans (b3.mono B2.size)
  have B4 := B3.trans (b4.mono B3.size)
  refine ⟨B4, HI.of_block (cs := [.int .u8 0, .int .i64 0, .string ⟨#[]⟩, .slice none 0 0, .slice none 0 0] ++ [.int .u8 9, .int .i64 0, .string ⟨#[]⟩, .slice none 0 0, .slice none 0 0] ++ [.int .u8 3, .int .i64 0, .string (S [255]), .slice none 0 0, .slice none 0 0] ++
      [.int .u8 5, .int .i64 0, .string ⟨#[]⟩, .slice (some ⟨p, 0, none⟩) 2 2, .slice (some ⟨u.heap.size, 0, none⟩) 2 2] ++ [.int .u8 5, .int .i64 0, .string ⟨#[]⟩, .slice (some ⟨u.heap.size + 1, 0, none⟩) 1 1, .slice none 0 0] ++
      [.int .u8 4, .int .i64 0, .string ⟨#[]⟩, .slice none 0 0, .slice (some ⟨u.heap.size + 1 + 1, 0, none⟩) 1 1]) n4 ?_⟩
  have t0 := HCS.one (bareC V4 0 0 (by omega) (by omega))
  have t1 := HCS.snoc (bareC V4 9 0 (by omega) (by omega)) t0
  have t2 := HCS.snoc (hc_of (textV V4 [255] (by decide))) t1
  have e := hc_of (textV V4 [] (by decide))
  have t3 := HCS.snoc (hc_of (objV V4 p [[98], [97]] [JV.text [], JV.text []] (by decide) (by decide) (by decide) 2 2 rfl rfl m0 (some ⟨u.heap.size, 0, none⟩) (.inr ⟨_, _, rfl, HI.of_block m1 (HCS.snoc e (HCS.one e))⟩))) t2
  have t4 := HCS.snoc (hc_of (objV V4 (u.heap.size + 1) [[97]] [] (by decide) (by decide) (by decide) 0 1 rfl rfl m2 none (.inl rfl))) t3
  exact HCS.snoc (hc_of (listV V4 (u.heap.size + 1 + 1) _ [.mk 0 0 [] [] []] (by decide) 1 rfl m3 (HCS.one (bareC V4 0 0 (by omega) (by omega))))) t4

set_option maxHeartbeats 8000000 in
set_option maxRecDepth 10000 in
theorem law_CanonNames (w : World) (hT : TabN w) :
    Calls Tryd.prog 4 #[] w fun e w' => e = .returned (.bool true) ∧ Below w.heap.size w w' := by
  go_enter Tryd.func4, Tryd.ntmps4
  go_wp2_with fail
  refine (awake10_any w hT).mono ?_; rintro e w1 ⟨rfl, b1⟩
  have T1 := hT.below b1
  have HB1 := Lib.hid b1
  clear hT b1
  go_wp2_with fail
  have c1 := is_any en_1 (.agg #[.int .u8 1, .int .i64 0, .string ⟨#[]⟩, .slice none 0 0, .slice none 0 0]) w1 (by decide) (bareV w1 1 0 (by omega) (by omega)) T1
  refine c1.mono ?_; rintro e w2 ⟨rfl, b2⟩
  have T2 := T1.below b2
  have HB2 := Lib.hid (HB1.out.trans (b2.mono HB1.out.size))
  clear c1 b2 T1 HB1
  go_wp2_with fail
  have c1 := is_any en_2 (.agg #[.int .u8 2, .int .i64 (-9223372036854775808), .string ⟨#[]⟩, .slice none 0 0, .slice none 0 0]) w2 (by decide) (bareV w2 2 _ (by omega) (by omega)) T2
  refine c1.mono ?_; rintro e w3 ⟨rfl, b3⟩
  have T3 := T2.below b3
  have HB3 := Lib.hid (HB2.out.trans (b3.mono HB2.out.size))
  clear c1 b3 T2 HB2
  go_wp2_with fail
  have c1 := is_any en_3 (.agg #[.int .u8 2, .int .i64 0, .string ⟨#[]⟩, .slice none 0 0, .slice none 0 0]) w3 (by decide) (bareV w3 2 _ (by omega) (by omega)) T3
  refine c1.mono ?_; rintro e w4 ⟨rfl, b4⟩
  have T4 := T3.below b4
  have HB4 := Lib.hid (HB3.out.trans (b4.mono HB3.out.size))
  clear c1 b4 T3 HB3
  go_wp2_with fail
  refine (text10_v [] w4).mono ?_; rintro e w5 ⟨rfl, b5⟩
  have hv5 := textV w5 [] (by decide)
  have T5 := T4.below b5
  have HB5 := Lib.hid (HB4.out.trans (b5.mono HB4.out.size))
  clear b5 T4 HB4
  go_wp2_with fail
  refine (is_any en_4 _ w5 (by decide) hv5 T5).mono ?_; rintro e w6 ⟨rfl, b6⟩
  have T6 := T5.below b6
  have HB6 := Lib.hid (HB5.out.trans (b6.mono HB5.out.size))
  clear b6 T5 HB5 hv5
  go_wp2_with fail
  refine (text10_v [92, 47, 0, 31, 127, 195, 169] w6).mono ?_; rintro e w7 ⟨rfl, b7⟩
  have hv7 := textV w7 [92, 47, 0, 31, 127, 195, 169] (by decide)
  have T7 := T6.below b7
  have HB7 := Lib.hid (HB6.out.trans (b7.mono HB6.out.size))
  clear b7 T6 HB6
  go_wp2_with fail
  refine (is_any en_5 _ w7 (by decide) hv7 T7).mono ?_; rintro e w8 ⟨rfl, b8⟩
  have T8 := T7.below b8
  have HB8 := Lib.hid (HB7.out.trans (b8.mono HB7.out.size))
  clear b8 T7 HB7 hv7
  go_wp2_with fail
  have c1 := is_any en_6 (.agg #[.int .u8 4, .int .i64 0, .string ⟨#[]⟩, .slice none 0 0, .slice none 0 0]) w8 (by decide) (bareV w8 4 _ (by omega) (by omega)) T8
  refine c1.mono ?_; rintro e w9 ⟨rfl, b9⟩
  have T9 := T8.below b9
  have HB9 := Lib.hid (HB8.out.trans (b9.mono HB8.out.size))
  clear c1 b9 T8 HB8
  go_wp2_with fail
  obtain ⟨W9, hW9⟩ : ∃ W, W = w9.alloc (.cells #[.int .u8 4, .int .i64 0, .string ⟨#[]⟩, .slice none 0 0, .slice none 0 0, .int .u8 5, .int .i64 0, .string ⟨#[]⟩, .slice none 0 0, .slice none 0 0] 25) := ⟨_, rfl⟩
  have b9 := newA hW9
  have hv9 := listV W9 w9.heap.size _ [.mk 4 0 [] [] [], .mk 5 0 [] [] []] (by decide) 2 rfl (newB hW9) (HCS.snoc (bareC W9 5 0 (by omega) (by omega)) (HCS.one (bareC W9 4 0 (by omega) (by omega))))
  rw [← hW9]
  clear hW9
  refine (is_any en_7 _ W9 (by decide) hv9 (T9.below b9)).mono ?_; rintro e w10 ⟨rfl, b10⟩
  have T10 := (T9.below b9).below b10
  have HB10 := Lib.hid ((HB9.out.trans (b9.mono HB9.out.size)).trans (b10.mono (HB9.out.trans (b9.mono HB9.out.size)).size))
  clear b9 b10 T9 HB9 hv9
  go_wp2_with fail
  obtain ⟨W11, hW11⟩ : ∃ W, W = w10.alloc (.cells #[.string ⟨#[34]⟩] 9) := ⟨_, rfl⟩
  have b11 := newA hW11
  have n11 : W11.heap[w10.heap.size]? = some (.cells (NC [[34]]).toArray 9 (0, 0)) := newB hW11
  obtain ⟨p10, hp10⟩ : ∃ p, p = w10.heap.size := ⟨_, rfl⟩
  rw [← hp10] at n11
  have T11 := T10.below b11
  have HB11 := Lib.hid (HB10.out.trans (b11.mono HB10.out.size))
  rw [← hW11, ← hp10]
  clear hW11 hp10 b11 T10 HB10
  refine (text10_v [] W11).mono ?_; rintro e w12 ⟨rfl, b12⟩
  have T12 := T11.below b12
  have HB12 := Lib.hid (HB11.out.trans (b12.mono HB11.out.size))
  have n12 := Lib.hid ((b12.block _ (Array.getElem?_eq_some_iff.1 n11).1).trans n11)
  clear b12 T11 HB11 n11
  go_wp2_with fail
  obtain ⟨W12, hW12⟩ : ∃ W, W = w12.alloc (.cells #[.int .u8 3, .int .i64 0, .string (S []), .slice none 0 0, .slice none 0 0] 25) := ⟨_, rfl⟩
  have b12 := newA hW12
  have hv12 := objV W12 p10 [[34]] [JV.text []] (by decide) (by decide) (by decide) 1 1 rfl rfl ((b12.block _ (Array.getElem?_eq_some_iff.1 n12.out).1).trans n12.out) (some ⟨w12.heap.size, 0, none⟩) (.inr ⟨_, _, rfl, HI.of_block (newB hW12) (HCS.one (hc_of (textV W12 [] (by decide))))⟩)
  rw [← hW12]
  clear hW12
  refine (is_any en_8 _ W12 (by decide) hv12 (T12.below b12)).mono ?_; rintro e w13 ⟨rfl, b13⟩
  have T13 := (T12.below b12).below b13
  have HB13 := Lib.hid ((HB12.out.trans (b12.mono HB12.out.size)).trans (b13.mono (HB12.out.trans (b12.mono HB12.out.size)).size))
  clear b12 b13 T12 HB12 hv12 n12
  go_wp2_with fail
  refine (text10_v [255] w13).mono ?_; rintro e w14 ⟨rfl, b14⟩
  have T14 := T13.below b14
  have HB14 := Lib.hid (HB13.out.trans (b14.mono HB13.out.size))
  clear b14 T13 HB13
  go_wp2_with fail
  obtain ⟨W15, hW15⟩ : ∃ W, W = w14.alloc (.cells #[.string ⟨#[98]⟩, .string ⟨#[97]⟩] 9) := ⟨_, rfl⟩
  have b15 := newA hW15
  have n15 : W15.heap[w14.heap.size]? = some (.cells (NC [[98], [97]]).toArray 9 (0, 0)) := newB hW15
  obtain ⟨p14, hp14⟩ : ∃ p, p = w14.heap.size := ⟨_, rfl⟩
  rw [← hp14] at n15
  have T15 := T14.below b15
  have HB15 := Lib.hid (HB14.out.trans (b15.mono HB14.out.size))
  rw [← hW15, ← hp14]
  clear hW15 hp14 b15 T14 HB14
  refine (text10_v [] W15).mono ?_; rintro e w16 ⟨rfl, b16⟩
  have T16 := T15.below b16
  have HB16 := Lib.hid (HB15.out.trans (b16.mono HB15.out.size))
  have n16 := Lib.hid ((b16.block _ (Array.getElem?_eq_some_iff.1 n15).1).trans n15)
  clear b16 T15 HB15 n15
  go_wp2_with fail
  refine (text10_v [] w16).mono ?_; rintro e w17 ⟨rfl, b17⟩
  have T17 := T16.below b17
  have HB17 := Lib.hid (HB16.out.trans (b17.mono HB16.out.size))
  have n17 := Lib.hid ((b17.block _ (Array.getElem?_eq_some_iff.1 n16.out).1).trans n16.out)
  clear b17 T16 HB16 n16
  go_wp2_with fail
  obtain ⟨V1, h1⟩ : ∃ V, V = w17.alloc (.cells #[.int .u8 3, .int .i64 0, .string (S []), .slice none 0 0, .slice none 0 0, .int .u8 3, .int .i64 0, .string (S []), .slice none 0 0, .slice none 0 0] 25) := ⟨_, rfl⟩
  obtain ⟨V2, h2⟩ : ∃ V, V = V1.alloc (.cells #[.string ⟨#[97]⟩] 9) := ⟨_, rfl⟩
  obtain ⟨V3, h3⟩ : ∃ V, V = V2.alloc (.cells #[.int .u8 0, .int .i64 0, .string ⟨#[]⟩, .slice none 0 0, .slice none 0 0] 25) := ⟨_, rfl⟩
  obtain ⟨V4, h4⟩ : ∃ V, V = V3.alloc (.cells #[.int .u8 0, .int .i64 0, .string ⟨#[]⟩, .slice none 0 0, .slice none 0 0, .int .u8 9, .int .i64 0, .string ⟨#[]⟩, .slice none 0 0, .slice none 0 0, .int .u8 3, .int .i64 0, .string (S [255]), .slice none 0 0, .slice none 0 0,
      .int .u8 5, .int .i64 0, .string ⟨#[]⟩, .slice (some ⟨p14, 0, none⟩) 2 2, .slice (some ⟨w17.heap.size, 0, none⟩) 2 2, .int .u8 5, .int .i64 0, .string ⟨#[]⟩, .slice (some ⟨w17.heap.size + 1, 0, none⟩) 1 1, .slice none 0 0,
      .int .u8 4, .int .i64 0, .string ⟨#[]⟩, .slice none 0 0, .slice (some ⟨w17.heap.size + 1 + 1, 0, none⟩) 1 1] 25) := ⟨_, rfl⟩
  obtain ⟨b18, hI⟩ := six_of w17 V1 V2 V3 V4 p14 n17.out h1 h2 h3 h4
  rw [← h1, ← h2, ← h3, ← h4]
  clear h1 h2 h3 h4 n17
  have T18 := T17.below b18
  have HB18 := Lib.hid (HB17.out.trans (b18.mono HB17.out.size))
  clear b18 T17 HB17
  obtain ⟨blk, off, hbo⟩ : ∃ blk off, (⟨blk, off, none⟩ : Addr) = ⟨w17.heap.size + 1 + 1 + 1, 0, none⟩ := ⟨_, _, rfl⟩
  have hI : HI V4 blk off SIX := by
    have h1 := congrArg Addr.block hbo
    have h2 := congrArg Addr.off hbo
    simp only at h1 h2
    rw [h1, h2]
    exact hI
  rw [← hbo]
  clear hbo
  have HI0 := Lib.hid hI
  clear hI
  go_loopw [68] (fun iv wr => ∃ (i : Nat), iv = .int .i64 (i : Int) ∧ i ≤ 6 ∧ Below V4.heap.size V4 wr) (fun iv _ => 6 - (intOf iv).toNat)
  case atStart => exact ⟨0, rfl, Nat.zero_le _, Below.refl _ _⟩
  case round =>
    obtain ⟨i, rfl, hi, hb⟩ := hrel
    have TR := T18.below hb
    have HB := Lib.hid hb
    by_cases hlt : (i : Int) < 6
    · obtain ⟨y, hy⟩ : ∃ y, SIX[i]? = some y := ⟨SIX[i]'(by show i < 6; omega), List.getElem?_eq_getElem _⟩
      obtain ⟨c0, c1, c2, c3, c4, g0, g1, g2, g3, g4, hcy⟩ := (HI.below hb _ _ _ HI0.out).get hy
      obtain ⟨ya, yb, yca, ycb, rfl, rfl, rfl, rfl, rfl⟩ := five hcy
      have hvy : HV wr (.agg #[.int .u8 (y.k : Int), .int .i64 y.n, .string (S y.t), .slice ya y.ns.length yca, .slice yb y.is.length ycb]) y := ⟨_, rfl, hcy⟩
      obtain ⟨hE, hwy⟩ := six_no hy
      obtain ⟨K, hK⟩ : ∃ z : Int, z = (y.k : Int) := ⟨_, rfl⟩
      obtain ⟨N, hNN⟩ : ∃ z : Int, z = y.n := ⟨_, rfl⟩
      obtain ⟨T, hTT⟩ : ∃ z : ByteArray, z = S y.t := ⟨_, rfl⟩
      obtain ⟨p, hp⟩ : ∃ z : Nat, z = y.ns.length := ⟨_, rfl⟩
      obtain ⟨r, hr⟩ : ∃ z : Nat, z = y.is.length := ⟨_, rfl⟩
      rw [← hK] at g0 hvy
      rw [← hNN] at g1 hvy
      rw [← hTT] at g2 hvy
      rw [← hp] at g3 hvy
      rw [← hr] at g4 hvy
      obtain ⟨W1, hW1⟩ : ∃ W, W = wr.alloc (.cells #[.int .u8 K, .int .i64 N, .string T, .slice ya p yca, .slice yb r ycb] 25) := ⟨_, rfl⟩
      have g := newA hW1
      have cE := enc_call hE _ W1 hwy (hvy.below g) (TR.below g)
      rw [show S [] = (⟨#[]⟩ : ByteArray) from rfl] at cE
      have HG := Lib.hid (HB.out.trans (g.mono HB.out.size))
      clear hK hNN hTT hp hr hcy hvy hE hwy hy g hb TR
      go_wp2_with fail
      rw [← hW1]
      clear hW1
      refine cE.mono ?_; rintro e w2 ⟨rfl, b2⟩
      have HB2 := Lib.hid (HG.out.trans (b2.mono HG.out.size))
      clear cE b2 g0 g1 g2 g3 g4
      go_wp2_with fail
      go_roundw
      case rel => exact ⟨i + 1, by go_num, by omega, HB2.out⟩
      case measure => simp [intOf]; omega
    · clear hb TR
      go_wp2_with fail
      go_ret
      exact ⟨rfl, HB18.out.trans (HB.out.mono HB18.out.size)⟩
end Go.Proofs.YtpifbmcgadjhbaaDoor
