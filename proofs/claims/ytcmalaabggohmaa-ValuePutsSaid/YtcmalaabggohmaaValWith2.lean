/-
  What the program's With comes to.
-/
import Derived.Test.YtcmalaabggohmaaValWith
namespace Go.Proofs.Ytcmalaabggohmaa
open Go.RowKit

namespace JV
/-- the names with one more -/
def putN (ns : List (List UInt8)) (l : List UInt8) : List (List UInt8) := if Jn.has ns l = true then ns else ns.take (Jn.pos ns l) ++ [l] ++ ns.drop (Jn.pos ns l)
/-- their Items with one more, of nothing -/
def roomI (ns : List (List UInt8)) (l : List UInt8) (is : List JV) : List JV := if Jn.has ns l = true then is else is.take (Jn.pos ns l) ++ [zero] ++ is.drop (Jn.pos ns l)
/-- and with what is put -/
def putI (ns : List (List UInt8)) (l : List UInt8) (is : List JV) (y : JV) : List JV := (roomI ns l is).take (Jn.pos ns l) ++ [y] ++ (roomI ns l is).drop (Jn.pos ns l + 1)
/-- what With gives -/
def put (x : JV) (l : List UInt8) (y : JV) : JV × Int :=
  if x.k = 5 then if (x.ns.length == x.is.length && Jn.rise x.ns) = true then (.mk 5 x.n x.t (putN x.ns l) (putI x.ns l x.is y), 0) else (zero, 3) else (zero, 10)
theorem NC_ins (ns : List (List UInt8)) (p : Nat) (l : List UInt8) : NC (ns.take p ++ [l] ++ ns.drop p) = (NC ns).take p ++ [.string (S l)] ++ (NC ns).drop p := by
  simp [NC]
theorem putI_len {ns : List (List UInt8)} {l : List UInt8} {is : List JV} {y : JV} (hl : ns.length = is.length) : (putI ns l is y).length = (putN ns l).length ∧ (roomI ns l is).length = (putN ns l).length ∧ Jn.pos ns l < (roomI ns l is).length := by
  have hp := Jn.pos_le l ns
  unfold putI roomI putN
  by_cases h : Jn.has ns l = true
  · rw [if_pos h, if_pos h]
    have h1 : ns[Jn.pos ns l]? = some l := of_decide_eq_true h
    have := (List.getElem?_eq_some_iff.1 h1).1
    simp only [List.length_append, List.length_take, List.length_drop, List.length_cons, List.length_nil]
    omega
  · rw [if_neg h, if_neg h]
    simp only [List.length_append, List.length_take, List.length_drop, List.length_cons, List.length_nil]
    omega
end JV
theorem ret_put {u u' : Value} {a b : Int} (h : u = u') (hb : a = b) : Ending.returned (.tuple #[u, .int .i64 a]) = .returned (.tuple #[u', .int .i64 b]) := by rw [h, hb]
set_option maxHeartbeats 1000000 in
set_option maxRecDepth 3000 in
theorem with_any (x y : JV) (l : List UInt8) (hwt : x.wt ≤ 90000) (hwy : y.wt ≤ 90000) (hll : l.length ≤ maxLen) (w : World) (u v : Value) (hv : HV w u x) (hy : HV w v y) :
    Calls Try.prog 24 #[u, .string (S l), v] w fun e w' => (∃ u', e = .returned (.tuple #[u', .int .i64 (x.put l y).2]) ∧ HO w.heap.size w' u' (x.put l y).1) ∧ Below w.heap.size w w' := by
  have hwe := x.wt_eq
  have hnl := JV.wn_len x.ns
  have hil := JV.len_le x.is
  have hic := JV.cnts_wt x.is
  obtain ⟨cs, rfl, hc⟩ := hv
  obtain ⟨a, b, ca, cb, rfl, hB, hN, hI⟩ := hc.form
  obtain ⟨cs, rfl, hcy⟩ := hy
  obtain ⟨ya, yb, yca, ycb, rfl, _⟩ := hcy.form
  have hv1 : ∀ w', Below w.heap.size w w' → HV w' (.agg #[.int .u8 (x.k : Int), .int .i64 x.n, .string (S x.t), .slice a x.ns.length ca, .slice b x.is.length cb]) x := fun w' h => ⟨_, rfl, HC.below h x _ hc⟩
  have hy1 : ∀ w', Below w.heap.size w w' → HV w' (.agg #[.int .u8 (y.k : Int), .int .i64 y.n, .string (S y.t), .slice ya y.ns.length yca, .slice yb y.is.length ycb]) y := fun w' h => ⟨_, rfl, HC.below h y _ hcy⟩
  obtain ⟨q, hq⟩ : ∃ q, (x.ns.length == x.is.length && Jn.rise x.ns) = q := ⟨_, rfl⟩
  have cC := fun w' h => copy_any _ x (Nat.le_refl _) hwt w' _ (hv1 w' h)
  have cQ := fun w' h => isSorted_any x w' _ (hv1 w' h) (by omega) hq
  have cY := fun w' h => copy_any _ y (Nat.le_refl _) hwy w' _ (hy1 w' h)
  have hr2 : x.ns.length ≤ 45000 := by omega
  have hm2 : x.is.length ≤ 22500 := by omega
  obtain ⟨y0, hy0⟩ : ∃ z : Value, z = .int .u8 (y.k : Int) := ⟨_, rfl⟩
  obtain ⟨y1, hy1'⟩ : ∃ z : Value, z = .int .i64 y.n := ⟨_, rfl⟩
  obtain ⟨y2, hy2⟩ : ∃ z : Value, z = .string (S y.t) := ⟨_, rfl⟩
  obtain ⟨y3, hy3⟩ : ∃ z : Value, z = .slice ya y.ns.length yca := ⟨_, rfl⟩
  obtain ⟨y4, hy4⟩ : ∃ z : Value, z = .slice yb y.is.length ycb := ⟨_, rfl⟩
  rw [← hy0, ← hy1', ← hy2, ← hy3, ← hy4] at cY
  rw [← hy0, ← hy1', ← hy2, ← hy3, ← hy4]
  obtain ⟨kI, hk⟩ : ∃ z : Int, z = (x.k : Int) := ⟨_, rfl⟩
  obtain ⟨nI, hn⟩ : ∃ z : Int, z = x.n := ⟨_, rfl⟩
  obtain ⟨t, ht⟩ : ∃ z, z = x.t := ⟨_, rfl⟩
  obtain ⟨m, hm⟩ : ∃ m, x.is.length = m := ⟨_, rfl⟩
  obtain ⟨r, hr⟩ : ∃ m, x.ns.length = m := ⟨_, rfl⟩
  rw [hm, hr, ← hk, ← hn, ← ht] at cC cQ
  rw [hm, hr, ← hk, ← hn, ← ht]
  have HM := Lib.hid hm
  have HR := Lib.hid hr
  have HK := Lib.hid hk
  have HNn := Lib.hid hn
  have HT := Lib.hid ht
  have HB := Lib.hid hB
  have HQ := Lib.hid hq
  have CC := Lib.hid cC
  have CY := Lib.hid cY
  have HR2 := Lib.hid (And.intro hr2 hm2)
  clear hwe hnl hil hic hv1 hy1 hm hr hc hB hk hn ht hN hI cC cY hcy hy0 hy1' hy2 hy3 hy4 hr2 hm2
  obtain ⟨W1, hW1⟩ : ∃ W, W = w.alloc (.cells #[.int .u8 kI, .int .i64 nI, .string (S t), .slice a r ca, .slice b m cb] 25) := ⟨_, rfl⟩
  obtain ⟨W2, hW2⟩ : ∃ W, W = W1.alloc (.cells #[y0, y1, y2, y3, y4] 25) := ⟨_, rfl⟩
  obtain ⟨W3, hW3⟩ : ∃ W, W = W2.alloc (.cells #[.int .u8 0, .int .i64 0, .string ⟨#[]⟩, .slice none 0 0, .slice none 0 0] 25) := ⟨_, rfl⟩
  have b1 : Below w.heap.size w W1 := by rw [hW1]; exact (Below.refl _ _).alloc (Nat.le_refl _) _
  have b12 : Below W1.heap.size W1 W2 := by rw [hW2]; exact (Below.refl _ _).alloc (Nat.le_refl _) _
  have b23 : Below W2.heap.size W2 W3 := by rw [hW3]; exact (Below.refl _ _).alloc (Nat.le_refl _) _
  have V1 : VAt w.heap.size W1 (.int .u8 kI) (.int .i64 nI) (.string (S t)) (.slice a r ca) (.slice b m cb) := by rw [hW1]; exact VAt.new ..
  have V2 : VAt W1.heap.size W2 y0 y1 y2 y3 y4 := by rw [hW2]; exact VAt.new ..
  have V3 : VAt W2.heap.size W3 (.int .u8 0) (.int .i64 0) (.string ⟨#[]⟩) (.slice none 0 0) (.slice none 0 0) := by rw [hW3]; exact VAt.new ..
  have e1 : W1.heap.size = w.heap.size + 1 := by rw [hW1]; simp
  have e2 : W2.heap.size = w.heap.size + 2 := by rw [hW2]; simp [e1]
  have e3 : W3.heap.size = w.heap.size + 3 := by rw [hW3]; simp [e2]
  rw [e1] at V2
  rw [e2] at V3
  have V1 := (V1.below b12).below b23
  have V2 := V2.below b23
  have c3 := (b1.trans (b12.mono b1.size)).trans (b23.mono (b1.trans (b12.mono b1.size)).size)
  have CQ := cQ W3 c3
  have C3 := Lib.hid c3
  have HE3 := Lib.hid e3
  have HV1 := Lib.hid V1
  have HV2 := Lib.hid V2
  have HV3 := Lib.hid V3
  have HZ : Hid (∀ B w, HO B w (.agg #[.int .u8 0, .int .i64 0, .string ⟨#[]⟩, .slice none 0 0, .slice none 0 0]) JV.zero) := HO.zero
  obtain ⟨⟨p0, p1, p2, p3, p4⟩, pf⟩ := V1.cells
  obtain ⟨⟨q0, q1, q2, q3, q4⟩, qf⟩ := V3.cells
  clear b1 b12 b23 e1 e2 e3 V1 V2 V3 cQ c3 pf
  by_cases h1 : kI ≠ 5
  · have hb : (kI != 5) = true := bne_iff_ne.2 h1
    have HG : Hid (x.put l y = (JV.zero, 10)) := if_neg (by have := HK.out; omega)
    clear h1
    go_enter Try.func24, Try.ntmps24
    go_wp2_with fail
    rw [← hW1, ← hW2, ← hW3]
    clear hW1 hW2 hW3
    refine bodyPost_ret (results_val (fn := Try.f24) (t := 6) (u := 7) rfl _ _ rfl HV3.out rfl) rfl ?_
    rw [HG.out]
    exact ⟨⟨_, rfl, HZ.out _ _⟩, C3.out⟩
  obtain rfl : kI = 5 := Classical.not_not.1 h1
  have HK5 : Hid (x.k = 5) := by have := HK.out; show x.k = 5; omega
  clear h1
  cases q with
  | false =>
    have HG : Hid (x.put l y = (JV.zero, 3)) := by
      unfold Hid JV.put
      rw [if_pos HK5.out, if_neg (by rw [HQ.out]; exact Bool.false_ne_true)]
    clear hq
    go_enter Try.func24, Try.ntmps24
    go_wp2_with fail
    rw [← hW1, ← hW2, ← hW3]
    clear hW1 hW2 hW3
    go_wp2_with fail
    refine CQ.mono ?_; rintro e w4 ⟨rfl, b4⟩
    have HV3 := Lib.hid (HV3.out.below b4)
    have c4 := C3.out.trans (b4.mono C3.out.size)
    clear q0 q1 q2 q3 q4 qf
    obtain ⟨⟨q0, q1, q2, q3, q4⟩, qf⟩ := HV3.out.cells
    go_wp2_with fail
    refine bodyPost_ret (results_val (fn := Try.f24) (t := 6) (u := 7) rfl _ _ rfl (HV3.out.set5 _ _ _ _ _) rfl) rfl ?_
    rw [HG.out]
    exact ⟨⟨_, rfl, HZ.out _ _⟩, below_val (b := w.heap.size + 2) c4 (by omega) _ _ _ _ _⟩
  | true =>
  have hq2 : x.ns.length = x.is.length ∧ Jn.rise x.ns = true := by
    rw [Bool.and_eq_true, beq_iff_eq] at hq
    exact hq
  have HL : Hid (x.ns.length = x.is.length ∧ Jn.rise x.ns = true) := hq2
  have HG : Hid (x.put l y = (.mk 5 x.n x.t (JV.putN x.ns l) (JV.putI x.ns l x.is y), 0)) := by
    unfold Hid JV.put
    rw [if_pos HK5.out, if_pos HQ.out]
  clear hq hq2
  go_enter Try.func24, Try.ntmps24
  go_wp2_with fail
  rw [← hW1, ← hW2, ← hW3]
  clear hW1 hW2 hW3
  go_wp2_with fail
  refine CQ.mono ?_; rintro e w4 ⟨rfl, b4⟩
  have c4 := C3.out.trans (b4.mono C3.out.size)
  have hs4 : w.heap.size + 3 ≤ w4.heap.size := by rw [← HE3.out]; exact b4.size
  have HV1 := Lib.hid (HV1.out.below b4)
  have HV2 := Lib.hid (HV2.out.below b4)
  have HV3 := Lib.hid (HV3.out.below b4)
  clear p0 p1 p2 p3 p4 q0 q1 q2 q3 q4 qf
  obtain ⟨⟨p0, p1, p2, p3, p4⟩, _⟩ := HV1.out.cells
  go_wp2_with fail
  refine (CC.out w4 c4).mono ?_; rintro e w5 ⟨⟨uo, rfl, hO⟩, b5⟩
  have c5 := c4.trans (b5.mono c4.size)
  have hs5 := b5.size
  obtain ⟨ob, hob⟩ : ∃ ob, ob = w5.heap.size := ⟨_, rfl⟩
  obtain ⟨nv, xv, cs, rfl, _, o1, o2, o3⟩ := hO
  obtain ⟨oa, oca, rfl⟩ := own_form2 o1
  obtain ⟨obb, ocb, rfl⟩ := own_form2 o2
  obtain ⟨W6, hW6⟩ : ∃ W, W = w5.alloc (.cells #[.int .u8 (x.k : Int), .int .i64 x.n, .string (S x.t), .slice oa x.ns.length oca, .slice obb x.is.length ocb] 25) := ⟨_, rfl⟩
  have b56 : Below w5.heap.size w5 W6 := by rw [hW6]; exact (Below.refl _ _).alloc (Nat.le_refl _) _
  have V6 : VAt w5.heap.size W6 (.int .u8 (x.k : Int)) (.int .i64 x.n) (.string (S x.t)) (.slice oa x.ns.length oca) (.slice obb x.is.length ocb) := by rw [hW6]; exact VAt.new ..
  have e6 : W6.heap.size = w5.heap.size + 1 := by rw [hW6]; simp
  rw [← hob] at V6
  have h1 := c5.trans (b56.mono c5.size)
  have h2 := (HV2.out.below b5).below b56
  have h3 := (HV3.out.below b5).below b56
  have h4 : ob < W6.heap.size := by omega
  have h5 : w.heap.size + 2 < w4.heap.size := by omega
  have h6 : w4.heap.size ≤ ob := by omega
  have g2 : W6.ownsRow w4.heap.size 9 1 (.slice oa x.ns.length oca) x.ns.length (NC x.ns) := own_stay o1 fun k e => b56.block k (o1.lt k e).2
  have g3 : W6.ownsRow w4.heap.size 25 5 (.slice obb x.is.length ocb) x.is.length cs := own_stay o2 fun k e => b56.block k (o2.lt k e).2
  have g4 : some ob ≠ (Value.slice oa x.ns.length oca).ownBlock := fun e => by
    have := (o1.lt ob e.symm).2
    omega
  have g5 : some ob ≠ (Value.slice obb x.is.length ocb).ownBlock := fun e => by
    have := (o2.lt ob e.symm).2
    omega
  have g6 : HCSp (fun k => w4.heap.size ≤ k ∧ k ≠ ob ∧ some k ≠ (Value.slice oa x.ns.length oca).ownBlock ∧ some k ≠ (Value.slice obb x.is.length ocb).ownBlock) W6 cs x.is := HCSp.stay (fun k hk hl => ⟨⟨hk.1, by omega, hk.2⟩, b56.block k hl⟩) _ _ o3
  have hNS : NS W6 oa x.ns := by
    obtain ⟨a', ca', e, h⟩ := NS.of_own g2
    obtain ⟨rfl, _⟩ : oa = a' ∧ oca = ca' := by simpa using e
    exact h
  obtain ⟨f, hf⟩ : ∃ f, Jn.has x.ns l = f := ⟨_, rfl⟩
  have cP := place_any x.ns l oa oca W6 HL.out.2 hNS (by have := HR2.out.1; omega) hf
  obtain ⟨B, hBe⟩ : ∃ B, B = w4.heap.size := ⟨_, rfl⟩
  rw [← hBe] at h5 h6 g2 g3 g6
  have HF := Lib.hid hf
  obtain ⟨p, hp⟩ : ∃ p, Jn.pos x.ns l = p := ⟨_, rfl⟩
  rw [hp] at cP
  have HP := Lib.hid hp
  have hpl : p ≤ x.ns.length := by rw [← hp]; exact Jn.pos_le l x.ns
  obtain ⟨⟨z0, z1, z2, z3, z4⟩, _⟩ := V6.cells
  rw [hW6] at z3
  have HPL := Lib.hid hpl
  clear o1 o2 o3 p0 p1 p2 p3 p4 z0 z1 z2 z4 b4 b5 hs5 c4 hs4 c5 e6 b56 hBe hf hp hpl hNS
  have H1 := Lib.hid h1
  have H2 := Lib.hid h2
  have H3 := Lib.hid h3
  have HG1 := Lib.hid V6
  have HG2 := Lib.hid g2
  have HG3 := Lib.hid g3
  have HG4 := Lib.hid g4
  have HG5 := Lib.hid g5
  have HG6 := Lib.hid g6
  clear h1 h2 h3 V6 g2 g3 g4 g5 g6
  go_wp2_with fail
  rw [← hW6, ← hob]
  clear hW6 hob z3
  refine cP.mono ?_; rintro e w7 ⟨rfl, b7⟩
  -- what stands behind the search
  have h1 := H1.out.trans (b7.mono H1.out.size)
  have h2 := H2.out.below b7
  have h3 := H3.out.below b7
  have h4' : ob < w7.heap.size := Nat.lt_of_lt_of_le h4 b7.size
  have g1 := HG1.out.below b7
  have g2 := own_stay HG2.out fun k e => b7.block k (HG2.out.lt k e).2
  have g3 := own_stay HG3.out fun k e => b7.block k (HG3.out.lt k e).2
  have g6 := HCSp.stay (fun b h hl => ⟨h, b7.block b hl⟩) _ _ HG6.out
  have HJ : Hid (JB 5 x.n x.t (JV.putN x.ns l) (JV.putI x.ns l x.is y).length) := by
    obtain ⟨j1, j2, j3, j4, j5, j6⟩ := HB.out
    have hr := HR2.out.1
    have hl1 := (JV.putI_len (l := l) (y := y) HL.out.1).1
    have hN : (JV.putN x.ns l).length ≤ 45001 := by
      unfold JV.putN
      split
      · omega
      · simp only [List.length_append, List.length_take, List.length_drop, List.length_cons, List.length_nil]
        omega
    refine ⟨by omega, j2, j3, by unfold maxLen; omega, by rw [hl1]; unfold maxLen; omega, fun z hz => ?_⟩
    unfold JV.putN at hz
    split at hz
    · exact j6 z hz
    · simp only [List.mem_append, List.mem_singleton] at hz
      rcases hz with (hz | rfl) | hz
      · exact j6 z (List.mem_of_mem_take hz)
      · exact hll
      · exact j6 z (List.mem_of_mem_drop hz)
  cases f with
  | true =>
    have HN : Hid (JV.putN x.ns l = x.ns ∧ JV.putI x.ns l x.is y = x.is.take p ++ [y] ++ x.is.drop (p + 1) ∧ p < x.is.length) := by
      have h9 := (JV.putI_len (l := l) (y := y) HL.out.1).2.2
      unfold JV.putI JV.roomI at *
      rw [if_pos HF.out, HP.out] at *
      exact ⟨if_pos HF.out, rfl, h9⟩
    obtain ⟨gg, cap, e, _⟩ := own_form g3 (by have := HN.out.2.2; omega)
    obtain ⟨rfl, rfl⟩ : obb = some ⟨gg, 0, none⟩ ∧ ocb = cap := by simpa using e
    have cYd := (CY.out w7.drew h1.drew).mono (R' := fun e w' => (∃ u, e = .returned u ∧ HO w7.heap.size w' u y) ∧ Below w7.heap.size w7 w') fun e w' ⟨h1, h2⟩ => ⟨h1, (below_drew _).trans h2⟩
    go_wp2_with fail
    refine region_put 44 8 9 5 (by kernel_rfl) (by kernel_rfl) (by simp) (by omega) (by omega) (by omega) rfl rfl rfl g1 h2 cYd g3 HN.out.2.2 (fun f w' d0 d1 d2 d3 d4 r1 r2 r3 => ?_)
    obtain ⟨f1, f2, f3, f4⟩ := wt_fin h1 h3 h4' h5 g1 g2 g3 HG5.out g6 r1 r2 r3 HN.out.2.2
    have F4 := Lib.hid f4
    have F3 := Lib.hid f3
    have F2 := Lib.hid f2
    obtain ⟨⟨y0', y1', y2', y3', y4'⟩, yf⟩ := f1.cells
    obtain ⟨⟨q0, q1, q2, q3, q4⟩, qf⟩ := f2.cells
    clear h1 h2 h3 g1 g2 g3 g6 r1 r2 r3 f1 f2 f3 f4 cYd
    rw [putR_lit]
    simp only [putL, pPut, Nat.reduceAdd, Nat.reduceLeDiff, decide_true, decide_false, Bool.and_true, Bool.and_false, cond_true, cond_false, Nat.zero_add, Nat.le_refl]
    go_wp2_with fail
    refine bodyPost_ret (results_val (fn := Try.f24) (t := 6) (u := 7) rfl _ _ rfl (F2.out.set5 _ _ _ _ _) rfl) rfl ?_
    rw [HG.out]
    have HO5 := F4.out 5 x.n x.t (by have := HJ.out; rw [HN.out.1, HN.out.2.1] at this; exact this)
    refine ⟨⟨_, ret_put rfl rfl, ?_⟩, below_val (b := w.heap.size + 2) F3.out (by omega) _ _ _ _ _⟩
    rw [HN.out.1, HN.out.2.1]
    have hk5 := HK5.out
    simp only [hk5] at *
    exact HO5 _ _ _ _ _
  | false =>
    have HN : Hid (JV.putN x.ns l = x.ns.take p ++ [l] ++ x.ns.drop p ∧ JV.putI x.ns l x.is y = (x.is.take p ++ [JV.zero] ++ x.is.drop p).take p ++ [y] ++ (x.is.take p ++ [JV.zero] ++ x.is.drop p).drop (p + 1) ∧ p < (x.is.take p ++ [JV.zero] ++ x.is.drop p).length ∧
        (x.ns.take p ++ [l] ++ x.ns.drop p).length = x.ns.length + 1 ∧ (x.is.take p ++ [JV.zero] ++ x.is.drop p).length = x.is.length + 1) := by
      have h9 := (JV.putI_len (l := l) (y := y) HL.out.1).2.2
      have hpl := HPL.out
      have hll := HL.out.1
      have hne : ¬ Jn.has x.ns l = true := by rw [HF.out]; exact Bool.false_ne_true
      unfold JV.roomI at h9
      rw [if_neg hne, HP.out] at h9
      refine ⟨by unfold JV.putN; rw [if_neg hne, HP.out], by unfold JV.putI JV.roomI; rw [if_neg hne, HP.out], h9, ?_, ?_⟩
      · simp only [List.length_append, List.length_take, List.length_drop, List.length_cons, List.length_nil]
        omega
      · simp only [List.length_append, List.length_take, List.length_drop, List.length_cons, List.length_nil]
        omega
    have hF : WtF B ob w w7 (.int .u8 (x.k : Int)) (.int .i64 x.n) (.string (S x.t)) y0 y1 y2 y3 y4 x.ns x.is oa oca obb ocb cs := ⟨h1, h2, h3, h4', h5, h6, g1, g2, g3, HG4.out, HG5.out, g6⟩
    obtain ⟨⟨z0, z1, z2, z3, z4⟩, zf⟩ := g1.cells
    have hB7 : B ≤ w7.heap.size := by omega
    have ba : Below w7.heap.size w7 (w7.alloc (.cells #[.string (S l)] 9)) := (Below.refl _ _).alloc (Nat.le_refl _) _
    have hFa := hF.mem ba
    have hle := HR2.out
    have cI := insert_names_any B x.ns.length p _ (NC x.ns) w7.heap.size l _ hFa.n (by simp; omega) (by omega) HPL.out (NC_one _) (heap_alloc_new w7 _) (fun e => by have := (g2.lt _ e.symm).2; omega)
    have HFa := Lib.hid hFa
    clear h1 h2 h3 h4 h4' g1 g2 g3 g6 hF hFa hle z0 z1 z2 z4 zf
    go_wp2_with fail
    refine cI.mono ?_; rintro e w8 ⟨⟨nv8, rfl, f1, f3⟩, f2⟩
    rw [← HN.out.2.2.2.1, ← JV.NC_ins] at f1
    obtain ⟨ns', hns'⟩ : ∃ z, z = x.ns.take p ++ [l] ++ x.ns.drop p := ⟨_, rfl⟩
    obtain ⟨is', his'⟩ : ∃ z, z = x.is.take p ++ [JV.zero] ++ x.is.drop p := ⟨_, rfl⟩
    rw [← hns'] at f1 HN
    rw [← his'] at HN
    have HIS := Lib.hid his'
    clear hns' his'
    obtain ⟨na, nca, rfl⟩ := own_form2 f1
    obtain ⟨hO8, hF9⟩ := WtF.names HFa.out f1 f2 f3
    obtain ⟨⟨z0, z1, z2, z3', z4⟩, zf⟩ := hO8.cells
    have u4 := hF9.o.cells.1.2.2.2.2
    have hs9 : B ≤ w8.heap.size := by have := hF9.size; simp at this; omega
    have ba9 : Below (w8.setCell ⟨ob, 3, none⟩ (.slice na ns'.length nca)).heap.size (w8.setCell ⟨ob, 3, none⟩ (.slice na ns'.length nca)) ((w8.setCell ⟨ob, 3, none⟩ (.slice na ns'.length nca)).alloc (.cells V5 25)) := (Below.refl _ _).alloc (Nat.le_refl _) _
    have hFb := hF9.mem ba9
    have hle := HR2.out
    have hvb : ((w8.setCell ⟨ob, 3, none⟩ (.slice na ns'.length nca)).alloc (.cells V5 25)).heap[w8.heap.size]? = some (.cells V5 25 (0, 0)) := by
      have := heap_alloc_new (w8.setCell ⟨ob, 3, none⟩ (.slice na ns'.length nca)) (.cells V5 25)
      rwa [show (w8.setCell ⟨ob, 3, none⟩ (.slice na ns'.length nca)).heap.size = w8.heap.size by simp] at this
    have cJ := insert_items_any B x.is.length p _ cs w8.heap.size _ hFb.i (by simp; omega) (by omega) (by have := HPL.out; have := HL.out.1; omega) (HCSp.ones hFb.hc) hvb (fun e => by have := (hF9.i.lt _ e.symm).2; simp at this)
    unfold V5 at cJ
    have HFb := Lib.hid hFb
    clear HFa hFb hF9 hs9 ba9 hle f1 f2 f3 hO8 cI ba hB7 hvb
    go_wp2_with fail
    refine cJ.mono ?_; rintro e w10 ⟨⟨xv10, rfl, f1, f3⟩, f2⟩
    rw [← HN.out.2.2.2.2] at f1
    obtain ⟨nb, ncb, rfl⟩ := own_form2 f1
    obtain ⟨hO10, hF11⟩ := WtF.items HFb.out f1 f2 f3 (fun P w3 h => by
      rw [HIS.out]
      exact HCSp.app (HCSp.app (HCSp.take p h) (HCSp.one (HCp.zero P w3))) (HCSp.drop p h))
    obtain ⟨⟨q0, q1, q2, q3, q4⟩, qf⟩ := hO10.cells
    have HF11 := Lib.hid hF11
    clear HFb f1 f2 f3 hO10 hF11 cJ z0 z1 z2 z3' z4 zf u4
    go_wp2_with fail
    clear q0 q1 q2 q3 q4 qf
    obtain ⟨w11, hw11⟩ : ∃ w11, w11 = w10.setCell ⟨ob, 4, none⟩ (.slice nb is'.length ncb) := ⟨_, rfl⟩
    rw [← hw11] at HF11
    rw [← hw11]
    clear hw11
    obtain ⟨h1, h2, h3, h4, _, _, g1, g2, g3, g4, g5, g6⟩ := HF11.out
    obtain ⟨gg, cap, e, _⟩ := own_form g3 (by have := HN.out.2.2.1; omega)
    obtain ⟨rfl, rfl⟩ : nb = some ⟨gg, 0, none⟩ ∧ ncb = cap := by simpa using e
    have cYd := (CY.out w11.drew h1.drew).mono (R' := fun e w' => (∃ u, e = .returned u ∧ HO w11.heap.size w' u y) ∧ Below w11.heap.size w11 w') fun e w' ⟨h1, h2⟩ => ⟨h1, (below_drew _).trans h2⟩
    refine region_put 44 8 9 5 (by kernel_rfl) (by kernel_rfl) (by simp) (by omega) (by omega) (by omega) rfl rfl rfl g1 h2 cYd g3 HN.out.2.2.1 (fun f w' d0 d1 d2 d3 d4 r1 r2 r3 => ?_)
    obtain ⟨f1, f2, f3, f4⟩ := wt_fin h1 h3 h4 h5 g1 g2 g3 g5 g6 r1 r2 r3 HN.out.2.2.1
    have F4 := Lib.hid f4
    have F3 := Lib.hid f3
    have F2 := Lib.hid f2
    obtain ⟨⟨y0', y1', y2', y3', y4'⟩, yf⟩ := f1.cells
    obtain ⟨⟨q0, q1, q2, q3, q4⟩, qf⟩ := f2.cells
    clear h1 h2 h3 g1 g2 g3 g6 r1 r2 r3 f1 f2 f3 f4 cYd e
    rw [putR_lit]
    simp only [putL, pPut, Nat.reduceAdd, Nat.reduceLeDiff, decide_true, decide_false, Bool.and_true, Bool.and_false, cond_true, cond_false, Nat.zero_add, Nat.le_refl]
    go_wp2_with fail
    refine bodyPost_ret (results_val (fn := Try.f24) (t := 6) (u := 7) rfl _ _ rfl (F2.out.set5 _ _ _ _ _) rfl) rfl ?_
    rw [HG.out]
    have HO5 := F4.out 5 x.n x.t (by have := HJ.out; rw [HN.out.1, HN.out.2.1] at this; exact this)
    refine ⟨⟨_, ret_put rfl rfl, ?_⟩, below_val (b := w.heap.size + 2) F3.out (by omega) _ _ _ _ _⟩
    rw [HN.out.1, HN.out.2.1]
    have hk5 := HK5.out
    simp only [hk5] at *
    exact HO5 _ _ _ _ _
end Go.Proofs.Ytcmalaabggohmaa
