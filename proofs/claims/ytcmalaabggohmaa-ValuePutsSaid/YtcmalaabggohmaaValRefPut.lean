/-
  What the document's With comes to: the walk.
-/
import Derived.Test.YtcmalaabggohmaaValPutsM
import Derived.Test.YtcmalaabggohmaaValRefWo2
namespace Go.Proofs.Ytcmalaabggohmaa
open Go.RowKit

/-- what the loop keeps: nothing of what came in has turned; the new value's block; its rows are the call's own -/
structure WpI (ob : Nat) (w wr : World) (nI : Int) (t : List UInt8) (v0 v1 v2 v3 v4 x0 x1 x2 x3 x4 : Value) (ns : List (List UInt8)) (is : List JV) : Prop where
  below : Below w.heap.size w wr
  hv : VAt w.heap.size wr v0 v1 v2 v3 v4
  hx : VAt (w.heap.size + 1) wr x0 x1 x2 x3 x4
  hr : VAt (w.heap.size + 2) wr (.int .u8 0) (.int .i64 0) (.string ⟨#[]⟩) (.slice none 0 0) (.slice none 0 0)
  size : ob + 1 ≤ wr.heap.size
  at3 : w.heap.size + 3 ≤ ob
  own : ∃ nv xv cs, VAt (ob) wr (.int .u8 5) (.int .i64 nI) (.string (S t)) nv xv ∧ wr.ownsRow (ob + 1) 9 1 nv ns.length (NC ns) ∧
    wr.ownsRow (ob + 1) 25 5 xv is.length cs ∧ HCS w cs is
theorem own_slice {w : World} {B : Nat} {e : TypeId} {sz : Nat} {v : Value} {n : Nat} {xs : List Value} (h : w.ownsRow B e sz v n xs) : ∃ p l k, v = .slice p l k := by
  rcases h.2 with ⟨rfl, _⟩ | ⟨g, cap, _, rfl, _⟩
  · exact ⟨_, _, _, rfl⟩
  · exact ⟨_, _, _, rfl⟩
/-- a name more, and an Item -/
theorem WpI.more {ob : Nat} {w wr : World} {nI : Int} {t : List UInt8} {v0 v1 v2 v3 v4 x0 x1 x2 x3 x4 : Value} {ns : List (List UInt8)} {is : List JV} {y : JV} (l : List UInt8) (h : WpI ob w wr nI t v0 v1 v2 v3 v4 x0 x1 x2 x3 x4 ns is) (hy : HC w [x0, x1, x2, x3, x4] y) (hn : ns.length ≤ 80000) (hi : is.length ≤ 80000) (ty ty' : TypeId) :
    ∃ nv xv pa la ka w2 pb lb kb w3, VAt (ob) wr (.int .u8 5) (.int .i64 nI) (.string (S t)) nv xv ∧
      (Builtin.append_ #[22, 22] ty #[nv, .slice (some ⟨wr.heap.size, 0, none⟩) 1 1]).run Try.prog (wr.alloc (.cells #[.string (S l)] 9)) = .ok (.slice pa la ka) w2 ∧
      VAt (ob) w2 (.int .u8 5) (.int .i64 nI) (.string (S t)) nv xv ∧
      VAt (ob) (w2.setCell ⟨ob, 3, none⟩ (.slice pa la ka)) (.int .u8 5) (.int .i64 nI) (.string (S t)) (.slice pa la ka) xv ∧
      VAt (w.heap.size + 1) (w2.setCell ⟨ob, 3, none⟩ (.slice pa la ka)) x0 x1 x2 x3 x4 ∧
      (Builtin.append_ #[23, 23] ty' #[xv, .slice (some ⟨w2.heap.size, 0, none⟩) 1 1]).run Try.prog ((w2.setCell ⟨ob, 3, none⟩ (.slice pa la ka)).alloc (.cells #[x0, x1, x2, x3, x4] 25)) = .ok (.slice pb lb kb) w3 ∧
      VAt (ob) w3 (.int .u8 5) (.int .i64 nI) (.string (S t)) (.slice pa la ka) xv ∧
      WpI ob w (w3.setCell ⟨ob, 4, none⟩ (.slice pb lb kb)) nI t v0 v1 v2 v3 v4 x0 x1 x2 x3 x4 (ns ++ [l]) (is ++ [y]) := by
  obtain ⟨h1, h2, h3, h4, h5, hob, nv, xv, cs, hO, o1, o2, hcs⟩ := h
  obtain ⟨i0, hi0, hz0, hz1, hz2⟩ := info_parts info_name
  obtain ⟨i5, hi5, hz5, hz51, hz52⟩ := info_parts info_val
  have hN : ob + 1 ≤ wr.heap.size := h5
  -- the name
  have ba : Below wr.heap.size wr (wr.alloc (.cells #[.string (S l)] 9)) := (Below.refl _ _).alloc (Nat.le_refl _) _
  obtain ⟨vA, w2, hr1, p1, g1, _⟩ := run_append_own (P := Try.prog) (wr.alloc (.cells #[.string (S l)] 9)) (ob + 1) 22 ty 9 i0 (.string ⟨#[]⟩) 1 16 Try.underlying22 hi0 hz0 hz1 hz2 rfl (by decide) _ ns.length (NC ns) (o1.alloc _) ⟨wr.heap.size, 0, none⟩ 1 1 [.string (S l)] rfl
    (World.news_of_block (cs := #[.string (S l)]) (t := 9) (fr := (0, 0)) (heap_alloc_new wr _)) (by simp [Value.oneCell']) (by unfold maxLen; omega) (by omega) (by simp; omega)
  obtain ⟨pa, la, ka, rfl⟩ := own_slice p1
  have st2 : ∀ k, k < wr.heap.size → some k ≠ nv.ownBlock → w2.heap[k]? = wr.heap[k]? := fun k hk he => (g1.block k (Nat.lt_of_lt_of_le hk ba.size) he).trans (ba.block k hk)
  have nlt : ∀ k, nv.ownBlock = some k → ob + 1 ≤ k := fun k e => (o1.lt k e).1
  have xlt : ∀ k, xv.ownBlock = some k → ob + 1 ≤ k := fun k e => (o2.lt k e).1
  have lowN : ∀ k, k < ob + 1 → some k ≠ nv.ownBlock := fun k hk e => by have := nlt k e.symm; omega
  have lowX : ∀ k, k < ob + 1 → some k ≠ xv.ownBlock := fun k hk e => by have := xlt k e.symm; omega
  have s2 : wr.heap.size + 1 ≤ w2.heap.size := by have := g1.size; simpa using this
  have O2 : VAt (ob) w2 (.int .u8 5) (.int .i64 nI) (.string (S t)) nv xv := (st2 _ (by omega) (lowN _ (by omega))).trans hO
  have O2' := O2.set3 (.slice pa la ka)
  have X2 : VAt (w.heap.size + 1) (w2.setCell ⟨ob, 3, none⟩ (.slice pa la ka)) x0 x1 x2 x3 x4 := (heap_setCell_other w2 ⟨ob, 3, none⟩ _ _ (by show w.heap.size + 1 ≠ ob; omega)).trans ((st2 _ (by omega) (lowN _ (by omega))).trans h3)
  -- the Item
  obtain ⟨W2, hW2⟩ : ∃ W, W = w2.setCell ⟨ob, 3, none⟩ (.slice pa la ka) := ⟨_, rfl⟩
  have sW : W2.heap.size = w2.heap.size := by rw [hW2]; simp
  have stW : ∀ k, k < w2.heap.size → k ≠ ob → W2.heap[k]? = w2.heap[k]? := fun k _ hne => by rw [hW2]; exact heap_setCell_other w2 ⟨ob, 3, none⟩ k _ hne
  have pW : W2.ownsRow (ob + 1) 9 1 (.slice pa la ka) (ns.length + 1) (NC ns ++ [.string (S l)]) := by rw [hW2]; exact ownsRow_setCell_below (a := ⟨ob, 3, none⟩) p1 (by show ob < _; omega) _
  have oW : W2.ownsRow (ob + 1) 25 5 xv is.length cs := by
    have hx2 : w2.ownsRow (ob + 1) 25 5 xv is.length cs := by
      obtain ⟨q1, q2⟩ := id o2
      refine ⟨q1, ?_⟩
      rcases q2 with q2 | ⟨gg, cap, cur, rfl, q3, q4, q5⟩
      · exact .inl q2
      · exact .inr ⟨gg, cap, cur, rfl, q3, (st2 gg (Array.getElem?_eq_some_iff.1 q4).1 (own_apart o2 o1 (by decide) gg rfl)).trans q4, q5⟩
    rw [hW2]
    exact ownsRow_setCell_below (a := ⟨ob, 3, none⟩) hx2 (by show ob < _; omega) _
  rw [← hW2] at O2' X2
  have hform := hy.form
  obtain ⟨ya, yb, yca, ycb, hcf, _⟩ := hform
  simp only [List.cons.injEq, and_true] at hcf
  have hone : ∀ u ∈ [x0, x1, x2, x3, x4], u.oneCell' = true := fun u hu => by
    obtain ⟨rfl, rfl, rfl, rfl, rfl⟩ := hcf
    simp only [List.mem_cons, List.not_mem_nil, or_false] at hu
    rcases hu with rfl | rfl | rfl | rfl | rfl <;> rfl
  have bb : Below W2.heap.size W2 (W2.alloc (.cells #[x0, x1, x2, x3, x4] 25)) := (Below.refl _ _).alloc (Nat.le_refl _) _
  obtain ⟨vB, w3, hr2, p2, g2, _⟩ := run_append_own (P := Try.prog) (W2.alloc (.cells #[x0, x1, x2, x3, x4] 25)) (ob + 1) 23 ty' 25 i5 (.agg V5) 5 80 Try.underlying23 hi5 hz5 hz51 hz52 rfl (by decide) _ is.length cs (oW.alloc _) ⟨W2.heap.size, 0, none⟩ 1 1 [x0, x1, x2, x3, x4] rfl
    (World.news_of_block (cs := #[x0, x1, x2, x3, x4]) (t := 25) (fr := (0, 0)) (heap_alloc_new W2 _)) hone (by unfold maxLen; omega) (by omega) (by simp; omega)
  obtain ⟨pb, lb, kb, rfl⟩ := own_slice p2
  have st3 : ∀ k, k < W2.heap.size → some k ≠ xv.ownBlock → w3.heap[k]? = W2.heap[k]? := fun k hk he => (g2.block k (Nat.lt_of_lt_of_le hk bb.size) he).trans (bb.block k hk)
  have s3 : W2.heap.size + 1 ≤ w3.heap.size := by have := g2.size; simpa using this
  have O3 : VAt (ob) w3 (.int .u8 5) (.int .i64 nI) (.string (S t)) (.slice pa la ka) xv := (st3 _ (by omega) (lowX _ (by omega))).trans O2'
  have low : ∀ {k : Nat}, k < ob → (w3.setCell ⟨ob, 4, none⟩ (.slice pb lb kb)).heap[k]? = wr.heap[k]? := fun {k} hk =>
    (heap_setCell_other w3 ⟨ob, 4, none⟩ k _ (by show k ≠ ob; omega)).trans ((st3 k (by omega) (lowX k (by omega))).trans ((stW k (by omega) (by omega)).trans (st2 k (by omega) (lowN k (by omega)))))
  rw [hW2] at hr2
  rw [show (w2.setCell ⟨ob, 3, none⟩ (.slice pa la ka)).heap.size = w2.heap.size by simp] at hr2
  refine ⟨nv, xv, pa, la, ka, w2, pb, lb, kb, w3, hO, hr1, O2, by rw [← hW2]; exact O2', by rw [← hW2]; exact X2, hr2, O3, ?_⟩
  refine ⟨?_, (low (by omega)).trans h2, (low (by omega)).trans h3, (low (by omega)).trans h4, by simp; omega, hob, .slice pa la ka, .slice pb lb kb, cs ++ [x0, x1, x2, x3, x4], O3.set4 _, ?_, ?_, HCS.snoc hy hcs⟩
  · refine ⟨?_, ?_, ?_, ?_, fun k hk => (low (by omega)).trans (h1.block k hk)⟩
    · have e := g2.os; rw [bb.os, hW2] at e; exact e.trans (g1.os.trans (ba.os.trans h1.os))
    · have e := g2.tape; rw [bb.tape, hW2] at e; exact e.trans (g1.tape.trans (ba.tape.trans h1.tape))
    · have e := g2.output; rw [bb.output, hW2] at e; exact e.trans (g1.output.trans (ba.output.trans h1.output))
    · simp; omega
  · have q : w3.ownsRow (ob + 1) 9 1 (.slice pa la ka) (ns.length + 1) (NC ns ++ [.string (S l)]) := by
      obtain ⟨q1, q2⟩ := id pW
      refine ⟨q1, ?_⟩
      rcases q2 with q2 | ⟨gg, cap, cur, e0, q3, q4, q5⟩
      · exact .inl q2
      · exact .inr ⟨gg, cap, cur, e0, q3, (st3 gg (Array.getElem?_eq_some_iff.1 q4).1 (own_apart pW oW (by decide) gg (by rw [e0]; rfl))).trans q4, q5⟩
    rw [List.length_append, List.length_singleton, NC_snoc]
    exact ownsRow_setCell_below (a := ⟨ob, 4, none⟩) q (by show ob < _; omega) _
  · rw [List.length_append, List.length_singleton]
    exact ownsRow_setCell_below (a := ⟨ob, 4, none⟩) p2 (by show ob < _; omega) _
/-- what a name that stands there leaves -/
def RN (x : JV) (l : List UInt8) (y : JV) (i : Nat) : Bool × List (List UInt8) × List JV := JV.run l y (false, [], []) (x.ns.take i) (x.is.take i)
set_option maxHeartbeats 8000000 in
set_option maxRecDepth 5000 in
theorem refPut_any (x y : JV) (l : List UInt8) (w : World) (u v : Value) (hv : HV w u x) (hy : HV w v y) (hlen : x.ns.length ≤ 19000) (hll : l.length ≤ maxLen) :
    Calls Try.prog 25 #[u, .string (S l), v] w fun e w' => ∃ u', e = .returned (.tuple #[u', .int .i64 (x.put l y).2]) ∧ HV w' u' (x.put l y).1 ∧ Below w.heap.size w w' := by
  obtain ⟨cs, rfl, hc⟩ := hv
  obtain ⟨a, b, ca, cb, rfl, hB, hN, hI⟩ := hc.form
  obtain ⟨cs, rfl, hcy⟩ := hy
  obtain ⟨ya, yb, yca, ycb, rfl, _⟩ := hcy.form
  obtain ⟨x0, hx0⟩ : ∃ z : Value, z = .int .u8 (y.k : Int) := ⟨_, rfl⟩
  obtain ⟨x1, hx1⟩ : ∃ z : Value, z = .int .i64 y.n := ⟨_, rfl⟩
  obtain ⟨x2, hx2⟩ : ∃ z : Value, z = .string (S y.t) := ⟨_, rfl⟩
  obtain ⟨x3, hx3⟩ : ∃ z : Value, z = .slice ya y.ns.length yca := ⟨_, rfl⟩
  obtain ⟨x4, hx4⟩ : ∃ z : Value, z = .slice yb y.is.length ycb := ⟨_, rfl⟩
  rw [← hx0, ← hx1, ← hx2, ← hx3, ← hx4] at hcy
  rw [← hx0, ← hx1, ← hx2, ← hx3, ← hx4]
  obtain ⟨m, hm⟩ : ∃ m, x.is.length = m := ⟨_, rfl⟩
  obtain ⟨r, hr⟩ : ∃ m, x.ns.length = m := ⟨_, rfl⟩
  have hr2 : (r : Int) ≤ 19000 := by omega
  obtain ⟨q, hq⟩ : ∃ q, Jn.rise x.ns = q := ⟨_, rfl⟩
  have cQ := fun W (h : Below w.heap.size w W) => refRise_any x.ns a ca W (hN.below h) (by omega)
  rw [hq, hr] at cQ
  rw [hm, hr]
  obtain ⟨kI, hk⟩ : ∃ z : Int, z = (x.k : Int) := ⟨_, rfl⟩
  obtain ⟨nI, hn⟩ : ∃ z : Int, z = x.n := ⟨_, rfl⟩
  obtain ⟨t, ht⟩ : ∃ z, z = x.t := ⟨_, rfl⟩
  rw [← hk, ← hn, ← ht]
  have HM := Lib.hid hm
  have HR := Lib.hid hr
  have HK := Lib.hid hk
  have HNn := Lib.hid hn
  have HT := Lib.hid ht
  have HB := Lib.hid hB
  have HQ := Lib.hid hq
  have HCY := Lib.hid hcy
  have HLL := Lib.hid hll
  clear hm hr hc hB hk hn ht hq hcy hx0 hx1 hx2 hx3 hx4 hll
  obtain ⟨W1, hW1⟩ : ∃ W, W = w.alloc (.cells #[.int .u8 kI, .int .i64 nI, .string (S t), .slice a r ca, .slice b m cb] 25) := ⟨_, rfl⟩
  obtain ⟨W2, hW2⟩ : ∃ W, W = W1.alloc (.cells #[x0, x1, x2, x3, x4] 25) := ⟨_, rfl⟩
  obtain ⟨W3, hW3⟩ : ∃ W, W = W2.alloc (.cells #[.int .u8 0, .int .i64 0, .string ⟨#[]⟩, .slice none 0 0, .slice none 0 0] 25) := ⟨_, rfl⟩
  have b1 : Below w.heap.size w W1 := by rw [hW1]; exact (Below.refl _ _).alloc (Nat.le_refl _) _
  have b12 : Below W1.heap.size W1 W2 := by rw [hW2]; exact (Below.refl _ _).alloc (Nat.le_refl _) _
  have b23 : Below W2.heap.size W2 W3 := by rw [hW3]; exact (Below.refl _ _).alloc (Nat.le_refl _) _
  have V1 : VAt w.heap.size W1 (.int .u8 kI) (.int .i64 nI) (.string (S t)) (.slice a r ca) (.slice b m cb) := by rw [hW1]; exact VAt.new ..
  have V2 : VAt W1.heap.size W2 x0 x1 x2 x3 x4 := by rw [hW2]; exact VAt.new ..
  have V3 : VAt W2.heap.size W3 (.int .u8 0) (.int .i64 0) (.string ⟨#[]⟩) (.slice none 0 0) (.slice none 0 0) := by rw [hW3]; exact VAt.new ..
  have e1 : W1.heap.size = w.heap.size + 1 := by rw [hW1]; simp
  have e2 : W2.heap.size = w.heap.size + 2 := by rw [hW2]; simp [e1]
  have e3 : W3.heap.size = w.heap.size + 3 := by rw [hW3]; simp [e2]
  rw [e1] at V2
  rw [e2] at V3
  have V1 := (V1.below b12).below b23
  have V2 := V2.below b23
  have c3 := (b1.trans (b12.mono b1.size)).trans (b23.mono (b1.trans (b12.mono b1.size)).size)
  have CQ := cQ W3 c3
  have C3 := Lib.hid c3
  have HE3 := Lib.hid e3
  have HV1 := Lib.hid V1
  have HV2 := Lib.hid V2
  have HV3 := Lib.hid V3
  have HZ : Hid (∀ w, HV w (.agg #[.int .u8 0, .int .i64 0, .string ⟨#[]⟩, .slice none 0 0, .slice none 0 0]) JV.zero) := fun w => (HO.zero 0 w).hv
  obtain ⟨⟨p0, p1, p2, p3, p4⟩, pf⟩ := V1.cells
  obtain ⟨⟨q0, q1, q2, q3, q4⟩, qf⟩ := V3.cells
  clear b1 b12 b23 e1 e2 e3 V1 V2 V3 cQ c3 pf
  by_cases h1 : kI ≠ 5
  · have hb : (kI != 5) = true := bne_iff_ne.2 h1
    have HG : Hid (x.put l y = (JV.zero, 10)) := if_neg (by have := HK.out; omega)
    clear h1
    go_enter Try.func25, Try.ntmps25
    go_wp2_with fail
    rw [← hW1, ← hW2, ← hW3]
    clear hW1 hW2 hW3
    refine bodyPost_ret (results_val (fn := Try.f25) (t := 6) (u := 7) rfl _ _ rfl HV3.out rfl) rfl ?_
    rw [HG.out]
    exact ⟨_, rfl, HZ.out _, C3.out⟩
  obtain rfl : kI = 5 := Classical.not_not.1 h1
  have HK5 : Hid (x.k = 5) := by have := HK.out; show x.k = 5; omega
  clear h1
  by_cases h2 : r ≠ m
  · have hb : ((r : Int) != (m : Int)) = true := bne_iff_ne.2 (by omega)
    have HG : Hid (x.put l y = (JV.zero, 3)) := by
      unfold Hid JV.put
      rw [if_pos HK5.out, if_neg (by rw [HM.out, HR.out, beq_eq_false_iff_ne.2 h2]; simp)]
    clear h2
    go_enter Try.func25, Try.ntmps25
    go_wp2_with fail
    rw [← hW1, ← hW2, ← hW3]
    clear hW1 hW2 hW3
    refine bodyPost_ret (results_val (fn := Try.f25) (t := 6) (u := 7) rfl _ _ rfl HV3.out rfl) rfl ?_
    rw [HG.out]
    exact ⟨_, rfl, HZ.out _, C3.out⟩
  obtain rfl : r = m := Classical.not_not.1 h2
  clear h2
  cases q with
  | false =>
    have HG : Hid (x.put l y = (JV.zero, 3)) := by
      unfold Hid JV.put
      rw [if_pos HK5.out, if_neg (by rw [HQ.out]; simp)]
    go_enter Try.func25, Try.ntmps25
    go_wp2_with fail
    rw [← hW1, ← hW2, ← hW3]
    clear hW1 hW2 hW3
    refine CQ.mono ?_; rintro e w4 ⟨rfl, b4⟩
    have HV3 := Lib.hid (HV3.out.below b4)
    have c4 := C3.out.trans (b4.mono C3.out.size)
    clear q0 q1 q2 q3 q4 qf
    obtain ⟨⟨q0, q1, q2, q3, q4⟩, qf⟩ := HV3.out.cells
    go_wp2_with fail
    refine bodyPost_ret (results_val (fn := Try.f25) (t := 6) (u := 7) rfl _ _ rfl (HV3.out.set5 _ _ _ _ _) rfl) rfl ?_
    rw [HG.out]
    exact ⟨_, rfl, HZ.out _, below_val (b := w.heap.size + 2) c4 (by omega) _ _ _ _ _⟩
  | true =>
  have HG : Hid (x.put l y = (.mk 5 x.n x.t (JV.putN x.ns l) (JV.putI x.ns l x.is y), 0)) := by
    unfold Hid JV.put
    rw [if_pos HK5.out, if_pos (by rw [HQ.out, HM.out, HR.out]; simp)]
  have HN0 := Lib.hid hN
  have HI1 : Hid (x.is = [] ∨ ∃ blk off, b = some ⟨blk, off, none⟩ ∧ HI w blk off x.is) := hI
  clear hN hI
  go_enter Try.func25, Try.ntmps25
  go_wp2_with fail
  rw [← hW1, ← hW2, ← hW3]
  clear hW1 hW2 hW3
  refine CQ.mono ?_; rintro e w4 ⟨rfl, b4⟩
  clear CQ p0 p1 p2 p3 p4 q0 q1 q2 q3 q4 qf
  have HV1 := Lib.hid (HV1.out.below b4)
  have HV2 := Lib.hid (HV2.out.below b4)
  have HV3 := Lib.hid (HV3.out.below b4)
  have C4 := Lib.hid (C3.out.trans (b4.mono C3.out.size))
  obtain ⟨ob, hob⟩ : ∃ ob, ob = w4.heap.size := ⟨_, rfl⟩
  have hob3 : Hid (w.heap.size + 3 ≤ ob) := by rw [Hid, hob, ← HE3.out]; exact b4.size
  have HI0 : Hid (WpI ob w (w4.alloc (.cells #[.int .u8 5, .int .i64 nI, .string (S t), .slice none 0 0, .slice none 0 0] 25)) nI t (.int .u8 5) (.int .i64 nI) (.string (S t)) (.slice a r ca) (.slice b r cb) x0 x1 x2 x3 x4 [] []) := by
    have hb : Below w4.heap.size w4 (w4.alloc (.cells #[.int .u8 5, .int .i64 nI, .string (S t), .slice none 0 0, .slice none 0 0] 25)) := (Below.refl _ _).alloc (Nat.le_refl _) _
    refine ⟨C4.out.trans (hb.mono C4.out.size), HV1.out.below hb, HV2.out.below hb, HV3.out.below hb, by simp [hob], hob3.out, ⟨.slice none 0 0, .slice none 0 0, [], ?_, World.ownsRow_nil _ _ _ 1, World.ownsRow_nil _ _ _ 5, HCS.nil _⟩⟩
    rw [hob]
    exact VAt.new ..
  obtain ⟨⟨p0, p1, p2, p3, p4⟩, pf⟩ := HV1.out.cells
  clear b4
  go_wp2_with fail
  rw [← hob]
  clear hob p0 p1 p2 p3 p4 pf HV1 HV2 HV3
  go_loopw [9, 10] (fun dv iv wr => ∃ i : Nat, iv = .int .i64 (i : Int) ∧ i ≤ r ∧ dv = .bool (RN x l y i).1 ∧ Hid (WpI ob w wr nI t (.int .u8 5) (.int .i64 nI) (.string (S t)) (.slice a r ca) (.slice b r cb) x0 x1 x2 x3 x4 (RN x l y i).2.1 (RN x l y i).2.2)) (fun _ iv _ => r - (intOf iv).toNat)
  case atStart =>
    have h0 : RN x l y 0 = (false, [], []) := by unfold RN; rw [List.take_zero, List.take_zero]; rfl
    exact ⟨0, rfl, Nat.zero_le _, by rw [h0], by rw [h0]; exact HI0.out⟩
  case round =>
    obtain ⟨i, rfl, hi, rfl, hW⟩ := hrel
    clear HI0
    obtain ⟨⟨p0, p1, p2, p3, p4⟩, pf⟩ := hW.out.hv.cells
    obtain ⟨⟨D, N, I⟩, hRi⟩ : ∃ s, RN x l y i = s := ⟨_, rfl⟩
    have hlen2 := JV.run_len l y (x.ns.take i) (x.is.take i) (false, [], []) rfl
    rw [show JV.run l y (false, [], []) (x.ns.take i) (x.is.take i) = (D, N, I) from hRi] at hlen2
    have hNI : Hid (N.length = I.length ∧ N.length ≤ 38000) := ⟨hlen2.1, by have := hlen2.2; simp only [List.length_nil, List.length_take] at this; omega⟩
    clear hlen2
    by_cases hlt : (i : Int) < (r : Int)
    · obtain ⟨p, hp⟩ : ∃ p, x.ns[i]? = some p := ⟨x.ns[i]'(by have := HR.out; omega), List.getElem?_eq_getElem _⟩
      obtain ⟨z, hz⟩ : ∃ z, x.is[i]? = some z := ⟨x.is[i]'(by have := HM.out; omega), List.getElem?_eq_getElem _⟩
      have hst : Hid (RN x l y (i + 1) = JV.stp l y (D, N, I) p z) := by
        rw [Hid, ← hRi]
        unfold RN
        rw [JV.take_snoc hz, show x.ns.take (i + 1) = x.ns.take i ++ [p] by rw [List.take_add_one, hp]; rfl]
        exact JV.run_snoc l y p z _ _ _ (by rw [List.length_take, List.length_take, HM.out, HR.out])
      have hW : Hid (WpI ob w wr nI t (.int .u8 5) (.int .i64 nI) (.string (S t)) (.slice a r ca) (.slice b r cb) x0 x1 x2 x3 x4 N I) := by
        have h := hW
        rw [hRi] at h
        exact h
      rw [hRi]
      have ef : ((D, N, I) : Bool × List (List UInt8) × List JV).1 = D := rfl
      rw [ef]
      clear ef
      obtain ⟨nb, no, rfl, g0⟩ := HN0.out i p hp
      obtain ⟨blk, off, rfl, hII⟩ := items_at HI1.out hz
      obtain ⟨c0, c1, c2, c3, c4, f0, f1, f2, f3, f4, hcz⟩ := hII.get hz
      obtain ⟨za, zb, zca, zcb, hzf, _⟩ := hcz.form
      simp only [List.cons.injEq, and_true] at hzf
      obtain ⟨rfl, rfl, rfl, rfl, rfl⟩ := hzf
      have HONE : Hid (∀ u ∈ [Value.int .u8 (z.k : Int), .int .i64 z.n, .string (S z.t), .slice za z.ns.length zca, .slice zb z.is.length zcb], u.oneCell' = true) := fun u hu => by
        simp only [List.mem_cons, List.not_mem_nil, or_false] at hu
        rcases hu with rfl | rfl | rfl | rfl | rfl <;> rfl
      have hra : Hid (∀ w', Below w.heap.size w w' → w'.rangeAt blk (off + i * 5) [Value.int .u8 (z.k : Int), .int .i64 z.n, .string (S z.t), .slice za z.ns.length zca, .slice zb z.is.length zcb]) := fun w' hb' => by
        have hk : ∀ {o : Nat} {c : Value}, w.cell? ⟨blk, o, none⟩ = some c → w'.cell? ⟨blk, o, none⟩ = some c := fun hg => (hb'.cell (World.block_lt_of_cell? w _ hg)).trans hg
        intro j v hj
        rcases j with _ | _ | _ | _ | _ | j
        all_goals simp only [List.getElem?_cons_zero, List.getElem?_cons_succ, List.getElem?_nil, Option.some.injEq, reduceCtorEq] at hj
        all_goals subst hj
        · exact hk f0
        · exact hk f1
        · exact hk f2
        · exact hk f3
        · exact hk f4
      have hna : Hid (∀ w', Below w.heap.size w w' → w'.cell? ⟨nb, no + i, none⟩ = some (.string (S p))) := fun w' hb' => (hb'.cell (World.block_lt_of_cell? w _ g0)).trans g0
      have HCZ := Lib.hid hcz
      have hltn : i < r := by omega
      have s1 := S_toList p
      have s2 := S_toList l
      clear f0 f1 f2 f3 f4 hII hcz hp hz hRi g0
      have k0 := hna.out _ hW.out.below
      cases D with
      | true =>
        by_cases hpq : p = l
        · have HPQ : Hid (p = l) := hpq
          have u1 : (p == l) = true := beq_iff_eq.2 hpq
          clear hpq
          go_wp2_with fail
          clear k0
          go_roundw
          case rel =>
            have e1 : RN x l y (i + 1) = (true, N, I) := by rw [hst.out]; simp [JV.stp, HPQ.out]
            exact ⟨i + 1, by go_num, by omega, by rw [e1], by rw [e1]; exact hW⟩
          case measure => simp [intOf]; omega
        · have HPQ : Hid (p ≠ l) := hpq
          have u1 : (p == l) = false := beq_eq_false_iff_ne.2 hpq
          clear hpq
          go_wp2_with fail
          clear k0
          obtain ⟨nv, xv, cs, hO, o1, o2, hcs⟩ := hW.out.own
          have hl19 : Hid ((N).length ≤ 80000 ∧ (I).length ≤ 80000) := by have := hNI.out; exact ⟨by omega, by omega⟩
          have a3 := hW.out.at3
          refine region_names 69 8 3 10 (by kernel_rfl) (by kernel_rfl) (by simp) (by omega) (by omega) (by omega) rfl rfl rfl hO hW.out.hv hltn (hna.out _ hW.out.below) o1 hW.out.size (by omega) (by have := hl19.out; omega) (fun f nv' w7 g1 g2 g3 => ?_)
          have k2 := g3.below hW.out.below (by omega) (fun k e => by have := (o1.lt k e).1; omega)
          have V2 := g3.vat hW.out.hv (by omega) (fun e => by have := (o1.lt _ e.symm).1; omega)
          have X2 := g3.vat hW.out.hx (by omega) (fun e => by have := (o1.lt _ e.symm).1; omega)
          have R2 := g3.vat hW.out.hr (by omega) (fun e => by have := (o1.lt _ e.symm).1; omega)
          have o2' := g3.own o2 (by omega) (own_apart o2 o1 (by decide))
          have s7 := Nat.le_trans hW.out.size g3.size
          rw [putR_lit]
          simp only [putL, pApp, Nat.reduceAdd, Nat.reduceLeDiff, decide_true, decide_false, Bool.and_true, Bool.and_false, cond_true, cond_false, Nat.zero_add, Nat.le_refl]
          go_wp2_with fail
          refine region_items 79 8 3 10 (by kernel_rfl) (by kernel_rfl) (by simp) (by omega) (by omega) (by omega) rfl rfl rfl g1 V2 hltn (hra.out _ k2) HONE.out o2' s7 (by omega) (by have := hl19.out; omega) (fun f' xv' w8 g4 g5 g6 => ?_)
          have k3 := g6.below k2 (by omega) (fun k e => by have := (o2.lt k e).1; omega)
          have V3 := g6.vat V2 (by omega) (fun e => by have := (o2.lt _ e.symm).1; omega)
          have X3 := g6.vat X2 (by omega) (fun e => by have := (o2.lt _ e.symm).1; omega)
          have R3 := g6.vat R2 (by omega) (fun e => by have := (o2.lt _ e.symm).1; omega)
          have o1' := g6.own g2 (by omega) (own_apart g2 o2' (by decide))
          have s8 := Nat.le_trans s7 g6.size
          have HI3 : Hid (WpI ob w w8 nI t (.int .u8 5) (.int .i64 nI) (.string (S t)) (.slice (some ⟨nb, no, none⟩) r ca) (.slice (some ⟨blk, off, none⟩) r cb) x0 x1 x2 x3 x4 (N ++ [p]) (I ++ [z])) := by
            refine ⟨k3, V3, X3, R3, s8, a3, nv', xv', _, g4, ?_, ?_, HCS.snoc HCZ.out hcs⟩
            · rw [List.length_append, List.length_singleton, NC_snoc]
              exact o1'
            · rw [List.length_append, List.length_singleton]
              exact g5
          clear g1 g2 g3 g4 g5 g6 k2 k3 V2 V3 X2 X3 R2 R3 o1' o2' s7 s8 hO o1 o2 hcs a3 p0 p1 p2 p3 p4 pf
          rw [putR_lit]
          simp only [putL, pApp, Nat.reduceAdd, Nat.reduceLeDiff, decide_true, decide_false, Bool.and_true, Bool.and_false, cond_true, cond_false, Nat.zero_add, Nat.le_refl]
          go_wp2_with fail
          go_roundw
          case rel =>
            have e1 : RN x l y (i + 1) = (true, N ++ [p], I ++ [z]) := by rw [hst.out]; simp [JV.stp, HPQ.out]
            exact ⟨i + 1, by go_num, by omega, by rw [e1], by rw [e1]; exact HI3⟩
          case measure => simp [intOf]; omega
      | false =>
        by_cases hless : Op.bytesLess p l = true
        · have HLT : Hid (Jn.lt p l = true) := hless
          by_cases hpq : p = l
          · have HPQ : Hid (p = l) := hpq
            have u1 : (p == l) = true := beq_iff_eq.2 hpq
            clear hpq
            go_wp2_with fail
            clear k0
            go_roundw
            case rel =>
              have e1 : RN x l y (i + 1) = (false, N, I) := by rw [hst.out]; have h := HLT.out; rw [HPQ.out] at h; simp [JV.stp, HPQ.out, h]
              exact ⟨i + 1, by go_num, by omega, by rw [e1], by rw [e1]; exact hW⟩
            case measure => simp [intOf]; omega
          · have HPQ : Hid (p ≠ l) := hpq
            have u1 : (p == l) = false := beq_eq_false_iff_ne.2 hpq
            clear hpq
            go_wp2_with fail
            clear k0
            obtain ⟨nv, xv, cs, hO, o1, o2, hcs⟩ := hW.out.own
            have hl19 : Hid ((N).length ≤ 80000 ∧ (I).length ≤ 80000) := by have := hNI.out; exact ⟨by omega, by omega⟩
            have a3 := hW.out.at3
            refine region_names 69 8 3 10 (by kernel_rfl) (by kernel_rfl) (by simp) (by omega) (by omega) (by omega) rfl rfl rfl hO hW.out.hv hltn (hna.out _ hW.out.below) o1 hW.out.size (by omega) (by have := hl19.out; omega) (fun f nv' w7 g1 g2 g3 => ?_)
            have k2 := g3.below hW.out.below (by omega) (fun k e => by have := (o1.lt k e).1; omega)
            have V2 := g3.vat hW.out.hv (by omega) (fun e => by have := (o1.lt _ e.symm).1; omega)
            have X2 := g3.vat hW.out.hx (by omega) (fun e => by have := (o1.lt _ e.symm).1; omega)
            have R2 := g3.vat hW.out.hr (by omega) (fun e => by have := (o1.lt _ e.symm).1; omega)
            have o2' := g3.own o2 (by omega) (own_apart o2 o1 (by decide))
            have s7 := Nat.le_trans hW.out.size g3.size
            rw [putR_lit]
            simp only [putL, pApp, Nat.reduceAdd, Nat.reduceLeDiff, decide_true, decide_false, Bool.and_true, Bool.and_false, cond_true, cond_false, Nat.zero_add, Nat.le_refl]
            go_wp2_with fail
            refine region_items 79 8 3 10 (by kernel_rfl) (by kernel_rfl) (by simp) (by omega) (by omega) (by omega) rfl rfl rfl g1 V2 hltn (hra.out _ k2) HONE.out o2' s7 (by omega) (by have := hl19.out; omega) (fun f' xv' w8 g4 g5 g6 => ?_)
            have k3 := g6.below k2 (by omega) (fun k e => by have := (o2.lt k e).1; omega)
            have V3 := g6.vat V2 (by omega) (fun e => by have := (o2.lt _ e.symm).1; omega)
            have X3 := g6.vat X2 (by omega) (fun e => by have := (o2.lt _ e.symm).1; omega)
            have R3 := g6.vat R2 (by omega) (fun e => by have := (o2.lt _ e.symm).1; omega)
            have o1' := g6.own g2 (by omega) (own_apart g2 o2' (by decide))
            have s8 := Nat.le_trans s7 g6.size
            have HI3 : Hid (WpI ob w w8 nI t (.int .u8 5) (.int .i64 nI) (.string (S t)) (.slice (some ⟨nb, no, none⟩) r ca) (.slice (some ⟨blk, off, none⟩) r cb) x0 x1 x2 x3 x4 (N ++ [p]) (I ++ [z])) := by
              refine ⟨k3, V3, X3, R3, s8, a3, nv', xv', _, g4, ?_, ?_, HCS.snoc HCZ.out hcs⟩
              · rw [List.length_append, List.length_singleton, NC_snoc]
                exact o1'
              · rw [List.length_append, List.length_singleton]
                exact g5
            clear g1 g2 g3 g4 g5 g6 k2 k3 V2 V3 X2 X3 R2 R3 o1' o2' s7 s8 hO o1 o2 hcs a3 p0 p1 p2 p3 p4 pf
            rw [putR_lit]
            simp only [putL, pApp, Nat.reduceAdd, Nat.reduceLeDiff, decide_true, decide_false, Bool.and_true, Bool.and_false, cond_true, cond_false, Nat.zero_add, Nat.le_refl]
            go_wp2_with fail
            go_roundw
            case rel =>
              have e1 : RN x l y (i + 1) = (false, N ++ [p], I ++ [z]) := by rw [hst.out]; simp [JV.stp, HLT.out, HPQ.out]
              exact ⟨i + 1, by go_num, by omega, by rw [e1], by rw [e1]; exact HI3⟩
            case measure => simp [intOf]; omega
        · have hless : Op.bytesLess p l = false := by simpa using hless
          have HLT : Hid (Jn.lt p l = false) := hless
          by_cases hpq : p = l
          · have HPQ : Hid (p = l) := hpq
            have u1 : (p == l) = true := beq_iff_eq.2 hpq
            clear hpq
            obtain ⟨nv, xv, pa, la, ka, w5, pb, lb, kb, w6, gO, hr1, O2, O2', X2, hr2, O3, hW6⟩ := WpI.more l hW.out HCY.out (by have := hNI.out; omega) (by have := hNI.out; omega) 22 23
            obtain ⟨⟨q0, q1, q2, q3, q4⟩, qf⟩ := gO.cells
            obtain ⟨⟨r0, r1, r2, r3, r4⟩, rf⟩ := O2.cells
            obtain ⟨⟨t0, t1, t2, t3, t4⟩, tf⟩ := O2'.cells
            obtain ⟨⟨y0, y1, y2, y3, y4⟩, yf⟩ := X2.cells
            obtain ⟨⟨z0, z1, z2, z3, z4⟩, zf⟩ := O3.cells
            obtain ⟨⟨m0, m1, m2, m3, m4⟩, mf⟩ := hW6.hv.cells
            have n0 := hna.out _ hW6.below
            obtain ⟨W6, hW6e⟩ : ∃ W, W = w6.setCell ⟨ob, 4, none⟩ (.slice pb lb kb) := ⟨_, rfl⟩
            have HW6 := Lib.hid hW6
            rw [← hW6e] at HW6
            clear gO O2 O2' X2 O3 hW6 p0 p1 p2 p4
            go_wp2_with (at_builtin; first | refine Lib.wpList_append_run _ rfl _ _ _ _ rfl _ _ rfl rfl _ _ hr1 ?_ | refine Lib.wpList_append_run _ rfl _ _ _ _ rfl _ _ rfl rfl _ _ hr2 ?_)
            rw [← hW6e]
            clear k0 hW6e q0 q1 q2 q3 q4 qf r0 r1 r2 r3 r4 rf t0 t1 t2 t3 t4 tf y0 y1 y2 y3 y4 yf z0 z1 z2 z3 z4 zf m0 m1 m2 m3 m4 mf n0 hr1 hr2
            obtain ⟨⟨p0, p1, p2, p3, p4⟩, pf⟩ := HW6.out.hv.cells
            go_roundw
            case rel =>
              have e1 : RN x l y (i + 1) = (true, N ++ [l], I ++ [y]) := by rw [hst.out]; have h := HLT.out; rw [HPQ.out] at h; simp [JV.stp, HPQ.out, h]
              exact ⟨i + 1, by go_num, by omega, by rw [e1], by rw [e1]; exact HW6⟩
            case measure => simp [intOf]; omega
          · have HPQ : Hid (p ≠ l) := hpq
            have u1 : (p == l) = false := beq_eq_false_iff_ne.2 hpq
            clear hpq
            obtain ⟨nv, xv, pa, la, ka, w5, pb, lb, kb, w6, gO, hr1, O2, O2', X2, hr2, O3, hW6⟩ := WpI.more l hW.out HCY.out (by have := hNI.out; omega) (by have := hNI.out; omega) 22 23
            obtain ⟨⟨q0, q1, q2, q3, q4⟩, qf⟩ := gO.cells
            obtain ⟨⟨r0, r1, r2, r3, r4⟩, rf⟩ := O2.cells
            obtain ⟨⟨t0, t1, t2, t3, t4⟩, tf⟩ := O2'.cells
            obtain ⟨⟨y0, y1, y2, y3, y4⟩, yf⟩ := X2.cells
            obtain ⟨⟨z0, z1, z2, z3, z4⟩, zf⟩ := O3.cells
            obtain ⟨⟨m0, m1, m2, m3, m4⟩, mf⟩ := hW6.hv.cells
            have n0 := hna.out _ hW6.below
            obtain ⟨W6, hW6e⟩ : ∃ W, W = w6.setCell ⟨ob, 4, none⟩ (.slice pb lb kb) := ⟨_, rfl⟩
            have HW6 := Lib.hid hW6
            rw [← hW6e] at HW6
            clear gO O2 O2' X2 O3 hW6 p0 p1 p2 p4
            go_wp2_with (at_builtin; first | refine Lib.wpList_append_run _ rfl _ _ _ _ rfl _ _ rfl rfl _ _ hr1 ?_ | refine Lib.wpList_append_run _ rfl _ _ _ _ rfl _ _ rfl rfl _ _ hr2 ?_)
            rw [← hW6e]
            clear k0 hW6e q0 q1 q2 q3 q4 qf r0 r1 r2 r3 r4 rf t0 t1 t2 t3 t4 tf y0 y1 y2 y3 y4 yf z0 z1 z2 z3 z4 zf m0 m1 m2 m3 m4 mf n0 hr1 hr2
            obtain ⟨⟨p0, p1, p2, p3, p4⟩, pf⟩ := HW6.out.hv.cells
            obtain ⟨nv, xv, cs, hO, o1, o2, hcs⟩ := HW6.out.own
            have hl19 : Hid ((N ++ [l]).length ≤ 80000 ∧ (I ++ [y]).length ≤ 80000) := by have := hNI.out; exact ⟨by rw [List.length_append, List.length_singleton]; omega, by rw [List.length_append, List.length_singleton]; omega⟩
            have a3 := HW6.out.at3
            refine region_names 69 8 3 10 (by kernel_rfl) (by kernel_rfl) (by simp) (by omega) (by omega) (by omega) rfl rfl rfl hO HW6.out.hv hltn (hna.out _ HW6.out.below) o1 HW6.out.size (by omega) (by have := hl19.out; omega) (fun f nv' w7 g1 g2 g3 => ?_)
            have k2 := g3.below HW6.out.below (by omega) (fun k e => by have := (o1.lt k e).1; omega)
            have V2 := g3.vat HW6.out.hv (by omega) (fun e => by have := (o1.lt _ e.symm).1; omega)
            have X2 := g3.vat HW6.out.hx (by omega) (fun e => by have := (o1.lt _ e.symm).1; omega)
            have R2 := g3.vat HW6.out.hr (by omega) (fun e => by have := (o1.lt _ e.symm).1; omega)
            have o2' := g3.own o2 (by omega) (own_apart o2 o1 (by decide))
            have s7 := Nat.le_trans HW6.out.size g3.size
            rw [putR_lit]
            simp only [putL, pApp, Nat.reduceAdd, Nat.reduceLeDiff, decide_true, decide_false, Bool.and_true, Bool.and_false, cond_true, cond_false, Nat.zero_add, Nat.le_refl]
            go_wp2_with fail
            refine region_items 79 8 3 10 (by kernel_rfl) (by kernel_rfl) (by simp) (by omega) (by omega) (by omega) rfl rfl rfl g1 V2 hltn (hra.out _ k2) HONE.out o2' s7 (by omega) (by have := hl19.out; omega) (fun f' xv' w8 g4 g5 g6 => ?_)
            have k3 := g6.below k2 (by omega) (fun k e => by have := (o2.lt k e).1; omega)
            have V3 := g6.vat V2 (by omega) (fun e => by have := (o2.lt _ e.symm).1; omega)
            have X3 := g6.vat X2 (by omega) (fun e => by have := (o2.lt _ e.symm).1; omega)
            have R3 := g6.vat R2 (by omega) (fun e => by have := (o2.lt _ e.symm).1; omega)
            have o1' := g6.own g2 (by omega) (own_apart g2 o2' (by decide))
            have s8 := Nat.le_trans s7 g6.size
            have HI3 : Hid (WpI ob w w8 nI t (.int .u8 5) (.int .i64 nI) (.string (S t)) (.slice (some ⟨nb, no, none⟩) r ca) (.slice (some ⟨blk, off, none⟩) r cb) x0 x1 x2 x3 x4 (N ++ [l] ++ [p]) (I ++ [y] ++ [z])) := by
              refine ⟨k3, V3, X3, R3, s8, a3, nv', xv', _, g4, ?_, ?_, HCS.snoc HCZ.out hcs⟩
              · rw [List.length_append, List.length_singleton, NC_snoc]
                exact o1'
              · rw [List.length_append, List.length_singleton]
                exact g5
            clear g1 g2 g3 g4 g5 g6 k2 k3 V2 V3 X2 X3 R2 R3 o1' o2' s7 s8 hO o1 o2 hcs a3 p0 p1 p2 p3 p4 pf
            rw [putR_lit]
            simp only [putL, pApp, Nat.reduceAdd, Nat.reduceLeDiff, decide_true, decide_false, Bool.and_true, Bool.and_false, cond_true, cond_false, Nat.zero_add, Nat.le_refl]
            go_wp2_with fail
            go_roundw
            case rel =>
              have e1 : RN x l y (i + 1) = (true, N ++ [l] ++ [p], I ++ [y] ++ [z]) := by rw [hst.out]; simp [JV.stp, HLT.out, HPQ.out]
              exact ⟨i + 1, by go_num, by omega, by rw [e1], by rw [e1]; exact HI3⟩
            case measure => simp [intOf]; omega
    · obtain rfl : i = r := by omega
      have hfin : Hid (JV.fin l y (D, N, I) = (JV.putN x.ns l, JV.putI x.ns l x.is y)) := by
        have h := JV.run_put l y x.ns x.is [] [] (by rw [HM.out, HR.out]) HQ.out
        rw [List.nil_append, List.nil_append, show JV.run l y (false, [], []) x.ns x.is = (D, N, I) by
          rw [← hRi]
          unfold RN
          rw [← HR.out, List.take_length, HR.out, ← HM.out, List.take_length]] at h
        exact h
      have hW : Hid (WpI ob w wr nI t (.int .u8 5) (.int .i64 nI) (.string (S t)) (.slice a i ca) (.slice b i cb) x0 x1 x2 x3 x4 N I) := by
        have h := hW
        rw [hRi] at h
        exact h
      rw [hRi]
      have ef : ((D, N, I) : Bool × List (List UInt8) × List JV).1 = D := rfl
      rw [ef]
      clear ef hRi
      have HJ : Hid (JB 5 x.n x.t (JV.putN x.ns l) (JV.putI x.ns l x.is y).length) := by
        obtain ⟨j1, j2, j3, j4, j5, j6⟩ := HB.out
        have hll := (JV.putI_len (l := l) (y := y) (show x.ns.length = x.is.length by rw [HM.out, HR.out])).1
        have hpn : (JV.putN x.ns l).length ≤ 38001 := by
          have h1 := congrArg (fun z => z.1.length) hfin.out
          have h2 : (JV.fin l y (D, N, I)).1.length ≤ 38001 := by
            unfold JV.fin
            have := hNI.out
            split
            · show N.length ≤ _; omega
            · show (N ++ [l]).length ≤ _; rw [List.length_append, List.length_singleton]; omega
          have h3 : (JV.fin l y (D, N, I)).1.length = (JV.putN x.ns l).length := h1
          omega
        exact ⟨by omega, j2, j3, by unfold maxLen; omega, by unfold maxLen; omega, fun z hz => by
          rcases JV.putN_mem hz with rfl | hz
          · exact HLL.out
          · exact j6 z hz⟩
      cases D with
      | true =>
        have hF : Hid (N = JV.putN x.ns l ∧ I = JV.putI x.ns l x.is y) := by have h := hfin.out; simp [JV.fin] at h; exact h
        obtain ⟨nv, xv, cs, hO, o1, o2, hcs⟩ := hW.out.own
        rw [hF.out.1] at o1
        rw [hF.out.2] at o2 hcs
        have a3 := hW.out.at3
        obtain ⟨na, nc, rfl, _⟩ := NS.of_own o1
        obtain ⟨xa, xc, rfl, _⟩ := HI.of_own o2 (HCS.below hW.out.below _ _ hcs)
        have HO1 := Lib.hid o1
        have HO2 := Lib.hid o2
        have HCS0 := Lib.hid hcs
        obtain ⟨K, hK⟩ : ∃ K, (JV.putN x.ns l).length = K := ⟨_, rfl⟩
        obtain ⟨M, hM⟩ : ∃ K, (JV.putI x.ns l x.is y).length = K := ⟨_, rfl⟩
        have HKK := Lib.hid hK
        have HMM := Lib.hid hM
        rw [hK, hM] at hO
        obtain ⟨⟨q0, q1, q2, q3, q4⟩, qf⟩ := hW.out.hr.cells
        obtain ⟨⟨y0, y1, y2, y3, y4⟩, yf⟩ := hO.cells
        clear hO o1 o2 hcs hK hM
        go_wp2_with fail
        have HB5 := below_val (b := w.heap.size + 2) hW.out.below (by omega) (.int .u8 5) (.int .i64 nI) (.string (S t)) (.slice na K nc) (.slice xa M xc)
        refine bodyPost_ret (results_val (fn := Try.f25) (t := 6) (u := 7) rfl _ _ rfl (hW.out.hr.set5 (.int .u8 5) (.int .i64 nI) (.string (S t)) (.slice na K nc) (.slice xa M xc)) rfl) rfl ?_
        have P1 := own_set5 HO1.out (b := w.heap.size + 2) (by omega) (.int .u8 5) (.int .i64 nI) (.string (S t)) (.slice na K nc) (.slice xa M xc)
        have P2 := own_set5 HO2.out (b := w.heap.size + 2) (by omega) (.int .u8 5) (.int .i64 nI) (.string (S t)) (.slice na K nc) (.slice xa M xc)
        rw [HKK.out] at P1
        rw [HMM.out] at P2
        obtain ⟨na', nc', e1, hNS⟩ := NS.of_own (ns := JV.putN x.ns l) (by rw [HKK.out]; exact P1)
        obtain ⟨xa', xc', e2, hIS⟩ := HI.of_own (is := JV.putI x.ns l x.is y) (by rw [HMM.out]; exact P2) (HCS.below HB5 _ _ HCS0.out)
        rw [HKK.out] at e1
        rw [HMM.out] at e2
        simp only [Value.slice.injEq, true_and] at e1 e2
        obtain ⟨rfl, rfl⟩ := e1
        obtain ⟨rfl, rfl⟩ := e2
        rw [HG.out]
        refine ⟨_, rfl, ?_, HB5⟩
        have h := HV.of _ 5 x.n x.t _ _ na xa nc xc HJ.out hNS hIS
        rw [HKK.out, HMM.out, ← HNn.out, ← HT.out] at h
        rw [← HNn.out, ← HT.out]
        exact h
      | false =>
        obtain ⟨nv, xv, pa, la, ka, w5, pb, lb, kb, w6, gO, hr1, O2, O2', X2, hr2, O3, hW6⟩ := WpI.more l hW.out HCY.out (by have := hNI.out; omega) (by have := hNI.out; omega) 22 23
        obtain ⟨⟨q0, q1, q2, q3, q4⟩, qf⟩ := gO.cells
        obtain ⟨⟨r0, r1, r2, r3, r4⟩, rf⟩ := O2.cells
        obtain ⟨⟨t0, t1, t2, t3, t4⟩, tf⟩ := O2'.cells
        obtain ⟨⟨y0, y1, y2, y3, y4⟩, yf⟩ := X2.cells
        obtain ⟨⟨z0, z1, z2, z3, z4⟩, zf⟩ := O3.cells
        obtain ⟨W6, hW6e⟩ : ∃ W, W = w6.setCell ⟨ob, 4, none⟩ (.slice pb lb kb) := ⟨_, rfl⟩
        have HW6 := Lib.hid hW6
        rw [← hW6e] at HW6
        obtain ⟨nv', xv', cs', hO', o1', o2', hcs'⟩ := HW6.out.own
        have ho := hO'
        rw [hW6e] at ho
        have ho2 := O3.set4 (.slice pb lb kb)
        unfold VAt at ho ho2
        rw [ho2] at ho
        simp only [Option.some.injEq, Obj.cells.injEq, Array.mk.injEq, List.cons.injEq, and_true, true_and] at ho
        obtain ⟨rfl, rfl⟩ := ho
        have hF : Hid (N ++ [l] = JV.putN x.ns l ∧ I ++ [y] = JV.putI x.ns l x.is y) := by have h := hfin.out; simp [JV.fin] at h; exact h
        rw [hF.out.1] at o1'
        rw [hF.out.2] at o2' hcs'
        have a3 := HW6.out.at3
        obtain ⟨na, nc, en, _⟩ := NS.of_own o1'
        obtain ⟨xa, xc, ex, _⟩ := HI.of_own o2' (HCS.below HW6.out.below _ _ hcs')
        simp only [Value.slice.injEq] at en ex
        obtain ⟨rfl, rfl, rfl⟩ := en
        obtain ⟨rfl, rfl, rfl⟩ := ex
        have HO1 := Lib.hid o1'
        have HO2 := Lib.hid o2'
        have HCS0 := Lib.hid hcs'
        obtain ⟨K, hK⟩ : ∃ K, (JV.putN x.ns l).length = K := ⟨_, rfl⟩
        obtain ⟨M, hM⟩ : ∃ K, (JV.putI x.ns l x.is y).length = K := ⟨_, rfl⟩
        have HKK := Lib.hid hK
        have HMM := Lib.hid hM
        have hr' := HW6.out.hr
        rw [hW6e] at hr'
        rw [hK] at t0
        rw [hK] at t1
        rw [hK] at t2
        rw [hK] at t3
        rw [hK] at t4
        rw [hK] at tf
        rw [hK] at z3
        rw [hK] at y0
        rw [hK] at y1
        rw [hK] at y2
        rw [hK] at y3
        rw [hK] at y4
        rw [hK] at yf
        rw [hK] at hr1
        rw [hK] at hr2
        rw [hK] at ho2
        rw [hM] at hr2
        rw [hM] at hr'
        rw [hM] at ho2
        rw [hM] at hW6e
        obtain ⟨⟨m0, m1, m2, m3, m4⟩, mf⟩ := (show VAt ob _ _ _ _ _ _ from ho2).cells
        obtain ⟨⟨n0, n1, n2, n3, n4⟩, nf⟩ := hr'.cells
        clear gO O2 O2' X2 O3 hW6 hO' o1' o2' hcs' hK hM hr' ho2
        go_wp2_with (at_builtin; first | refine Lib.wpList_append_run _ rfl _ _ _ _ rfl _ _ rfl rfl _ _ hr1 ?_ | refine Lib.wpList_append_run _ rfl _ _ _ _ rfl _ _ rfl rfl _ _ hr2 ?_)
        rw [← hW6e]
        have HB5 := below_val (b := w.heap.size + 2) HW6.out.below (by omega) (.int .u8 5) (.int .i64 nI) (.string (S t)) (.slice pa K ka) (.slice pb M kb)
        refine bodyPost_ret (results_val (fn := Try.f25) (t := 6) (u := 7) rfl _ _ rfl (HW6.out.hr.set5 (.int .u8 5) (.int .i64 nI) (.string (S t)) (.slice pa K ka) (.slice pb M kb)) rfl) rfl ?_
        have P1 := own_set5 HO1.out (b := w.heap.size + 2) (by omega) (.int .u8 5) (.int .i64 nI) (.string (S t)) (.slice pa K ka) (.slice pb M kb)
        have P2 := own_set5 HO2.out (b := w.heap.size + 2) (by omega) (.int .u8 5) (.int .i64 nI) (.string (S t)) (.slice pa K ka) (.slice pb M kb)
        rw [HKK.out] at P1
        rw [HMM.out] at P2
        obtain ⟨na', nc', e1, hNS⟩ := NS.of_own (ns := JV.putN x.ns l) (by rw [HKK.out]; exact P1)
        obtain ⟨xa', xc', e2, hIS⟩ := HI.of_own (is := JV.putI x.ns l x.is y) (by rw [HMM.out]; exact P2) (HCS.below HB5 _ _ HCS0.out)
        rw [HKK.out] at e1
        rw [HMM.out] at e2
        simp only [Value.slice.injEq, true_and] at e1 e2
        obtain ⟨rfl, rfl⟩ := e1
        obtain ⟨rfl, rfl⟩ := e2
        rw [HG.out]
        refine ⟨_, rfl, ?_, HB5⟩
        have h := HV.of _ 5 x.n x.t _ _ pa pb ka kb HJ.out hNS hIS
        rw [HKK.out, HMM.out, ← HNn.out, ← HT.out] at h
        rw [← HNn.out, ← HT.out]
        exact h
end Go.Proofs.Ytcmalaabggohmaa
