/-
  What the program's first and Get come to.
-/
import Derived.Test.YtcmalaabggohmaaValPlace
import Derived.Test.YtcmalaabggohmaaValCopy
namespace Go.Proofs.Ytcmalaabggohmaa
open Go.RowKit

set_option maxHeartbeats 2000000 in
set_option maxRecDepth 3000 in
theorem index_any (ns : List (List UInt8)) (l : List UInt8) (a : Option Addr) (ca : Nat) (w : World) (hN : NS w a ns) (hl : ns.length ≤ 90000) :
    Calls Try.prog 49 #[.slice a ns.length ca, .string (S l)] w fun e w' => (∃ z : Int, e = .returned (.int .i64 z) ∧ (JV.find ns l < ns.length ∧ z = (JV.find ns l : Int) ∨ JV.find ns l = ns.length ∧ z = -1)) ∧ w = w' := by
  obtain ⟨r, hr⟩ : ∃ m, ns.length = m := ⟨_, rfl⟩
  have hr2 : (r : Int) ≤ 90000 := by omega
  rw [hr]
  have HR := Lib.hid hr
  have HN := Lib.hid hN
  clear hr hl hN
  go_enter Try.func49, Try.ntmps49
  go_wp2_with fail
  go_loopw [8] (fun iv wr => ∃ i : Nat, iv = .int .i64 (i : Int) ∧ i ≤ r ∧ Hid (∀ (j : Nat) (p : List UInt8), j < i → ns[j]? = some p → p ≠ l) ∧ w = wr) (fun iv _ => r - (intOf iv).toNat)
  case atStart => exact ⟨0, rfl, Nat.zero_le _, fun j p h => by omega, rfl⟩
  case round =>
    obtain ⟨i, rfl, hi, HS, rfl⟩ := hrel
    by_cases hlt : (i : Int) < (r : Int)
    · obtain ⟨p, hp⟩ : ∃ p, ns[i]? = some p := ⟨ns[i]'(by have := HR.out; omega), List.getElem?_eq_getElem _⟩
      obtain ⟨bb, oo, rfl, g0⟩ := HN.out i p hp
      have u1 := S_toList p
      have u2 := S_toList l
      have HP := Lib.hid hp
      clear hp
      by_cases hpq : p = l
      · subst hpq
        have HF : Hid (JV.find ns p = i) := JV.find_at HP.out HS.out
        go_wp2_with fail
        go_ret
        exact ⟨⟨_, rfl, .inl ⟨by rw [HF.out]; omega, by rw [HF.out]⟩⟩, rfl⟩
      · have hb : ((S p).toList == (S l).toList) = false := by rw [u1, u2]; exact beq_eq_false_iff_ne.2 hpq
        have hb2 : ((S l).toList == (S p).toList) = false := by rw [u1, u2]; exact beq_eq_false_iff_ne.2 fun e => hpq e.symm
        have hb3 : (l == p) = false := beq_eq_false_iff_ne.2 fun e => hpq e.symm
        have HPQ := Lib.hid hpq
        clear hpq
        go_wp2_with fail
        go_roundw
        case rel =>
          refine ⟨i + 1, by go_num, by omega, fun j z hj hz => ?_, by first | trivial | rfl⟩
          by_cases hji : j < i
          · exact HS.out j z hji hz
          · obtain rfl : j = i := by omega
            rw [HP.out] at hz
            obtain rfl : p = z := by simpa using hz
            exact HPQ.out
        case measure => simp [intOf]; omega
    · obtain rfl : i = r := by omega
      have HF : Hid (JV.find ns l = ns.length) := JV.find_no fun j z hz => HS.out j z (by have := (List.getElem?_eq_some_iff.1 hz).1; have := HR.out; omega) hz
      go_wp2_with fail
      go_ret
      exact ⟨⟨_, rfl, .inr ⟨by rw [HF.out, HR.out], rfl⟩⟩, rfl⟩
set_option maxHeartbeats 2000000 in
set_option maxRecDepth 3000 in
theorem first_any (ns : List (List UInt8)) (l : List UInt8) (a : Option Addr) (ca : Nat) (w : World) (hN : NS w a ns) (hl : ns.length ≤ 90000) :
    Calls Try.prog 35 #[.slice a ns.length ca, .string (S l)] w fun e w' => (∃ (z : Int) (f : Bool), e = .returned (.tuple #[.int .i64 z, .bool f]) ∧ (f = true ∧ JV.find ns l < ns.length ∧ z = (JV.find ns l : Int) ∨ f = false ∧ JV.find ns l = ns.length)) ∧ Below w.heap.size w w' := by
  obtain ⟨q, hq⟩ : ∃ q, Jn.rise ns = q := ⟨_, rfl⟩
  have cA := isAscending_any ns a ca w hN (by omega) hq
  have HN : Hid (NS w a ns) := hN
  cases q with
  | true =>
    obtain ⟨f, hf⟩ : ∃ f, Jn.has ns l = f := ⟨_, rfl⟩
    have cP := fun w' (h : Below w.heap.size w w') => place_any ns l a ca w' hq (hN.below h) hl hf
    have HF : Hid (f = true ∧ JV.find ns l < ns.length ∧ ((Jn.pos ns l : Nat) : Int) = (JV.find ns l : Int) ∨ f = false ∧ JV.find ns l = ns.length) := by
      cases f with
      | true =>
        have h1 := Jn.find_has (l := l) hq
        rw [hf, eq_comm, decide_eq_true_iff] at h1
        exact .inl ⟨rfl, h1, by rw [Jn.find_pos hf]⟩
      | false => exact .inr ⟨rfl, Jn.find_not hq hf⟩
    obtain ⟨r, hr⟩ : ∃ r, ns.length = r := ⟨_, rfl⟩
    obtain ⟨p, hp⟩ : ∃ p, Jn.pos ns l = p := ⟨_, rfl⟩
    rw [hr] at cA cP HF
    rw [hp] at cP HF
    rw [hr]
    have CP := Lib.hid cP
    clear hq hf hr hp cP hN hl
    go_enter Try.func35, Try.ntmps35
    go_wp2_with fail
    refine cA.mono ?_; rintro e w1 ⟨rfl, b1⟩
    go_wp2_with fail
    refine (CP.out w1 b1).mono ?_; rintro e w2 ⟨rfl, b2⟩
    go_wp2_with fail
    go_ret2
    exact ⟨⟨_, _, rfl, HF.out⟩, b1.trans (b2.mono b1.size)⟩
  | false =>
    have cI := fun w' (h : Below w.heap.size w w') => index_any ns l a ca w' (hN.below h) hl
    obtain ⟨r, hr⟩ : ∃ r, ns.length = r := ⟨_, rfl⟩
    rw [hr] at cA cI
    rw [hr]
    have CI := Lib.hid cI
    clear hq hr cI hN hl
    go_enter Try.func35, Try.ntmps35
    go_wp2_with fail
    refine cA.mono ?_; rintro e w1 ⟨rfl, b1⟩
    go_wp2_with fail
    refine (CI.out w1 b1).mono ?_; rintro e w2 ⟨⟨z, rfl, hz⟩, rfl⟩
    rcases hz with ⟨h1, h2⟩ | ⟨h1, h2⟩
    · have hz0 : (0 : Int) ≤ z := by omega
      have HZ := Lib.hid (And.intro h1 h2)
      clear h1 h2
      go_wp2_with fail
      go_ret2
      exact ⟨⟨_, _, rfl, .inl ⟨by first | rfl | simp, HZ.out.1, HZ.out.2⟩⟩, b1⟩
    · subst h2
      have HZ := Lib.hid h1
      clear h1
      go_wp2_with fail
      go_ret2
      exact ⟨⟨_, _, rfl, .inr ⟨by first | rfl | simp, HZ.out⟩⟩, b1⟩
theorem HO.zero (B : Nat) (w : World) : HO B w (.agg #[.int .u8 0, .int .i64 0, .string ⟨#[]⟩, .slice none 0 0, .slice none 0 0]) JV.zero :=
  ⟨.slice none 0 0, .slice none 0 0, [], rfl, ⟨by show 0 < 256; omega, ⟨by show (-9223372036854775808 : Int) ≤ 0; omega, by show (0 : Int) ≤ 9223372036854775807; omega⟩, Nat.zero_le _, Nat.zero_le _, Nat.zero_le _, fun x h => by simp [JV.zero, JV.ns] at h⟩, World.ownsRow_nil _ _ _ _, World.ownsRow_nil _ _ _ _, rfl⟩
/-- a value's cells go to a block that lies ahead of it -/
theorem HO.set5 {B b : Nat} {w : World} {u : Value} {x : JV} (h : HO B w u x) (hb : b < B) (v0 v1 v2 v3 v4 : Value) :
    HO B (((((w.setCell ⟨b, 0, none⟩ v0).setCell ⟨b, 1, none⟩ v1).setCell ⟨b, 2, none⟩ v2).setCell ⟨b, 3, none⟩ v3).setCell ⟨b, 4, none⟩ v4) u x := h.stay fun k hk _ => by
  have hne : k ≠ b := by omega
  rw [heap_setCell_other _ ⟨b, 4, none⟩ k _ hne, heap_setCell_other _ ⟨b, 3, none⟩ k _ hne, heap_setCell_other _ ⟨b, 2, none⟩ k _ hne, heap_setCell_other _ ⟨b, 1, none⟩ k _ hne, heap_setCell_other _ ⟨b, 0, none⟩ k _ hne]
theorem HO.mono {B B' : Nat} {w : World} {u : Value} {x : JV} (h : HO B w u x) (hb : B' ≤ B) : HO B' w u x := by
  obtain ⟨nv, xv, cs, h1, h2, o1, o2, hc⟩ := h
  exact ⟨nv, xv, cs, h1, h2, own_mono o1 hb, own_mono o2 hb, HCSp.stay (fun b h _ => ⟨⟨by have := h.1; omega, h.2⟩, rfl⟩) _ _ hc⟩
/-- the five cells of such a value -/
theorem HO.five {B : Nat} {w : World} {u : Value} {x : JV} (h : HO B w u x) : ∃ a b ca cb, u = .agg #[.int .u8 (x.k : Int), .int .i64 x.n, .string (S x.t), .slice a x.ns.length ca, .slice b x.is.length cb] := by
  obtain ⟨cs, h1, h2⟩ := h.hcp
  obtain ⟨a, b, ca, cb, h3, _⟩ := h2.one
  subst h3
  exact ⟨a, b, ca, cb, h1⟩
theorem JV.get_no {x : JV} {l : List UInt8} (h : JV.find x.ns l = x.ns.length) : x.get l = (JV.zero, false) := by
  unfold JV.get
  by_cases hk : x.k = 5
  · rw [if_pos hk, if_neg (by omega)]
  · rw [if_neg hk]
set_option maxHeartbeats 2000000 in
set_option maxRecDepth 3000 in
theorem get_any (x : JV) (l : List UInt8) (hwt : x.wt ≤ 90000) (w : World) (v : Value) (hv : HV w v x) :
    Calls Try.prog 13 #[v, .string (S l)] w fun e w' => (∃ u, e = .returned (.tuple #[u, .bool (x.get l).2]) ∧ HO w.heap.size w' u (x.get l).1) ∧ Below w.heap.size w w' := by
  have hwe := x.wt_eq
  have hnl := JV.wn_len x.ns
  obtain ⟨cs, rfl, hc⟩ := hv
  obtain ⟨a, b, ca, cb, rfl, hB, hN, hI⟩ := hc.form
  have hl2 : x.ns.length ≤ 90000 := by omega
  have cF := fun w' (h : Below w.heap.size w w') => first_any x.ns l a ca w' (hN.below h) hl2
  obtain ⟨m, hm⟩ : ∃ m, x.is.length = m := ⟨_, rfl⟩
  obtain ⟨r, hr⟩ : ∃ m, x.ns.length = m := ⟨_, rfl⟩
  have HNO : Hid (JV.find x.ns l = x.ns.length → x.get l = (JV.zero, false)) := JV.get_no
  rw [hr] at cF HNO
  rw [hm, hr]
  obtain ⟨kI, hk⟩ : ∃ z : Int, z = (x.k : Int) := ⟨_, rfl⟩
  rw [← hk]
  obtain ⟨nI, hn⟩ : ∃ z : Int, z = x.n := ⟨_, rfl⟩
  obtain ⟨t, ht⟩ : ∃ z, z = x.t := ⟨_, rfl⟩
  rw [← hn, ← ht]
  have HM := Lib.hid hm
  have HR := Lib.hid hr
  have HK := Lib.hid hk
  have CF := Lib.hid cF
  have HWT : Hid (∀ (i : Nat) y, x.is[i]? = some y → y.wt ≤ 90000) := fun i y hy => by
    have := JV.wts_get hy
    omega
  have hm2 : (m : Int) ≤ 9223372036854775807 := by have := hB.2.2.2.2.1; unfold maxLen at this; omega
  clear hm hr hc hB hk hn ht cF hN hl2 hnl hwe
  obtain ⟨W1, hW1⟩ : ∃ W, W = w.alloc (.cells #[.int .u8 kI, .int .i64 nI, .string (S t), .slice a r ca, .slice b m cb] 25) := ⟨_, rfl⟩
  obtain ⟨W2, hW2⟩ : ∃ W, W = W1.alloc (.cells #[.int .u8 0, .int .i64 0, .string ⟨#[]⟩, .slice none 0 0, .slice none 0 0] 25) := ⟨_, rfl⟩
  have b1 : Below w.heap.size w W1 := by rw [hW1]; exact (Below.refl _ _).alloc (Nat.le_refl _) _
  have b12 : Below W1.heap.size W1 W2 := by rw [hW2]; exact (Below.refl _ _).alloc (Nat.le_refl _) _
  have V1 : VAt w.heap.size W1 (.int .u8 kI) (.int .i64 nI) (.string (S t)) (.slice a r ca) (.slice b m cb) := by rw [hW1]; exact VAt.new ..
  have V2 : VAt W1.heap.size W2 (.int .u8 0) (.int .i64 0) (.string ⟨#[]⟩) (.slice none 0 0) (.slice none 0 0) := by rw [hW2]; exact VAt.new ..
  have V1 := V1.below b12
  have c2 : Hid (Below w.heap.size w W2) := b1.trans (b12.mono b1.size)
  have e1 : W1.heap.size = w.heap.size + 1 := by rw [hW1]; simp
  have e2 : W2.heap.size = w.heap.size + 2 := by rw [hW2]; simp [e1]
  rw [e1] at V2
  have HE2 := Lib.hid e2
  have HZ : Hid (∀ B w, HO B w (.agg #[.int .u8 0, .int .i64 0, .string ⟨#[]⟩, .slice none 0 0, .slice none 0 0]) JV.zero) := HO.zero
  have HV1 := Lib.hid V1
  have HV2 := Lib.hid V2
  have HI0 : Hid (x.is = [] ∨ ∃ blk off, b = some ⟨blk, off, none⟩ ∧ HI w blk off x.is) := hI
  obtain ⟨⟨p0, p1, p2, p3, p4⟩, _⟩ := V1.cells
  obtain ⟨⟨q0, q1, q2, q3, q4⟩, qf⟩ := V2.cells
  clear b1 b12 e1 e2 hI V1 V2
  by_cases h1 : kI ≠ 5
  · have hb : (kI != 5) = true := bne_iff_ne.2 h1
    have HG : Hid (x.get l = (JV.zero, false)) := if_neg (by have := HK.out; omega)
    clear h1
    go_enter Try.func13, Try.ntmps13
    go_wp2_with fail
    rw [← hW1, ← hW2]
    clear hW1 hW2
    refine bodyPost_ret (results_val (fn := Try.f13) (t := 4) (u := 5) rfl _ _ rfl HV2.out rfl) rfl ?_
    rw [HG.out]
    exact ⟨⟨_, rfl, HZ.out _ _⟩, c2.out⟩
  obtain rfl : kI = 5 := Classical.not_not.1 h1
  have HK5 : Hid (x.k = 5) := by have := HK.out; show x.k = 5; omega
  clear h1
  go_enter Try.func13, Try.ntmps13
  go_wp2_with fail
  rw [← hW1, ← hW2]
  clear hW1 hW2
  go_wp2_with fail
  refine (CF.out W2 c2.out).mono ?_; rintro e w3 ⟨⟨z, f, rfl, hz⟩, b3⟩
  have HV1 := Lib.hid (HV1.out.below b3)
  have HV2 := Lib.hid (HV2.out.below b3)
  have c3 := Lib.hid (c2.out.trans (b3.mono c2.out.size))
  clear p0 p1 p2 p3 p4 q0 q1 q2 q3 q4 qf
  obtain ⟨⟨p0, p1, p2, p3, p4⟩, _⟩ := HV1.out.cells
  obtain ⟨⟨q0, q1, q2, q3, q4⟩, qf⟩ := HV2.out.cells
  rcases hz with ⟨rfl, hf, rfl⟩ | ⟨rfl, hf⟩
  · obtain ⟨p, hp⟩ : ∃ p, JV.find x.ns l = p := ⟨_, rfl⟩
    rw [hp] at hf
    rw [hp]
    have HF := Lib.hid hp
    clear hp
    by_cases him : (p : Int) < (m : Int)
    · obtain ⟨y, hy⟩ : ∃ y, x.is[p]? = some y := ⟨x.is[p]'(by have := HM.out; omega), List.getElem?_eq_getElem _⟩
      obtain ⟨blk, off, rfl, hII⟩ := items_at HI0.out hy
      obtain ⟨c0, c1, c2', c3', c4, f0, f1, f2, f3, f4, hcy⟩ := (HI.below c3.out _ _ _ hII).get hy
      obtain ⟨ya, yb, yca, ycb, rfl, rfl, rfl, rfl, rfl⟩ := five hcy
      have HG : Hid (x.get l = (y, true)) := by
        unfold Hid JV.get
        rw [if_pos HK5.out, HF.out, if_pos (by have := HR.out; omega), hy]
      have hvy : HV w3 (.agg #[.int .u8 (y.k : Int), .int .i64 y.n, .string (S y.t), .slice ya y.ns.length yca, .slice yb y.is.length ycb]) y := ⟨_, rfl, hcy⟩
      have cY := copy_any _ y (Nat.le_refl _) (HWT.out p y hy) w3 _ hvy
      clear hcy hII hy hvy
      go_wp2_with fail
      refine cY.mono ?_; rintro e w4 ⟨⟨u, rfl, hO⟩, b4⟩
      have c4 := Lib.hid (c3.out.trans (b4.mono c3.out.size))
      have HV2 := Lib.hid (HV2.out.below b4)
      obtain ⟨za, zb, zca, zcb, rfl⟩ := hO.five
      have HOO := Lib.hid hO
      have hsz : w.heap.size + 2 ≤ w3.heap.size := by rw [← HE2.out]; exact b3.size
      clear p0 p1 p2 p3 p4 q0 q1 q2 q3 q4 qf f0 f1 f2 f3 f4 hO
      obtain ⟨⟨q0, q1, q2, q3, q4⟩, qf⟩ := HV2.out.cells
      go_wp2_with fail
      have HB5 := below_val (b := w.heap.size + 1) c4.out (by omega) (.int .u8 (y.k : Int)) (.int .i64 y.n) (.string (S y.t)) (.slice za y.ns.length zca) (.slice zb y.is.length zcb)
      refine bodyPost_ret (results_val (fn := Try.f13) (t := 4) (u := 5) rfl _ _ rfl (HV2.out.set5 _ _ _ _ _) rfl) rfl ?_
      rw [HG.out]
      exact ⟨⟨_, rfl, (HO.set5 HOO.out (b := w.heap.size + 1) (by omega) _ _ _ _ _).mono (by omega)⟩, HB5⟩
    · have HG : Hid (x.get l = (JV.zero, false)) := by
        unfold Hid JV.get
        rw [if_pos HK5.out, HF.out, if_pos (by have := HR.out; omega), List.getElem?_eq_none (by have := HM.out; omega)]
      go_wp2_with fail
      refine bodyPost_ret (results_val (fn := Try.f13) (t := 4) (u := 5) rfl _ _ rfl (HV2.out.set5 _ _ _ _ _) rfl) rfl ?_
      rw [HG.out]
      exact ⟨⟨_, rfl, HZ.out _ _⟩, below_val c3.out (by omega) _ _ _ _ _⟩
  · have HG : Hid (x.get l = (JV.zero, false)) := HNO.out hf
    clear hf
    go_wp2_with fail
    refine bodyPost_ret (results_val (fn := Try.f13) (t := 4) (u := 5) rfl _ _ rfl (HV2.out.set5 _ _ _ _ _) rfl) rfl ?_
    rw [HG.out]
    exact ⟨⟨_, rfl, HZ.out _ _⟩, below_val c3.out (by omega) _ _ _ _ _⟩
end Go.Proofs.Ytcmalaabggohmaa
