/-
  The program's Encode: the closure that writes.
  The program's Encode.
-/
import Derived.Test.YtpifbmcgadjhbaaDoorCanProg
import Derived.Test.YtpifbmcgadjhbaaDoorValCnt
import Derived.Test.YtpifbmcgadjhbaaDoorValMay2
namespace Go.Proofs.YtpifbmcgadjhbaaDoor
section
open Go.RowKit

/-- the closure: its builder, its own variable -/
def Wf (b wb : Nat) : Value := .func (.func 17) #[] #[.pointer (some ⟨b, 0, none⟩), .pointer (some ⟨wb, 0, none⟩)]
def WfAt (b wb : Nat) (w : World) : Prop := w.heap[wb]? = some (.cells #[Wf b wb] 40 (0, 0))
theorem WfAt.cell {b wb : Nat} {w : World} (h : WfAt b wb w) : w.cell? ⟨wb, 0, none⟩ = some (.func (.func 17) #[] #[.pointer (some ⟨b, 0, none⟩), .pointer (some ⟨wb, 0, none⟩)]) := by
  rw [cell_of_row w wb 0 _ _ _ h]
  rfl
theorem WfAt.kb {b wb : Nat} {w w' : World} (h : WfAt b wb w) (k : KB b w w') (hne : wb ≠ b) : WfAt b wb w' := k.block h hne (by decide)
theorem VAt.kb {b q : Nat} {w w' : World} {a0 a1 a2 a3 a4 : Value} (h : VAt q w a0 a1 a2 a3 a4) (k : KB b w w') (hne : q ≠ b) : VAt q w' a0 a1 a2 a3 a4 := k.block h hne (by decide)
theorem bWrite_c (b : Nat) (l r : List UInt8) (c : ByteArray) (w : World) (hc : c = S r) (h : IsB b l w) (hlen : l.length + r.length ≤ 1000000000) :
    Calls Tryd.prog 18 #[.pointer (some ⟨b, 0, none⟩), .string c] w fun e w' => ∃ n : Int, e = .returned (.tuple #[.int .i64 n, .nilIface]) ∧ IsB b (l ++ r) w' ∧ KB b w w' := by
  subst hc
  exact (bWrite_any b l r w h hlen).mono fun _ _ ⟨h1, h2, h3⟩ => ⟨_, h1, h2, h3⟩
theorem nitems_at {w : World} {xs : List JV} {c : Option Addr} (hI : xs = [] ∨ ∃ blk off, c = some ⟨blk, off, none⟩ ∧ HI w blk off xs) {i : Nat} {y : JV} (hy : xs[i]? = some y) : ∃ blk off, c = some ⟨blk, off, none⟩ ∧ HI w blk off xs := by
  rcases hI with rfl | h
  · simp at hy
  · exact h
/-- what the closure is to do -/
def Wrs (w0 : World) (x : JV) : Prop := ∀ (w : World) (v : Value) (b wb : Nat) (l : List UInt8), HV w0 v x → Below w0.heap.size w0 w → w0.heap.size ≤ b → IsB b l w → WfAt b wb w → wb ≠ b → l.length + (Cn.form x).length ≤ 1000000000 →
    Calls Tryd.prog 17 #[v, .pointer (some ⟨b, 0, none⟩), .pointer (some ⟨wb, 0, none⟩)] w fun e w' => e = .returned (.tuple #[]) ∧ IsB b (l ++ Cn.form x) w' ∧ KB b w w'
set_option maxHeartbeats 4000000 in
set_option maxRecDepth 5000 in
/-- a value alone -/
theorem write_alone (w0 : World) (hT : TabN w0) (x : JV) (hp : x.part = true) (hk : x.k = 1 ∨ x.k = 2 ∨ x.k = 3) : Wrs w0 x := by
  intro w v b wb l hv hbel hb hB hW hne hlen
  have hvw := hv.below hbel
  obtain ⟨cs, rfl, hc⟩ := hvw
  obtain ⟨a, c, ca, cc, rfl, hJB, _, _⟩ := hc.form
  obtain ⟨m, hm⟩ : ∃ m, x.is.length = m := ⟨_, rfl⟩
  obtain ⟨s, hs⟩ : ∃ m, x.ns.length = m := ⟨_, rfl⟩
  obtain ⟨kI, hkI⟩ : ∃ z : Int, z = (x.k : Int) := ⟨_, rfl⟩
  obtain ⟨nI, hnI⟩ : ∃ z : Int, z = x.n := ⟨_, rfl⟩
  obtain ⟨tS, htS⟩ : ∃ z : ByteArray, z = S x.t := ⟨_, rfl⟩
  have hv' : HV w (.agg #[.int .u8 kI, .int .i64 nI, .string tS, .slice a s ca, .slice c m cc]) x := by rw [hkI, hnI, htS, ← hs, ← hm]; exact ⟨_, rfl, hc⟩
  rw [← hkI, ← hnI, ← htS, hs, hm]
  show Calls _ _ #[.agg #[.int .u8 kI, .int .i64 nI, .string tS, .slice a s ca, .slice c m cc], _, _] w _
  have h4 : (kI == 4) = false := beq_eq_false_iff_ne.2 (by omega)
  have h5 : (kI == 5) = false := beq_eq_false_iff_ne.2 (by omega)
  obtain ⟨W1, hW1⟩ : ∃ W, W = w.alloc (.cells #[.int .u8 kI, .int .i64 nI, .string tS, .slice a s ca, .slice c m cc] 25) := ⟨_, rfl⟩
  have g1 : Below w.heap.size w W1 := by rw [hW1]; exact (Below.refl _ _).alloc (Nat.le_refl _) _
  have k1 : KB b w W1 := KB.of_below (Nat.le_of_lt hB.lt) g1
  have hB1 := hB.below g1
  have b01 : Below w0.heap.size w0 W1 := hbel.trans (g1.mono hbel.size)
  have cA := alone_any x hp hk W1 _ (hv'.below g1) (hT.below b01)
  have HK1 := Lib.hid k1
  have HB1 := Lib.hid hB1
  have HL := Lib.hid hlen
  clear hv hc hJB hkI hnI htS hs hm hv' hB hW g1 k1 hB1 hk hp hbel b01 hlen
  go_enter Tryd.func17, Tryd.ntmps17
  go_wp2_with fail
  rw [← hW1]
  clear hW1
  refine cA.mono ?_; rintro e w2 ⟨rfl, b2⟩
  have cW := bWrite_c b l (Cn.form x) _ w2 rfl (HB1.out.below b2) HL.out
  have HK2 := Lib.hid (HK1.out.trans (KB.of_below (Nat.le_of_lt HB1.out.lt) b2))
  clear cA b2
  go_wp2_with fail
  refine cW.mono ?_; rintro e w3 ⟨n3, rfl, hB3, k3⟩
  have HB3 := Lib.hid hB3
  have HK3 := Lib.hid (HK2.out.trans k3)
  clear cW hB3 k3
  go_wp2_with fail
  go_end0
  exact ⟨rfl, HB3.out, HK3.out⟩
set_option maxHeartbeats 8000000 in
set_option maxRecDepth 5000 in
/-- a list -/
theorem write_list (w0 : World) (x : JV) (hk : x.k = 4) (hml : x.is.length ≤ 90000) (ih : ∀ (i : Nat) y, x.is[i]? = some y → Wrs w0 y) : Wrs w0 x := by
  intro w v b wb l hv hbel hb hB hW hne hlen
  obtain ⟨cs, rfl, hc⟩ := hv
  obtain ⟨a, c, ca, cc, rfl, hJB, _, hI⟩ := hc.form
  obtain ⟨m, hm⟩ : ∃ m, x.is.length = m := ⟨_, rfl⟩
  obtain ⟨s, hs⟩ : ∃ m, x.ns.length = m := ⟨_, rfl⟩
  obtain ⟨nI, hnI⟩ : ∃ z : Int, z = x.n := ⟨_, rfl⟩
  obtain ⟨tS, htS⟩ : ∃ z : ByteArray, z = S x.t := ⟨_, rfl⟩
  rw [hk, ← hnI, ← htS, hs, hm]
  show Calls _ _ #[.agg #[.int .u8 4, .int .i64 nI, .string tS, .slice a s ca, .slice c m cc], _, _] w _
  have hm2 : (m : Int) ≤ 90000 := by omega
  obtain ⟨q, hq⟩ : ∃ q, q = w.heap.size := ⟨_, rfl⟩
  obtain ⟨W1, hW1⟩ : ∃ W, W = w.alloc (.cells #[.int .u8 4, .int .i64 nI, .string tS, .slice a s ca, .slice c m cc] 25) := ⟨_, rfl⟩
  have g1 : Below w.heap.size w W1 := by rw [hW1]; exact (Below.refl _ _).alloc (Nat.le_refl _) _
  have V1 : VAt q W1 (.int .u8 4) (.int .i64 nI) (.string tS) (.slice a s ca) (.slice c m cc) := by rw [hW1, hq]; exact VAt.new ..
  have k1 : KB b w W1 := KB.of_below (Nat.le_of_lt hB.lt) g1
  have hB1 := hB.below g1
  have hqb : q ≠ b := by have := hB.lt; omega
  have F1 : WfAt b wb W1 := hW.kb k1 hne
  have b01 : Below w0.heap.size w0 W1 := hbel.trans (g1.mono hbel.size)
  have e4 : Cn.form x = 91 :: (Cn.cat false x.is ++ [93]) := by rw [Cn.form_eq, if_pos hk]
  rw [e4] at hlen
  have hlen' : l.length + (Cn.cat false x.is).length + 2 ≤ 1000000000 := by simp at hlen; omega
  have cW := bWrite_c b l [91] ⟨#[91]⟩ W1 rfl hB1 (by simp; omega)
  have HM := Lib.hid hm
  have HI0 := Lib.hid hI
  have HIH := Lib.hid ih
  have HK1 := Lib.hid k1
  have HV1 := Lib.hid V1
  have HF1 := Lib.hid F1
  have HB01 := Lib.hid b01
  have HL := Lib.hid hlen'
  have HQB := Lib.hid hqb
  have HNE := Lib.hid hne
  have HBB := Lib.hid hb
  rw [e4]
  clear hc hJB hnI htS hs hm hB hW g1 k1 hB1 hk hbel b01 hlen hlen' hI ih V1 F1 hqb hne hb e4 hml
  go_enter Tryd.func17, Tryd.ntmps17
  go_wp2_with fail
  rw [← hW1, ← hq]
  clear hW1 hq
  refine cW.mono ?_; rintro e w2 ⟨n2, rfl, hB2, k2⟩
  have V2 := HV1.out.kb k2 HQB.out
  obtain ⟨⟨p0, p1, p2, p3, p4⟩, pf⟩ := V2.cells
  have HB2 := Lib.hid hB2
  have HK2 := Lib.hid k2
  clear cW hB2 k2 V2
  go_wp2_with fail
  clear p0 p1 p2 p3 p4 pf
  go_loopw [19] (fun iv wr => ∃ (i : Nat) (o : List UInt8), iv = .int .i64 (i : Int) ∧ i ≤ m ∧ Hid (o = l ++ 91 :: Cn.cat false (x.is.take i)) ∧ IsB b o wr ∧ KB b W1 wr) (fun iv _ => m - (intOf iv).toNat)
  case atStart => exact ⟨0, l ++ [91], rfl, Nat.zero_le _, by show _ = _; rw [List.take_zero, Cn.cat], HB2.out, HK2.out⟩
  case round =>
    obtain ⟨i, o, rfl, hi, HO, hB, hk⟩ := hrel
    have hbr : Below w0.heap.size w0 wr := HB01.out.trans (hk.1.mono HBB.out)
    have HBR := Lib.hid hbr
    have HKr := Lib.hid hk
    have HBr := Lib.hid hB
    clear hbr hk hB
    by_cases hlt : (i : Int) < (m : Int)
    · obtain ⟨y, hy⟩ : ∃ y, x.is[i]? = some y := ⟨x.is[i]'(by have := HM.out; omega), List.getElem?_eq_getElem _⟩
      obtain ⟨blk, off, rfl, hII⟩ := nitems_at HI0.out hy
      obtain ⟨c0, c1, c2, c3, c4, d0, d1, d2, d3, d4, hcy⟩ := hII.get hy
      have lift : ∀ {o : Nat} {z : Value}, w0.cell? ⟨blk, o, none⟩ = some z → wr.cell? ⟨blk, o, none⟩ = some z := fun h => (HBR.out.cell (World.block_lt_of_cell? w0 _ h)).trans h
      have g0 := lift d0
      have g1 := lift d1
      have g2 := lift d2
      have g3 := lift d3
      have g4 := lift d4
      obtain ⟨ya, yb, yca, ycb, rfl, rfl, rfl, rfl, rfl⟩ := five hcy
      have hvy : HV w0 (.agg #[.int .u8 (y.k : Int), .int .i64 y.n, .string (S y.t), .slice ya y.ns.length yca, .slice yb y.is.length ycb]) y := ⟨_, rfl, hcy⟩
      have cY := HIH.out i y hy
      obtain ⟨K, hK⟩ : ∃ z : Int, z = (y.k : Int) := ⟨_, rfl⟩
      obtain ⟨N, hN⟩ : ∃ z : Int, z = y.n := ⟨_, rfl⟩
      obtain ⟨T, hTT⟩ : ∃ z : ByteArray, z = S y.t := ⟨_, rfl⟩
      obtain ⟨p, hp⟩ : ∃ z : Nat, z = y.ns.length := ⟨_, rfl⟩
      obtain ⟨r, hr⟩ : ∃ z : Nat, z = y.is.length := ⟨_, rfl⟩
      rw [← hK, ← hN, ← hTT, ← hp, ← hr] at hvy
      rw [← hK] at g0
      rw [← hN] at g1
      rw [← hTT] at g2
      rw [← hp] at g3
      rw [← hr] at g4
      have hst := Cn.cat_step hy
      have htk := Cn.cat_take false x.is (i + 1)
      have HST := Lib.hid hst
      have HTK := Lib.hid htk
      obtain ⟨D, hD⟩ : ∃ D, D = Cn.hd (decide (0 < i)) := ⟨_, rfl⟩
      have HD := Lib.hid hD
      have cC := comma_any i
      rw [← hD] at cC
      have hDl : D.length ≤ 1 := by rw [hD]; exact Cn.hd_len _
      have hol : o.length = l.length + 1 + (Cn.cat false (x.is.take i)).length := by rw [HO.out]; simp; omega
      have hsum : (Cn.cat false (x.is.take i)).length + D.length + (Cn.form y).length ≤ (Cn.cat false x.is).length := by
        rw [hst, ← hD] at htk
        simp only [List.length_append] at htk
        omega
      have hl1 : o.length + D.length ≤ 1000000000 := by have := HL.out; omega
      have hl2 : (o ++ D).length + (Cn.form y).length ≤ 1000000000 := by rw [List.length_append]; have := HL.out; omega
      have HL1 := Lib.hid hl1
      have HL2 := Lib.hid hl2
      obtain ⟨z, hz⟩ : ∃ z, z = wr.heap.size := ⟨_, rfl⟩
      obtain ⟨W3, hW3⟩ : ∃ W, W = wr.alloc (.cells #[.int .u8 K, .int .i64 N, .string T, .slice ya p yca, .slice yb r ycb] 25) := ⟨_, rfl⟩
      have g9 : Below wr.heap.size wr W3 := by rw [hW3]; exact (Below.refl _ _).alloc (Nat.le_refl _) _
      have V3 : VAt z W3 (.int .u8 K) (.int .i64 N) (.string T) (.slice ya p yca) (.slice yb r ycb) := by rw [hW3, hz]; exact VAt.new ..
      have HZB : Hid (z ≠ b) := by have := HBr.out.lt; show z ≠ b; omega
      have HB3 := Lib.hid (HBr.out.below g9)
      have HK3 := Lib.hid (HKr.out.trans (KB.of_below (Nat.le_of_lt HBr.out.lt) g9))
      have HV3 := Lib.hid V3
      have HVY := Lib.hid hvy
      have HCY := Lib.hid cY
      clear d0 d1 d2 d3 d4 hcy hII hy hK hN hTT hp hr hst htk hD hDl hol hsum hl1 hl2 g9 V3 hvy cY
      go_wp2_with fail
      rw [← hW3, ← hz]
      clear hW3 hz
      refine (cC W3).mono ?_; rintro e w4 ⟨rfl, rfl⟩
      have cW := bWrite_any b o D W3 HB3.out HL1.out
      clear cC
      go_wp2_with fail
      refine cW.mono ?_; rintro e w5 ⟨rfl, hB5, k5⟩
      have V5 := HV3.out.kb k5 HZB.out
      obtain ⟨⟨q0, q1, q2, q3, q4⟩, qf⟩ := V5.cells
      have HK5 := Lib.hid (HK3.out.trans k5)
      have F5 := (HF1.out.kb HK5.out HNE.out).cell
      have cY := HCY.out w5 _ b wb (o ++ D) HVY.out (HB01.out.trans (HK5.out.1.mono HBB.out)) HBB.out hB5 (HF1.out.kb HK5.out HNE.out) HNE.out HL2.out
      clear cW k5 V5 hB5
      go_wp2_with fail
      refine cY.mono ?_; rintro e w6 ⟨rfl, hB6, k6⟩
      have HB6 := Lib.hid hB6
      have HK6 := Lib.hid (HK5.out.trans k6)
      clear cY hB6 k6 q0 q1 q2 q3 q4 qf F5
      go_wp2_with fail
      go_roundw
      case rel =>
        refine ⟨i + 1, _, by go_num, by omega, ?_, HB6.out, HK6.out⟩
        show _ = _
        rw [HST.out, HO.out, ← HD.out]
        simp
      case measure => simp [intOf]; omega
    · obtain rfl : i = m := by omega
      have HO2 : Hid (o = l ++ 91 :: Cn.cat false x.is) := by
        have := HO.out
        rw [← HM.out, List.take_length] at this
        exact this
      have cW := bWrite_c b o [93] ⟨#[93]⟩ wr rfl HBr.out (by rw [HO2.out]; have := HL.out; simp; omega)
      clear HO
      go_wp2_with fail
      refine cW.mono ?_; rintro e w4 ⟨n4, rfl, hB4, k4⟩
      have HB4 := Lib.hid hB4
      have HK4 := Lib.hid (HK1.out.trans (HKr.out.trans k4))
      clear cW hB4 k4
      go_wp2_with fail
      go_end0
      refine ⟨rfl, ?_, HK4.out⟩
      have h6 := HB4.out
      rw [HO2.out] at h6
      simpa using h6
end

section
open Go.RowKit

set_option maxHeartbeats 8000000 in
set_option maxRecDepth 5000 in
/-- an object -/
theorem write_obj (w0 : World) (x : JV) (hk : x.k = 5) (hml : x.is.length ≤ 90000) (hnl : x.ns.length = x.is.length) (htx : ∀ n ∈ x.ns, Jn.txt n = true) (ih : ∀ (i : Nat) y, x.is[i]? = some y → Wrs w0 y) : Wrs w0 x := by
  intro w v b wb l hv hbel hb hB hW hne hlen
  obtain ⟨cs, rfl, hc⟩ := hv
  obtain ⟨a, c, ca, cc, rfl, hJB, hN0, hI⟩ := hc.form
  obtain ⟨m, hm⟩ : ∃ m, x.is.length = m := ⟨_, rfl⟩
  have hs : x.ns.length = m := by rw [hnl, hm]
  obtain ⟨nI, hnI⟩ : ∃ z : Int, z = x.n := ⟨_, rfl⟩
  obtain ⟨tS, htS⟩ : ∃ z : ByteArray, z = S x.t := ⟨_, rfl⟩
  rw [hk, ← hnI, ← htS, hs, hm]
  show Calls _ _ #[.agg #[.int .u8 5, .int .i64 nI, .string tS, .slice a m ca, .slice c m cc], _, _] w _
  have hm2 : (m : Int) ≤ 90000 := by omega
  obtain ⟨q, hq⟩ : ∃ q, q = w.heap.size := ⟨_, rfl⟩
  obtain ⟨W1, hW1⟩ : ∃ W, W = w.alloc (.cells #[.int .u8 5, .int .i64 nI, .string tS, .slice a m ca, .slice c m cc] 25) := ⟨_, rfl⟩
  have g1 : Below w.heap.size w W1 := by rw [hW1]; exact (Below.refl _ _).alloc (Nat.le_refl _) _
  have V1 : VAt q W1 (.int .u8 5) (.int .i64 nI) (.string tS) (.slice a m ca) (.slice c m cc) := by rw [hW1, hq]; exact VAt.new ..
  have k1 : KB b w W1 := KB.of_below (Nat.le_of_lt hB.lt) g1
  have hB1 := hB.below g1
  have hqb : q ≠ b := by have := hB.lt; omega
  have F1 : WfAt b wb W1 := hW.kb k1 hne
  have b01 : Below w0.heap.size w0 W1 := hbel.trans (g1.mono hbel.size)
  have e4 : Cn.form x = 123 :: (Cn.mem false x.ns x.is ++ [125]) := by rw [Cn.form_eq, if_neg (by omega), if_pos hk]
  rw [e4] at hlen
  have hlen' : l.length + (Cn.mem false x.ns x.is).length + 2 ≤ 1000000000 := by simp at hlen; omega
  have cW := bWrite_c b l [123] ⟨#[123]⟩ W1 rfl hB1 (by simp; omega)
  have HNN := Lib.hid hN0
  have HNL := Lib.hid hnl
  have HTX := Lib.hid htx
  have HS := Lib.hid hs
  clear hN0 hnl htx
  have HM := Lib.hid hm
  have HI0 := Lib.hid hI
  have HIH := Lib.hid ih
  have HK1 := Lib.hid k1
  have HV1 := Lib.hid V1
  have HF1 := Lib.hid F1
  have HB01 := Lib.hid b01
  have HL := Lib.hid hlen'
  have HQB := Lib.hid hqb
  have HNE := Lib.hid hne
  have HBB := Lib.hid hb
  rw [e4]
  clear hc hJB hnI htS hs hm hB hW g1 k1 hB1 hk hbel b01 hlen hlen' hI ih V1 F1 hqb hne hb e4 hml
  go_enter Tryd.func17, Tryd.ntmps17
  go_wp2_with fail
  rw [← hW1, ← hq]
  clear hW1 hq
  refine cW.mono ?_; rintro e w2 ⟨n2, rfl, hB2, k2⟩
  have V2 := HV1.out.kb k2 HQB.out
  obtain ⟨⟨p0, p1, p2, p3, p4⟩, pf⟩ := V2.cells
  have HB2 := Lib.hid hB2
  have HK2 := Lib.hid k2
  clear cW hB2 k2 V2
  go_wp2_with fail
  clear p0 p1 p2 p3 p4 pf
  go_loopw [38] (fun iv wr => ∃ (i : Nat) (o : List UInt8), iv = .int .i64 (i : Int) ∧ i ≤ m ∧ Hid (o = l ++ 123 :: Cn.mem false (x.ns.take i) (x.is.take i)) ∧ IsB b o wr ∧ KB b W1 wr) (fun iv _ => m - (intOf iv).toNat)
  case atStart => exact ⟨0, l ++ [123], rfl, Nat.zero_le _, by show _ = _; rw [List.take_zero, List.take_zero, Cn.mem], HB2.out, HK2.out⟩
  case round =>
    obtain ⟨i, o, rfl, hi, HO, hB, hk⟩ := hrel
    have hbr : Below w0.heap.size w0 wr := HB01.out.trans (hk.1.mono HBB.out)
    have HBR := Lib.hid hbr
    have HKr := Lib.hid hk
    have HBr := Lib.hid hB
    clear hbr hk hB
    by_cases hlt : (i : Int) < (m : Int)
    · obtain ⟨y, hy⟩ : ∃ y, x.is[i]? = some y := ⟨x.is[i]'(by have := HM.out; omega), List.getElem?_eq_getElem _⟩
      obtain ⟨blk, off, rfl, hII⟩ := nitems_at HI0.out hy
      obtain ⟨c0, c1, c2, c3, c4, d0, d1, d2, d3, d4, hcy⟩ := hII.get hy
      have lift : ∀ {o : Nat} {z : Value}, w0.cell? ⟨blk, o, none⟩ = some z → wr.cell? ⟨blk, o, none⟩ = some z := fun h => (HBR.out.cell (World.block_lt_of_cell? w0 _ h)).trans h
      have g0 := lift d0
      have g1 := lift d1
      have g2 := lift d2
      have g3 := lift d3
      have g4 := lift d4
      obtain ⟨ya, yb, yca, ycb, rfl, rfl, rfl, rfl, rfl⟩ := five hcy
      have hvy : HV w0 (.agg #[.int .u8 (y.k : Int), .int .i64 y.n, .string (S y.t), .slice ya y.ns.length yca, .slice yb y.is.length ycb]) y := ⟨_, rfl, hcy⟩
      have cY := HIH.out i y hy
      obtain ⟨K, hK⟩ : ∃ z : Int, z = (y.k : Int) := ⟨_, rfl⟩
      obtain ⟨N, hN⟩ : ∃ z : Int, z = y.n := ⟨_, rfl⟩
      obtain ⟨T, hTT⟩ : ∃ z : ByteArray, z = S y.t := ⟨_, rfl⟩
      obtain ⟨p, hp⟩ : ∃ z : Nat, z = y.ns.length := ⟨_, rfl⟩
      obtain ⟨r, hr⟩ : ∃ z : Nat, z = y.is.length := ⟨_, rfl⟩
      rw [← hK, ← hN, ← hTT, ← hp, ← hr] at hvy
      rw [← hK] at g0
      rw [← hN] at g1
      rw [← hTT] at g2
      rw [← hp] at g3
      rw [← hr] at g4
      obtain ⟨nm, hnm⟩ : ∃ nm, x.ns[i]? = some nm := ⟨x.ns[i]'(by have := HS.out; omega), List.getElem?_eq_getElem _⟩
      have hst := Cn.mem_step HNL.out hnm hy
      have htk := Cn.mem_take false x.ns x.is (i + 1)
      obtain ⟨nb, no, rfl, dn⟩ := HNN.out i nm hnm
      have gn := (HBR.out.cell (World.block_lt_of_cell? w0 _ dn)).trans dn
      have htn := HTX.out nm (List.mem_of_getElem? hnm)
      have cT := fun w => canText_any nm w htn
      have HST := Lib.hid hst
      have HTK := Lib.hid htk
      obtain ⟨D, hD⟩ : ∃ D, D = Cn.hd (decide (0 < i)) := ⟨_, rfl⟩
      have HD := Lib.hid hD
      have cC := comma_any i
      rw [← hD] at cC
      have hDl : D.length ≤ 1 := by rw [hD]; exact Cn.hd_len _
      have hol : o.length = l.length + 1 + (Cn.mem false (x.ns.take i) (x.is.take i)).length := by rw [HO.out]; simp; omega
      have hsum : (Cn.mem false (x.ns.take i) (x.is.take i)).length + D.length + (Qm.quo nm).length + 1 + (Cn.form y).length ≤ (Cn.mem false x.ns x.is).length := by
        rw [hst, ← hD] at htk
        simp only [List.length_append, List.length_cons] at htk
        omega
      have hl1 : o.length + D.length ≤ 1000000000 := by have := HL.out; omega
      have hl2 : (o ++ D ++ Qm.quo nm ++ [58]).length + (Cn.form y).length ≤ 1000000000 := by simp only [List.length_append, List.length_cons, List.length_nil]; have := HL.out; omega
      have hl3 : (o ++ D).length + (Qm.quo nm).length ≤ 1000000000 := by simp only [List.length_append]; have := HL.out; omega
      have hl4 : (o ++ D ++ Qm.quo nm).length + 1 ≤ 1000000000 := by simp only [List.length_append]; have := HL.out; omega
      have HL3 := Lib.hid hl3
      have HL4 := Lib.hid hl4
      have HL1 := Lib.hid hl1
      have HL2 := Lib.hid hl2
      obtain ⟨z, hz⟩ : ∃ z, z = wr.heap.size := ⟨_, rfl⟩
      obtain ⟨W3, hW3⟩ : ∃ W, W = wr.alloc (.cells #[.int .u8 K, .int .i64 N, .string T, .slice ya p yca, .slice yb r ycb] 25) := ⟨_, rfl⟩
      have g9 : Below wr.heap.size wr W3 := by rw [hW3]; exact (Below.refl _ _).alloc (Nat.le_refl _) _
      have V3 : VAt z W3 (.int .u8 K) (.int .i64 N) (.string T) (.slice ya p yca) (.slice yb r ycb) := by rw [hW3, hz]; exact VAt.new ..
      have HZB : Hid (z ≠ b) := by have := HBr.out.lt; show z ≠ b; omega
      have HB3 := Lib.hid (HBr.out.below g9)
      have HK3 := Lib.hid (HKr.out.trans (KB.of_below (Nat.le_of_lt HBr.out.lt) g9))
      have HV3 := Lib.hid V3
      have HVY := Lib.hid hvy
      have HCY := Lib.hid cY
      obtain ⟨Q, hQ⟩ : ∃ Q, Q = Qm.quo nm := ⟨_, rfl⟩
      have HQ := Lib.hid hQ
      obtain ⟨NM, hNM⟩ : ∃ N : ByteArray, N = S nm := ⟨_, rfl⟩
      rw [← hNM] at gn cT
      rw [← hQ] at cT HL2 HL3 HL4
      have HGN : Hid (w0.cell? ⟨nb, no + i, none⟩ = some (.string NM)) := by rw [hNM]; exact dn
      clear d0 d1 d2 d3 d4 hcy hII hy hK hN hTT hp hr hst htk hD hDl hol hsum hl1 hl2 g9 V3 hvy cY hnm hQ hNM dn hl3 hl4 htn gn
      go_wp2_with fail
      rw [← hW3, ← hz]
      clear hW3 hz
      refine (cC W3).mono ?_; rintro e w4 ⟨rfl, rfl⟩
      have cW := bWrite_any b o D W3 HB3.out HL1.out
      clear cC
      go_wp2_with fail
      refine cW.mono ?_; rintro e w5 ⟨rfl, hB5, k5⟩
      have HK5 := Lib.hid (HK3.out.trans k5)
      have HV5 := Lib.hid (HV3.out.kb k5 HZB.out)
      have HB5 := Lib.hid hB5
      have gn := (((HB01.out.trans (HK5.out.1.mono HBB.out)).cell (World.block_lt_of_cell? w0 _ HGN.out)).trans HGN.out)
      obtain ⟨⟨p0, p1, p2, p3, p4⟩, pf⟩ := (HV1.out.kb HK5.out HQB.out).cells
      clear cW k5 hB5
      go_wp2_with fail
      refine (cT w5).mono ?_; rintro e w7 ⟨rfl, b7⟩
      have cW2 := bWrite_any b (o ++ D) Q w7 (HB5.out.below b7) HL3.out
      have HK7 := Lib.hid (HK5.out.trans (KB.of_below (Nat.le_of_lt HB5.out.lt) b7))
      have HV7 := Lib.hid (HV5.out.below b7)
      clear b7 cT p0 p1 p2 p3 p4 pf gn
      go_wp2_with fail
      refine cW2.mono ?_; rintro e w8 ⟨rfl, hB8, k8⟩
      have cW3 := bWrite_c b (o ++ D ++ Q) [58] ⟨#[58]⟩ w8 rfl hB8 HL4.out
      have HK8 := Lib.hid (HK7.out.trans k8)
      have HV8 := Lib.hid (HV7.out.kb k8 HZB.out)
      clear cW2 hB8 k8
      go_wp2_with fail
      refine cW3.mono ?_; rintro e w9 ⟨n9, rfl, hB9, k9⟩
      have HK9 := Lib.hid (HK8.out.trans k9)
      obtain ⟨⟨q0, q1, q2, q3, q4⟩, qf⟩ := (HV8.out.kb k9 HZB.out).cells
      have F5 := (HF1.out.kb HK9.out HNE.out).cell
      have cY := HCY.out w9 _ b wb (o ++ D ++ Q ++ [58]) HVY.out (HB01.out.trans (HK9.out.1.mono HBB.out)) HBB.out hB9 (HF1.out.kb HK9.out HNE.out) HNE.out HL2.out
      clear cW3 hB9 k9
      go_wp2_with fail
      refine cY.mono ?_; rintro e w6 ⟨rfl, hB6, k6⟩
      have HB6 := Lib.hid hB6
      have HK6 := Lib.hid (HK9.out.trans k6)
      clear cY hB6 k6 q0 q1 q2 q3 q4 qf F5
      go_wp2_with fail
      go_roundw
      case rel =>
        refine ⟨i + 1, _, by go_num, by omega, ?_, HB6.out, HK6.out⟩
        show _ = _
        rw [HST.out, HO.out, ← HD.out, ← HQ.out]
        simp
      case measure => simp [intOf]; omega
    · obtain rfl : i = m := by omega
      have HO2 : Hid (o = l ++ 123 :: Cn.mem false x.ns x.is) := by
        have := HO.out
        rw [← HM.out, List.take_length, ← HNL.out, List.take_length] at this
        exact this
      have cW := bWrite_c b o [125] ⟨#[125]⟩ wr rfl HBr.out (by rw [HO2.out]; have := HL.out; simp; omega)
      clear HO
      go_wp2_with fail
      refine cW.mono ?_; rintro e w4 ⟨n4, rfl, hB4, k4⟩
      have HB4 := Lib.hid hB4
      have HK4 := Lib.hid (HK1.out.trans (HKr.out.trans k4))
      clear cW hB4 k4
      go_wp2_with fail
      go_end0
      refine ⟨rfl, ?_, HK4.out⟩
      have h6 := HB4.out
      rw [HO2.out] at h6
      simpa using h6
theorem write_any (w0 : World) (hT : TabN w0) : ∀ (K : Nat) (x : JV), x.cnt ≤ K → x.wt ≤ 90000 → x.part = true → Wrs w0 x := by
  intro K
  induction K with
  | zero => intro x h; have := x.cnt_pos; omega
  | succ K ih =>
    intro x hK hwt hp
    have hml : x.is.length ≤ 90000 := by have := JV.len_le x.is; have := x.cnt_eq; have := x.cnt_wt; omega
    have hit : ∀ (i : Nat) y, x.is[i]? = some y → Wrs w0 y := fun i y hy => by
      have h1 := JV.wts_get hy
      have h2 := JV.cnt_item hy
      have h3 := x.wt_eq
      exact ih y (by omega) (by omega) (JV.parts_get (Cn.part_items hp) hy)
    rcases Cn.part_k hp with h | h | h | h | h
    · exact write_alone w0 hT x hp (.inl h)
    · exact write_alone w0 hT x hp (.inr (.inl h))
    · exact write_alone w0 hT x hp (.inr (.inr h))
    · exact write_list w0 x h hml hit
    · obtain ⟨k, n, t, ns, is⟩ := x
      obtain ⟨_, _, _, _, p5⟩ := Cn.part_bare hp
      obtain ⟨_, _, q1, _, _, q2⟩ := p5 h
      exact write_obj w0 _ h hml q1 q2 hit
/-- what Encode tells -/
def ENC (x : JV) : List UInt8 × Nat := if x.may = true then (Cn.form x, 0) else ([], 3)
theorem ENC_ok {x : JV} (h : x.may = true) : ENC x = (Cn.form x, 0) := if_pos h
theorem ENC_no {x : JV} (h : x.may = false) : ENC x = ([], 3) := if_neg (by rw [h]; decide)
theorem store_wf (W : World) (n : Nat) (hn : n = W.heap.size) (f : Fn) (cap : Array Value) (t : TypeId) : (store ⟨n, 0, none⟩ (.func f #[] cap)).run Tryd.prog (W.alloc (.cells #[.nilFunc] t)) = .ok () (W.alloc (.cells #[.func f #[] cap] t)) := by
  subst hn
  have hc : (W.alloc (.cells #[.nilFunc] t)).cell? ⟨W.heap.size, 0, none⟩ = some .nilFunc := by rw [cell_of_row _ _ 0 _ _ _ (heap_alloc_new W _)]; rfl
  have hf : (W.alloc (.cells #[.nilFunc] t)).frozen? ⟨W.heap.size, 0, none⟩ = false := Lib.frozen_of_heap (heap_alloc_new W _) 0
  rw [run_store _ _ _ _ _ rfl, hc]
  simp only [hf, Bool.false_eq_true, ↓reduceIte]
  rw [World.setCell_alloc_new]
  rfl
set_option maxHeartbeats 8000000 in
set_option maxRecDepth 5000 in
theorem Encode_any (x : JV) (v : Value) (w : World) (hwt : x.wt ≤ 90000) (hv : HV w v x) (hT : TabN w) :
    Calls Tryd.prog 10 #[v] w fun e w' => e = .returned (.tuple #[.string (S (ENC x).1), .int .i64 ((ENC x).2 : Int)]) ∧ Below w.heap.size w w' := by
  have hmf : ∀ (fn : Fn) (first cap : Array Value) (w : World), (Instr.makeFunc fn first cap).run Tryd.prog w = .ok (.func fn first cap) w := fun _ _ _ _ => rfl
  obtain ⟨cs, rfl, hc⟩ := hv
  obtain ⟨a, c, ca, cb, rfl, _, _, _⟩ := hc.form
  obtain ⟨K, hK⟩ : ∃ z : Int, z = (x.k : Int) := ⟨_, rfl⟩
  obtain ⟨N, hNN⟩ : ∃ z : Int, z = x.n := ⟨_, rfl⟩
  obtain ⟨T, hTT⟩ : ∃ z : ByteArray, z = S x.t := ⟨_, rfl⟩
  obtain ⟨p, hp⟩ : ∃ z : Nat, z = x.ns.length := ⟨_, rfl⟩
  obtain ⟨r, hr⟩ : ∃ z : Nat, z = x.is.length := ⟨_, rfl⟩
  have hv : HV w (.agg #[.int .u8 K, .int .i64 N, .string T, .slice a p ca, .slice c r cb]) x := by rw [hK, hNN, hTT, hp, hr]; exact ⟨_, rfl, hc⟩
  rw [← hK, ← hNN, ← hTT, ← hp, ← hr]
  show Calls _ _ #[.agg #[.int .u8 K, .int .i64 N, .string T, .slice a p ca, .slice c r cb]] w _
  clear hc hK hNN hTT hp hr
  obtain ⟨q, hq⟩ : ∃ q, q = w.heap.size := ⟨_, rfl⟩
  obtain ⟨W1, hW1⟩ : ∃ W, W = w.alloc (.cells #[.int .u8 K, .int .i64 N, .string T, .slice a p ca, .slice c r cb] 25) := ⟨_, rfl⟩
  have g1 : Below w.heap.size w W1 := by rw [hW1]; exact (Below.refl _ _).alloc (Nat.le_refl _) _
  have V1 : VAt q W1 (.int .u8 K) (.int .i64 N) (.string T) (.slice a p ca) (.slice c r cb) := by rw [hW1, hq]; exact VAt.new ..
  cases hm : x.may with
  | false =>
    have cM := may_any x W1 _ hwt (hv.below g1) hm
    rw [ENC_no hm]
    have HG := Lib.hid g1
    clear hv hm g1 V1
    go_enter Tryd.func10, Tryd.ntmps10
    go_wp2_with fail
    rw [← hW1]
    clear hW1
    refine cM.mono ?_; rintro e w2 ⟨rfl, b2⟩
    go_wp2_with fail
    go_ret2
    exact ⟨rfl, HG.out.trans (b2.mono HG.out.size)⟩
  | true =>
    have cM := may_any x W1 _ hwt (hv.below g1) hm
    rw [ENC_ok hm]
    have hpt : x.part = true := by
      unfold JV.may at hm
      simp only [Bool.and_eq_true] at hm
      exact hm.1
    have hlen : (Cn.form x).length ≤ 1000000000 := by
      obtain ⟨cs, _, hc⟩ := hv
      have := Cn.form_len x (Cn.inr_of x cs hc)
      omega
    have cWr := write_any w hT _ x (Nat.le_refl _) hwt hpt
    have HG := Lib.hid g1
    have HV0 := Lib.hid hv
    have HV1 := Lib.hid V1
    have HCW := Lib.hid cWr
    have HLN := Lib.hid hlen
    clear hv hm g1 V1 cWr hlen hpt
    go_enter Tryd.func10, Tryd.ntmps10
    go_wp2_with fail
    rw [← hW1, ← hq]
    refine cM.mono ?_; rintro e w2 ⟨rfl, b2⟩
    obtain ⟨b, hb⟩ : ∃ b, b = w2.heap.size := ⟨_, rfl⟩
    obtain ⟨W3, hW3⟩ : ∃ W, W = w2.alloc (.cells #[.pointer none, .slice none 0 0] 39) := ⟨_, rfl⟩
    obtain ⟨W4, hW4⟩ : ∃ W, W = W3.alloc (.cells #[Wf b (b + 1)] 40) := ⟨_, rfl⟩
    have g3 : Below w2.heap.size w2 W3 := by rw [hW3]; exact (Below.refl _ _).alloc (Nat.le_refl _) _
    have g4 : Below W3.heap.size W3 W4 := by rw [hW4]; exact (Below.refl _ _).alloc (Nat.le_refl _) _
    have s3 : W3.heap.size = b + 1 := by rw [hW3, hb]; simp
    have hB3 : IsB b [] W3 := by rw [hW3, hb]; exact IsB.new w2
    have hB4 := hB3.below g4
    have hF4 : WfAt b (b + 1) W4 := by rw [hW4, ← s3]; exact heap_alloc_new W3 _
    have h02 : Below w.heap.size w w2 := HG.out.trans (b2.mono HG.out.size)
    have h03 : Below w.heap.size w W3 := h02.trans (g3.mono h02.size)
    have h04 : Below w.heap.size w W4 := h03.trans (g4.mono h03.size)
    have hbw : w.heap.size ≤ b := by rw [hb]; exact h02.size
    have V4 := ((HV1.out.below b2).below g3).below g4
    have cW := HCW.out W4 _ b (b + 1) [] HV0.out h04 hbw hB4 hF4 (by omega) (by have := HLN.out; simp; omega)
    rw [List.nil_append] at cW
    obtain ⟨⟨p0, p1, p2, p3, p4⟩, pf⟩ := V4.cells
    have f4 := hF4.cell
    have HB4 := Lib.hid hB4
    have H04 := Lib.hid h04
    have HBW := Lib.hid hbw
    have hst : (store ⟨w2.heap.size + 1, 0, none⟩ (.func (.func 17) #[] #[.pointer (some ⟨w2.heap.size, 0, none⟩), .pointer (some ⟨w2.heap.size + 1, 0, none⟩)])).run Tryd.prog ((w2.alloc (.cells #[.pointer none, .slice none 0 0] 39)).alloc (.cells #[.nilFunc] 40)) = .ok () W4 := by
      rw [hW4, hW3, hb]
      exact store_wf _ _ (by simp) _ _ _
    clear cM b2 hW1 g3 g4 s3 hB3 hB4 hF4 h02 h03 h04 V4 hq hbw hW3 hW4
    subst hb
    go_wp2_with fail
    refine cW.mono ?_; rintro e w5 ⟨rfl, hB5, k5⟩
    have cS := bString_any _ _ w5 hB5
    have HB5 := Lib.hid hB5
    have HK5 := Lib.hid k5
    clear cW hB5 k5 p0 p1 p2 p3 p4 pf f4 hst
    go_wp2_with fail
    refine cS.mono ?_; rintro e w6 ⟨rfl, b6⟩
    go_wp2_with fail
    go_ret2
    exact ⟨rfl, (H04.out.trans (HK5.out.1.mono HBW.out)).trans (b6.mono HBW.out)⟩
end
end Go.Proofs.YtpifbmcgadjhbaaDoor
