/-
  The walk of ValueTells: it comes to true.
-/
import Derived.Test.YtcmalaabggohmaaValTelG
namespace Go.Proofs.Ytcmalaabggohmaa
open Go.RowKit

set_option maxHeartbeats 8000000 in
set_option maxRecDepth 10000 in
theorem law_ValueTells (x : JV) (v : Value) (y : JV) (u : Value) (s : ByteArray) (w : World) (hv : HV w v x) (hu : HV w u y) (_ : s.size ≤ maxLen) :
    Calls Try.prog 3 #[v, u, .string s] w fun e w' => e = .returned (.bool true) ∧ Below w.heap.size w w' := by
  obtain ⟨l, rfl⟩ := as_S s
  obtain ⟨a, b, ca, cb, a', b', ca', cb', rfl, rfl, hh⟩ := head2 hv hu
  obtain ⟨W3, hW3⟩ : ∃ W3, W3 = ((w.alloc (.cells #[.int .u8 (x.k : Int), .int .i64 x.n, .string (S x.t), .slice a x.ns.length ca, .slice b x.is.length cb] 25)).alloc (.cells #[.int .u8 (y.k : Int), .int .i64 y.n, .string (S y.t), .slice a' y.ns.length ca', .slice b' y.is.length cb'] 25)).alloc
          (.cells #[.int .u8 (x.k : Int), .int .i64 x.n, .string (S x.t), .slice a x.ns.length ca, .slice b x.is.length cb, .int .u8 (y.k : Int), .int .i64 y.n, .string (S y.t), .slice a' y.ns.length ca', .slice b' y.is.length cb'] 25) := ⟨_, rfl⟩
  obtain ⟨c3, HV1, HV2, HX, HY, cL⟩ := hh W3 hW3
  have HV1 := Lib.hid HV1
  have HV2 := Lib.hid HV2
  have HX := Lib.hid HX
  have HY := Lib.hid HY
  have C3 := Lib.hid c3
  have hsz := S_size l
  clear hh hv hu c3
  go_enter Try.func3, Try.ntmps3
  go_wp2_with fail
  rw [← hW3]
  clear hW3
  refine cL.mono ?_; rintro e w4 ⟨⟨B, rfl, hB⟩, rfl⟩
  by_cases hl : (20000 : Int) < (l.length : Int)
  · cases B
    all_goals
      go_wp2_with fail
      refine (awake_any _).mono ?_; rintro e w5 ⟨rfl, b5⟩
      go_wp2_with fail
      go_ret
      exact ⟨rfl, C3.out.trans (b5.mono C3.out.size)⟩
  cases B with
  | true =>
    go_wp2_with fail
    refine (awake_any _).mono ?_; rintro e w5 ⟨rfl, b5⟩
    go_wp2_with fail
    go_ret
    exact ⟨rfl, C3.out.trans (b5.mono C3.out.size)⟩
  | false =>
  have hwt : x.wt ≤ 90000 := by have := hB rfl; omega
  have hcw := x.cnt_wt
  have HW := Lib.hid hwt
  have HCn := Lib.hid (show x.cnt ≤ 90000 by omega)
  clear hB cL hcw
  obtain ⟨gb, hgb⟩ : ∃ c, (x.get l).2 = c := ⟨_, rfl⟩
  obtain ⟨Z, hZ⟩ : ∃ Z, (x.get l).1 = Z := ⟨_, rfl⟩
  have cG := get_any x l hwt W3 _ (HX.out W3 (Below.refl _ _))
  have cR := fun W h => refGet_any x l W _ (HX.out W h)
  rw [hgb, hZ] at cG
  rw [hgb, hZ] at cR
  have CR := Lib.hid cR
  clear hgb hZ cR hwt
  obtain ⟨⟨p0, p1, p2, p3, p4⟩, _⟩ := (HV1.out W3 (Below.refl _ _)).cells
  go_wp2_with fail
  refine cG.mono ?_; rintro e w5 ⟨⟨g, rfl, hg⟩, b5⟩
  obtain ⟨_, _, _, _, _, rfl, hcg, ga, gg, gca, gcb, rfl, rfl, rfl, rfl, rfl⟩ := hg.hv.cells
  obtain ⟨W6, hW6⟩ : ∃ W, W = w5.alloc (.cells #[.int .u8 (Z.k : Int), .int .i64 Z.n, .string (S Z.t), .slice ga Z.ns.length gca, .slice gg Z.is.length gcb] 25) := ⟨_, rfl⟩
  have b6 : Below w5.heap.size w5 W6 := by rw [hW6]; exact (Below.refl _ _).alloc (Nat.le_refl _) _
  have V7 : VAt w5.heap.size W6 (.int .u8 (Z.k : Int)) (.int .i64 Z.n) (.string (S Z.t)) (.slice ga Z.ns.length gca) (.slice gg Z.is.length gcb) := by rw [hW6]; exact VAt.new ..
  have H7 : HV W6 (.agg #[.int .u8 (Z.k : Int), .int .i64 Z.n, .string (S Z.t), .slice ga Z.ns.length gca, .slice gg Z.is.length gcb]) Z := ⟨_, rfl, HC.below b6 _ _ hcg⟩
  have B6 := Lib.hid (b5.trans (b6.mono b5.size))
  clear hg hcg b5 b6 cG
  clear p0 p1 p2 p3 p4
  obtain ⟨⟨p0, p1, p2, p3, p4⟩, _⟩ := (HV1.out W6 B6.out).cells
  rw [hW6] at p0 p1 p2 p3 p4
  have cR := CR.out W6 B6.out
  obtain ⟨zb, hzb⟩ : ∃ zb, zb = w5.heap.size := ⟨_, rfl⟩
  rw [← hzb] at V7
  go_wp2_with fail
  rw [← hW6, ← hzb]
  clear hW6 hzb
  refine cR.mono ?_; rintro e w7 ⟨g, rfl, hg, b7⟩
  obtain ⟨_, _, _, _, _, rfl, hcg, da, dd, dca, dcb, rfl, rfl, rfl, rfl, rfl⟩ := hg.cells
  obtain ⟨W8, hW8⟩ : ∃ W, W = w7.alloc (.cells #[.int .u8 (Z.k : Int), .int .i64 Z.n, .string (S Z.t), .slice da Z.ns.length dca, .slice dd Z.is.length dcb] 25) := ⟨_, rfl⟩
  have b8 : Below w7.heap.size w7 W8 := by rw [hW8]; exact (Below.refl _ _).alloc (Nat.le_refl _) _
  have V9 : VAt w7.heap.size W8 (.int .u8 (Z.k : Int)) (.int .i64 Z.n) (.string (S Z.t)) (.slice da Z.ns.length dca) (.slice dd Z.is.length dcb) := by rw [hW8]; exact VAt.new ..
  have H9 : HV W8 (.agg #[.int .u8 (Z.k : Int), .int .i64 Z.n, .string (S Z.t), .slice da Z.ns.length dca, .slice dd Z.is.length dcb]) Z := ⟨_, rfl, HC.below b8 _ _ hcg⟩
  have b68 := b7.trans (b8.mono b7.size)
  have V7 := V7.below b68
  have H7 := H7.below b68
  have B8 := Lib.hid (B6.out.trans (b68.mono B6.out.size))
  obtain ⟨tb, htb⟩ : ∃ tb, tb = w7.heap.size := ⟨_, rfl⟩
  rw [← htb] at V9
  clear hg hcg b7 b8 b68 cR p0 p1 p2 p3 p4 CR
  go_wp2_with fail
  rw [← hW8, ← htb]
  clear hW8 htb
  refine region_tl (X := x) (Y := y) (Z := Z) (gb := gb) (by kernel_rfl) (by kernel_rfl) (by simp) rfl rfl rfl rfl rfl rfl (HV1.out _ B8.out) (HV2.out _ B8.out) V7 V9 (HX.out _ B8.out) (HY.out _ B8.out) H7 H9 HW.out HCn.out rfl rfl (fun f w9 f0 b9 => ?_)
  have f0 : f 6 = .bool true := f0
  rw [putR_lit]
  simp only [putL, show ∀ i, ptl i = (Stl.contains i) from fun _ => rfl, Stl]
  simp
  rw [f0]
  go_wp2_with fail
  go_ret
  exact ⟨rfl, C3.out.trans ((B8.out.trans (b9.mono B8.out.size)).mono C3.out.size)⟩
end Go.Proofs.Ytcmalaabggohmaa
