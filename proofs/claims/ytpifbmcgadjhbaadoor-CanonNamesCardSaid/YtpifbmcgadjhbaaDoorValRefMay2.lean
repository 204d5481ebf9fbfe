/-
  What the document's May comes to.
-/
import Derived.Test.YtpifbmcgadjhbaaDoorValRefMay
namespace Go.Proofs.YtpifbmcgadjhbaaDoor
open Go.RowKit

/-- may a value be? -/
def JV.may (x : JV) : Bool := x.part && (decide (x.cnt ≤ 8192) && decide (x.dep ≤ 12))
set_option maxHeartbeats 1000000 in
set_option maxRecDepth 10000 in
theorem refMay_any (x : JV) (w : World) (v : Value) (hwt : x.wt ≤ 90000) (hv : HV w v x) :
    Calls Tryd.prog 23 #[v] w fun e w' => e = .returned (.bool x.may) ∧ Below w.heap.size w w' := by
  have hcw := x.cnt_wt
  have cP := fun w v (h : HV w v x) => refPart_any _ x (Nat.le_refl _) hwt w v h
  have cC := fun w v (h : HV w v x) => refCount_any _ x (Nat.le_refl _) (by omega) w v h
  have cD := fun w v (h : HV w v x) => refDepth_any _ x (Nat.le_refl _) (by omega) w v h
  have HM : Hid (x.may = (x.part && (decide (x.cnt ≤ 8192) && decide (x.dep ≤ 12)))) := rfl
  obtain ⟨cs, rfl, hc⟩ := hv
  obtain ⟨a, b, ca, cb, rfl, hB, hN, hI⟩ := hc.form
  have hv : HV w (.agg #[.int .u8 (x.k : Int), .int .i64 x.n, .string (S x.t), .slice a x.ns.length ca, .slice b x.is.length cb]) x := ⟨_, rfl, hc⟩
  obtain ⟨p, hp⟩ : ∃ p, x.part = p := ⟨_, rfl⟩
  obtain ⟨C, hC⟩ : ∃ C : Nat, x.cnt = C := ⟨_, rfl⟩
  obtain ⟨D, hD⟩ : ∃ D : Nat, x.dep = D := ⟨_, rfl⟩
  rw [hp] at cP
  rw [hC] at cC
  rw [hD] at cD
  obtain ⟨CI, hCI⟩ : ∃ z : Int, z = (C : Int) := ⟨_, rfl⟩
  obtain ⟨DI, hDI⟩ : ∃ z : Int, z = (D : Int) := ⟨_, rfl⟩
  rw [← hCI] at cC
  rw [← hDI] at cD
  have HM : Hid (x.may = (p && (decide (CI ≤ 8192) && decide (DI ≤ 12)))) := by
    rw [Hid, HM.out, hp, hC, hD]
    congr 1
    congr 1
    · rw [decide_eq_decide]; omega
    · rw [decide_eq_decide]; omega
  have HV0 := Lib.hid hv
  clear hp hC hD hCI hDI hv hc hB hN hI hcw
  generalize x.is.length = m at *
  generalize x.ns.length = r at *
  obtain ⟨W1, hW1⟩ : ∃ W, W = w.alloc (.cells #[.int .u8 (x.k : Int), .int .i64 x.n, .string (S x.t), .slice a r ca, .slice b m cb] 25) := ⟨_, rfl⟩
  have V1 : VAt w.heap.size W1 (.int .u8 (x.k : Int)) (.int .i64 x.n) (.string (S x.t)) (.slice a r ca) (.slice b m cb) := by rw [hW1]; exact VAt.new ..
  have b1 : Below w.heap.size w W1 := by rw [hW1]; exact (Below.refl _ _).alloc (Nat.le_refl _) _
  cases p
  · go_enter Tryd.func23, Tryd.ntmps23
    go_wp2_with fail
    rw [← hW1]
    refine (cP _ _ (HV0.out.below b1)).mono ?_; rintro e w2 ⟨rfl, b2⟩
    go_wp2_with fail
    go_ret
    exact ⟨ret_eq HM.out rfl, b1.trans (b2.mono b1.size)⟩
  · by_cases h1 : CI ≤ 8192
    · have HM : Hid (x.may = decide (DI ≤ 12)) := by rw [Hid, HM.out]; simp [h1]
      by_cases h2 : DI ≤ 12
      · have HM : Hid (x.may = true) := by rw [Hid, HM.out]; simp [h2]
        go_enter Tryd.func23, Tryd.ntmps23
        go_wp2_with fail
        rw [← hW1]
        refine (cP _ _ (HV0.out.below b1)).mono ?_; rintro e w2 ⟨rfl, b2⟩
        have V2 := V1.below b2
        have c2 := b1.trans (b2.mono b1.size)
        obtain ⟨⟨z0, z1, z2, z3, z4⟩, _⟩ := V2.cells
        go_wp2_with fail
        refine (cC _ _ (HV0.out.below c2)).mono ?_; rintro e w3 ⟨rfl, b3⟩
        have V3 := V2.below b3
        have c3 := c2.trans (b3.mono c2.size)
        clear z0 z1 z2 z3 z4
        obtain ⟨⟨z0, z1, z2, z3, z4⟩, _⟩ := V3.cells
        go_wp2_with fail
        refine (cD _ _ (HV0.out.below c3)).mono ?_; rintro e w4 ⟨rfl, b4⟩
        go_wp2_with fail
        go_ret
        exact ⟨ret_eq HM.out rfl, c3.trans (b4.mono c3.size)⟩
      · have HM : Hid (x.may = false) := by rw [Hid, HM.out]; simp [h2]
        go_enter Tryd.func23, Tryd.ntmps23
        go_wp2_with fail
        rw [← hW1]
        refine (cP _ _ (HV0.out.below b1)).mono ?_; rintro e w2 ⟨rfl, b2⟩
        have V2 := V1.below b2
        have c2 := b1.trans (b2.mono b1.size)
        obtain ⟨⟨z0, z1, z2, z3, z4⟩, _⟩ := V2.cells
        go_wp2_with fail
        refine (cC _ _ (HV0.out.below c2)).mono ?_; rintro e w3 ⟨rfl, b3⟩
        have V3 := V2.below b3
        have c3 := c2.trans (b3.mono c2.size)
        clear z0 z1 z2 z3 z4
        obtain ⟨⟨z0, z1, z2, z3, z4⟩, _⟩ := V3.cells
        go_wp2_with fail
        refine (cD _ _ (HV0.out.below c3)).mono ?_; rintro e w4 ⟨rfl, b4⟩
        go_wp2_with fail
        go_ret
        exact ⟨ret_eq HM.out (by first | rfl | (rw [decide_eq_false_iff_not]; omega)), c3.trans (b4.mono c3.size)⟩
    · have HM : Hid (x.may = false) := by rw [Hid, HM.out]; simp [h1]
      go_enter Tryd.func23, Tryd.ntmps23
      go_wp2_with fail
      rw [← hW1]
      refine (cP _ _ (HV0.out.below b1)).mono ?_; rintro e w2 ⟨rfl, b2⟩
      have V2 := V1.below b2
      have c2 := b1.trans (b2.mono b1.size)
      obtain ⟨⟨z0, z1, z2, z3, z4⟩, _⟩ := V2.cells
      go_wp2_with fail
      refine (cC _ _ (HV0.out.below c2)).mono ?_; rintro e w3 ⟨rfl, b3⟩
      go_wp2_with fail
      go_ret
      exact ⟨ret_eq HM.out (by first | rfl | (rw [decide_eq_false_iff_not]; omega)), c2.trans (b3.mono c2.size)⟩
end Go.Proofs.YtpifbmcgadjhbaaDoor
