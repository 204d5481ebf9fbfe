/-
  ValRefMay2, ValCnt, ValForm, ValMay, ValMay2: one text.
-/
import Derived.Test.YtoipjlhddpeicaaGreatDoorValRefMay
import Derived.Test.YtoipjlhddpeicaaGreatDoorValRefDep
import Derived.Test.YtoipjlhddpeicaaGreatDoorValRise
import Derived.Test.YtoipjlhddpeicaaGreatDoorText
import Derived.Laws.Cover1
import Derived.BigQuiet
import Derived.Deep.QuietTactic
namespace Go.Proofs.YtoipjlhddpeicaaGreatDoor
section
open Go.RowKit

/-- may a value be? -/
def JV.may (x : JV) : Bool := x.part && (decide (x.cnt ≤ 8192) && decide (x.dep ≤ 12))
set_option maxHeartbeats 1000000 in
set_option maxRecDepth 10000 in
theorem refMay_any (x : JV) (w : World) (v : Value) (hwt : x.wt ≤ 90000) (hv : HV w v x) :
    Calls Tryz.prog 18 #[v] w fun e w' => e = .returned (.bool x.may) ∧ Below w.heap.size w w' := by
  have hcw := x.cnt_wt
  have cP := fun w v (h : HV w v x) => refPart_any _ x (Nat.le_refl _) hwt w v h
  have cC := fun w v (h : HV w v x) => refCount_any _ x (Nat.le_refl _) (by omega) w v h
  have cD := fun w v (h : HV w v x) => refDepth_any _ x (Nat.le_refl _) (by omega) w v h
  have HM : Hid (x.may = (x.part && (decide (x.cnt ≤ 8192) && decide (x.dep ≤ 12)))) := rfl
  obtain ⟨cs, rfl, hc⟩ := hv
  obtain ⟨a, b, ca, cb, rfl, hB, hN, hI⟩ := hc.form
  have hv : HV w (.agg #[.int .u8 (x.k : Int), .int .i64 x.n, .string (S x.t), .slice a x.ns.length ca, .slice b x.is.length cb]) x := ⟨_, rfl, hc⟩
  obtain ⟨p, hp⟩ : ∃ p, x.part = p := ⟨_, rfl⟩
  obtain ⟨C, hC⟩ : ∃ C : Nat, x.cnt = C := ⟨_, rfl⟩
  obtain ⟨D, hD⟩ : ∃ D : Nat, x.dep = D := ⟨_, rfl⟩
  rw [hp] at cP
  rw [hC] at cC
  rw [hD] at cD
  obtain ⟨CI, hCI⟩ : ∃ z : Int, z = (C : Int) := ⟨_, rfl⟩
  obtain ⟨DI, hDI⟩ : ∃ z : Int, z = (D : Int) := ⟨_, rfl⟩
  rw [← hCI] at cC
  rw [← hDI] at cD
  have HM : Hid (x.may = (p && (decide (CI ≤ 8192) && decide (DI ≤ 12)))) := by
    rw [Hid, HM.out, hp, hC, hD]
    congr 1
    congr 1
    · rw [decide_eq_decide]; omega
    · rw [decide_eq_decide]; omega
  have HV0 := Lib.hid hv
  clear hp hC hD hCI hDI hv hc hB hN hI hcw
  generalize x.is.length = m at *
  generalize x.ns.length = r at *
  obtain ⟨W1, hW1⟩ : ∃ W, W = w.alloc (.cells #[.int .u8 (x.k : Int), .int .i64 x.n, .string (S x.t), .slice a r ca, .slice b m cb] 26) := ⟨_, rfl⟩
  have V1 : VAt w.heap.size W1 (.int .u8 (x.k : Int)) (.int .i64 x.n) (.string (S x.t)) (.slice a r ca) (.slice b m cb) := by rw [hW1]; exact VAt.new ..
  have b1 : Below w.heap.size w W1 := by rw [hW1]; exact (Below.refl _ _).alloc (Nat.le_refl _) _
  cases p
  · go_enter Tryz.func18, Tryz.ntmps18
    go_wp2_with fail
    rw [← hW1]
    refine (cP _ _ (HV0.out.below b1)).mono ?_; rintro e w2 ⟨rfl, b2⟩
    go_wp2_with fail
    go_ret
    exact ⟨ret_eq HM.out rfl, b1.trans (b2.mono b1.size)⟩
  · by_cases h1 : CI ≤ 8192
    · have HM : Hid (x.may = decide (DI ≤ 12)) := by rw [Hid, HM.out]; simp [h1]
      by_cases h2 : DI ≤ 12
      · have HM : Hid (x.may = true) := by rw [Hid, HM.out]; simp [h2]
        go_enter Tryz.func18, Tryz.ntmps18
        go_wp2_with fail
        rw [← hW1]
        refine (cP _ _ (HV0.out.below b1)).mono ?_; rintro e w2 ⟨rfl, b2⟩
        have V2 := V1.below b2
        have c2 := b1.trans (b2.mono b1.size)
        obtain ⟨⟨z0, z1, z2, z3, z4⟩, _⟩ := V2.cells
        go_wp2_with fail
        refine (cC _ _ (HV0.out.below c2)).mono ?_; rintro e w3 ⟨rfl, b3⟩
        have V3 := V2.below b3
        have c3 := c2.trans (b3.mono c2.size)
        clear z0 z1 z2 z3 z4
        obtain ⟨⟨z0, z1, z2, z3, z4⟩, _⟩ := V3.cells
        go_wp2_with fail
        refine (cD _ _ (HV0.out.below c3)).mono ?_; rintro e w4 ⟨rfl, b4⟩
        go_wp2_with fail
        go_ret
        exact ⟨ret_eq HM.out rfl, c3.trans (b4.mono c3.size)⟩
      · have HM : Hid (x.may = false) := by rw [Hid, HM.out]; simp [h2]
        go_enter Tryz.func18, Tryz.ntmps18
        go_wp2_with fail
        rw [← hW1]
        refine (cP _ _ (HV0.out.below b1)).mono ?_; rintro e w2 ⟨rfl, b2⟩
        have V2 := V1.below b2
        have c2 := b1.trans (b2.mono b1.size)
        obtain ⟨⟨z0, z1, z2, z3, z4⟩, _⟩ := V2.cells
        go_wp2_with fail
        refine (cC _ _ (HV0.out.below c2)).mono ?_; rintro e w3 ⟨rfl, b3⟩
        have V3 := V2.below b3
        have c3 := c2.trans (b3.mono c2.size)
        clear z0 z1 z2 z3 z4
        obtain ⟨⟨z0, z1, z2, z3, z4⟩, _⟩ := V3.cells
        go_wp2_with fail
        refine (cD _ _ (HV0.out.below c3)).mono ?_; rintro e w4 ⟨rfl, b4⟩
        go_wp2_with fail
        go_ret
        exact ⟨ret_eq HM.out (by first | rfl | (rw [decide_eq_false_iff_not]; omega)), c3.trans (b4.mono c3.size)⟩
    · have HM : Hid (x.may = false) := by rw [Hid, HM.out]; simp [h1]
      go_enter Tryz.func18, Tryz.ntmps18
      go_wp2_with fail
      rw [← hW1]
      refine (cP _ _ (HV0.out.below b1)).mono ?_; rintro e w2 ⟨rfl, b2⟩
      have V2 := V1.below b2
      have c2 := b1.trans (b2.mono b1.size)
      obtain ⟨⟨z0, z1, z2, z3, z4⟩, _⟩ := V2.cells
      go_wp2_with fail
      refine (cC _ _ (HV0.out.below c2)).mono ?_; rintro e w3 ⟨rfl, b3⟩
      go_wp2_with fail
      go_ret
      exact ⟨ret_eq HM.out (by first | rfl | (rw [decide_eq_false_iff_not]; omega)), c2.trans (b3.mono c2.size)⟩
end

section
open Go.RowKit

theorem five {w : World} {c0 c1 c2 c3 c4 : Value} {y : JV} (h : HC w [c0, c1, c2, c3, c4] y) : ∃ a b ca cb, c0 = .int .u8 (y.k : Int) ∧ c1 = .int .i64 y.n ∧ c2 = .string (S y.t) ∧ c3 = .slice a y.ns.length ca ∧ c4 = .slice b y.is.length cb := by
  obtain ⟨a, b, ca, cb, hcs, _⟩ := h.form
  simp only [List.cons.injEq, and_true] at hcs
  exact ⟨a, b, ca, cb, hcs.1, hcs.2.1, hcs.2.2.1, hcs.2.2.2.1, hcs.2.2.2.2⟩
theorem nests_any (w : World) (x : JV) (a b : Option Addr) (ca cb : Nat) (l m : Nat) (kI n : Int) (t : List UInt8) (hk : kI = (x.k : Int)) {c : Bool} (hcc : c = decide (x.k = 4 ∨ x.k = 5)) :
    Calls Tryz.prog 50 #[.agg #[.int .u8 kI, .int .i64 n, .string (S t), .slice a l ca, .slice b m cb]] w fun e w' => e = .returned (.bool c) ∧ Below w.heap.size w w' := by
  have b1 : Below w.heap.size w (w.alloc (.cells #[.int .u8 kI, .int .i64 n, .string (S t), .slice a l ca, .slice b m cb] 26)) := (Below.refl _ _).alloc (Nat.le_refl _) _
  have HK := Lib.hid hk
  have HC := Lib.hid hcc
  clear hk hcc
  by_cases h4 : kI = 4
  · subst h4
    go_enter Tryz.func50, Tryz.ntmps50
    go_wp2_with fail
    go_ret
    refine ⟨ret_bool ?_, b1⟩
    rw [HC.out, eq_comm, decide_eq_true_iff]
    have := HK.out
    omega
  · have hb : (kI == 4) = false := beq_eq_false_iff_ne.2 h4
    by_cases h5 : kI = 5
    · subst h5
      clear hb h4
      go_enter Tryz.func50, Tryz.ntmps50
      go_wp2_with fail
      go_ret
      refine ⟨ret_bool ?_, b1⟩
      rw [HC.out, eq_comm, decide_eq_true_iff]
      have := HK.out
      omega
    · have hb : (kI == 5) = false := beq_eq_false_iff_ne.2 h5
      go_enter Tryz.func50, Tryz.ntmps50
      go_wp2_with fail
      go_ret
      refine ⟨ret_bool ?_, b1⟩
      rw [HC.out, eq_comm, decide_eq_false_iff_not]
      have := HK.out
      omega
end

section
open Go.RowKit

theorem isText_any (l : List UInt8) (w : World) {c : Bool} (hc : Jn.txt l = c) :
    Calls Tryz.prog 67 #[.string (S l)] w fun e w' => e = .returned (.bool c) ∧ Below w.heap.size w w' := by
  have z1 := S_size l
  obtain ⟨n, b, hL⟩ : ∃ c b, LEN l = (c, b) := ⟨_, _, rfl⟩
  have HL : Hid (c = (b && decide (l.length ≤ 4096))) := by rw [← hc]; unfold Jn.txt Hid; rw [hL]
  have h2 : (LEN l).2 = b := by rw [hL]
  by_cases h4 : (l.length : Int) ≤ 4096
  · have cL := fun w => Valid_at (Below.refl _ w) l (by omega) h2
    have HL : Hid (c = b) := by rw [Hid, HL.out]; simp; omega
    clear hL hc h2
    go_enter Tryz.func67, Tryz.ntmps67
    go_wp2_with fail
    refine (cL _).mono ?_; rintro e w1 ⟨rfl, b1⟩
    go_wp2_with fail
    go_ret
    exact ⟨ret_bool HL.out.symm, b1⟩
  · have HL : Hid (c = false) := by rw [Hid, HL.out]; simp; omega
    clear hL hc h2
    go_enter Tryz.func67, Tryz.ntmps67
    go_wp2_with fail
    go_ret
    exact ⟨ret_bool HL.out.symm, Below.refl _ _⟩
theorem isNoText_any (l : List UInt8) (w : World) {c : Bool} (hc : Jn.txt l = c) :
    Calls Tryz.prog 70 #[.string (S l)] w fun e w' => e = .returned (.bool (!c)) ∧ Below w.heap.size w w' := by
  have cT := fun w => isText_any l w hc
  clear hc
  go_enter Tryz.func70, Tryz.ntmps70
  go_wp2_with fail
  refine (cT _).mono ?_; rintro e w1 ⟨rfl, b1⟩
  go_wp2_with fail
  go_ret
  exact ⟨rfl, b1⟩
theorem txts_all (ns : List (List UInt8)) (h : ∀ (i : Nat) x, ns[i]? = some x → Jn.txt x = true) : ns.all Jn.txt = true := by
  rw [List.all_eq_true]
  intro x hx
  obtain ⟨i, hi⟩ := List.getElem?_of_mem hx
  exact h i x hi
theorem txts_not {ns : List (List UInt8)} {i : Nat} {x : List UInt8} (h : ns[i]? = some x) (hp : Jn.txt x = false) : ns.all Jn.txt = false := by
  rw [List.all_eq_false]
  exact ⟨x, List.mem_of_getElem? h, by rw [hp]; exact Bool.false_ne_true⟩
set_option maxHeartbeats 1000000 in
set_option maxRecDepth 3000 in
theorem indexNoText_any (ns : List (List UInt8)) (a : Option Addr) (ca : Nat) (w : World) (hN : NS w a ns) (hl : ns.length ≤ maxLen) :
    Calls Tryz.prog 91 #[.slice a ns.length ca, .func (.func 70) #[] #[]] w fun e w' => (∃ z : Int, e = .returned (.int .i64 z) ∧ decide (0 ≤ z) = !ns.all Jn.txt) ∧ Below w.heap.size w w' := by
  obtain ⟨r, hr⟩ : ∃ m, ns.length = m := ⟨_, rfl⟩
  have hr2 : (r : Int) ≤ 9223372036854775807 := by unfold maxLen at hl; omega
  rw [hr]
  have HR := Lib.hid hr
  clear hr hl
  go_enter Tryz.func91, Tryz.ntmps91
  go_wp2_with fail
  go_loopw [8] (fun iv wr => ∃ i : Nat, iv = .int .i64 (i : Int) ∧ i ≤ r ∧ Hid (∀ (j : Nat) (p : List UInt8), j < i → ns[j]? = some p → Jn.txt p = true) ∧ Below w.heap.size w wr) (fun iv _ => r - (intOf iv).toNat)
  case atStart => exact ⟨0, rfl, Nat.zero_le _, fun j p h => by omega, Below.refl _ _⟩
  case round =>
    obtain ⟨i, rfl, hi, HS, hbr⟩ := hrel
    by_cases hlt : (i : Int) < (r : Int)
    · obtain ⟨p, hp⟩ : ∃ p, ns[i]? = some p := ⟨ns[i]'(by have := HR.out; omega), List.getElem?_eq_getElem _⟩
      obtain ⟨bb, oo, rfl, g0⟩ := (hN.below hbr) i p hp
      have HP := Lib.hid hp
      clear hp
      obtain ⟨c, hc⟩ : ∃ c, Jn.txt p = c := ⟨_, rfl⟩
      have cT := fun w => isNoText_any p w hc
      have HC := Lib.hid hc
      clear hc
      cases c with
      | true =>
        go_wp2_with fail
        refine (cT _).mono ?_; rintro e w1 ⟨rfl, b1⟩
        go_wp2_with fail
        go_roundw
        case rel =>
          refine ⟨i + 1, by go_num, by omega, fun j z hj hz => ?_, hbr.trans (b1.mono hbr.size)⟩
          by_cases hji : j < i
          · exact HS.out j z hji hz
          · obtain rfl : j = i := by omega
            rw [HP.out] at hz
            obtain rfl : p = z := by simpa using hz
            exact HC.out
        case measure => simp [intOf]; omega
      | false =>
        have HF : Hid (ns.all Jn.txt = false) := txts_not HP.out HC.out
        go_wp2_with fail
        refine (cT _).mono ?_; rintro e w1 ⟨rfl, b1⟩
        go_wp2_with fail
        go_ret
        exact ⟨⟨_, rfl, by rw [HF.out, Bool.not_false, decide_eq_true_iff]; omega⟩, hbr.trans (b1.mono hbr.size)⟩
    · obtain rfl : i = r := by omega
      have HT : Hid (ns.all Jn.txt = true) := txts_all ns fun j z hz => HS.out j z (by have := (List.getElem?_eq_some_iff.1 hz).1; have := HR.out; omega) hz
      go_wp2_with fail
      go_ret
      exact ⟨⟨_, rfl, by rw [HT.out, Bool.not_true, decide_eq_false_iff_not]; omega⟩, hbr⟩
theorem anyNoText_any (ns : List (List UInt8)) (a : Option Addr) (ca : Nat) (w : World) (hN : NS w a ns) (hl : ns.length ≤ maxLen) {c : Bool} (hc : ns.all Jn.txt = c) :
    Calls Tryz.prog 69 #[.slice a ns.length ca, .func (.func 70) #[] #[]] w fun e w' => e = .returned (.bool (!c)) ∧ Below w.heap.size w w' := by
  have cI := indexNoText_any ns a ca w hN hl
  rw [hc] at cI
  clear hc
  go_enter Tryz.func69, Tryz.ntmps69
  go_wp2_with fail
  refine cI.mono ?_; rintro e w1 ⟨⟨z, rfl, hz⟩, b1⟩
  have HZ := Lib.hid hz
  clear hz
  go_wp2_with fail
  go_ret
  exact ⟨ret_bool HZ.out, b1⟩
theorem isPaired_any (x : JV) (w : World) (v : Value) (hv : HV w v x) {c : Bool} (hcc : (x.ns.length == x.is.length) = c) :
    Calls Tryz.prog 89 #[v] w fun e w' => e = .returned (.bool c) ∧ Below w.heap.size w w' := by
  obtain ⟨cs, rfl, hc⟩ := hv
  obtain ⟨a, b, ca, cb, rfl, hB, hN, hI⟩ := hc.form
  have b1 : Below w.heap.size w (w.alloc (.cells #[.int .u8 (x.k : Int), .int .i64 x.n, .string (S x.t), .slice a x.ns.length ca, .slice b x.is.length cb] 26)) := (Below.refl _ _).alloc (Nat.le_refl _) _
  have HC : Hid (((x.ns.length : Nat) : Int) = ((x.is.length : Nat) : Int) ↔ c = true) := by rw [Hid, ← hcc, beq_iff_eq]; omega
  clear hcc hc hB hN hI
  go_enter Tryz.func89, Tryz.ntmps89
  go_wp2_with fail
  go_ret
  refine ⟨ret_bool ?_, b1⟩
  rw [Bool.eq_iff_iff, ← HC.out]
  first | exact beq_iff_eq | (simp only [decide_eq_true_iff, beq_iff_eq]; omega)
set_option maxHeartbeats 1000000 in
set_option maxRecDepth 3000 in
theorem isAscending_any (ns : List (List UInt8)) (a : Option Addr) (ca : Nat) (w : World) (hN : NS w a ns) (hl : ns.length ≤ 9223372036854775806) {c : Bool} (hc : Jn.rise ns = c) :
    Calls Tryz.prog 90 #[.slice a ns.length ca] w fun e w' => e = .returned (.bool c) ∧ Below w.heap.size w w' := by
  obtain ⟨m, hm⟩ : ∃ m, ns.length = m := ⟨_, rfl⟩
  rw [hm]
  have HM := Lib.hid hm
  have HC := Lib.hid hc
  have hm2 : (m : Int) ≤ 9223372036854775806 := by omega
  clear hm hl hc
  go_enter Tryz.func90, Tryz.ntmps90
  go_wp2_with fail
  go_loopw [3] (fun iv wr => ∃ i : Nat, iv = .int .i64 ((i : Int) + 1) ∧ i ≤ m ∧ Hid (∀ j x y, j < i → ns[j]? = some x → ns[j + 1]? = some y → Jn.lt x y = true) ∧ NS wr a ns ∧ Below w.heap.size w wr) (fun iv _ => m + 1 - (intOf iv).toNat)
  case atStart => exact ⟨0, rfl, Nat.zero_le _, fun j x y h => by omega, hN, Below.refl _ _⟩
  case round =>
    clear hN
    obtain ⟨i, rfl, hi, HI, hN, hb⟩ := hrel
    by_cases hlt : (i : Int) + 1 < (m : Int)
    · obtain ⟨x, hx⟩ : ∃ x, ns[i]? = some x := ⟨ns[i]'(by have := HM.out; omega), List.getElem?_eq_getElem _⟩
      obtain ⟨y, hy⟩ : ∃ y, ns[i + 1]? = some y := ⟨ns[i + 1]'(by have := HM.out; omega), List.getElem?_eq_getElem _⟩
      obtain ⟨b, o, rfl, g0⟩ := hN i x hx
      obtain ⟨b', o', e1, g1⟩ := hN (i + 1) y hy
      obtain ⟨rfl, rfl⟩ : b = b' ∧ o = o' := by simpa using e1
      obtain ⟨i1, hi1⟩ : ∃ i1 : Nat, i1 = i + 1 := ⟨_, rfl⟩
      rw [← hi1] at g1
      have hI1 : (i : Int) + 1 = (i1 : Int) := by omega
      have hI0 : (i1 : Int) - 1 = (i : Int) := by omega
      have hl1 : (i1 : Int) < (m : Int) := by omega
      have hl0 : (i : Int) < (m : Int) := by omega
      have HX := Lib.hid hx
      have HY := Lib.hid hy
      have H1 := Lib.hid hi1
      have s1 := S_toList x
      have s2 := S_toList y
      have a9 : ∀ n, Below wr.heap.size wr (wr.drewN n) := fun n => ⟨rfl, rfl, rfl, Nat.le_refl _, fun _ _ => rfl⟩
      clear hx hy hi1 e1
      rw [hI1]
      obtain ⟨q, hq⟩ : ∃ q, Op.bytesLess x y = q := ⟨_, rfl⟩
      cases q with
      | false =>
        have HF : Hid (Jn.rise ns = false) := Jn.rise_no HX.out HY.out (by unfold Jn.lt; exact hq)
        go_wp2_with fail
        go_quiet (fail)
        go_wp2_with fail
        go_ret
        exact ⟨ret_bool (by rw [← HC.out]; exact HF.out.symm), hb.trans ((a9 _).mono hb.size)⟩
      | true =>
        have HT : Hid (Jn.lt x y = true) := by unfold Hid Jn.lt; exact hq
        go_wp2_with fail
        go_quiet (fail)
        go_wp2_with fail
        go_roundw
        case rel =>
          refine ⟨i + 1, by go_num, by omega, ?_, fun k z hz => ?_, hb.trans ((a9 _).mono hb.size)⟩
          · intro j p q hj hp hq
            by_cases hji : j < i
            · exact HI.out j p q hji hp hq
            · obtain rfl : j = i := by omega
              rw [HX.out] at hp
              rw [HY.out] at hq
              obtain rfl : x = p := by simpa using hp
              obtain rfl : y = q := by simpa using hq
              exact HT.out
          · exact (hN.below (a9 _)) k z hz
        case measure => simp [intOf]; omega
    · have HT : Hid (Jn.rise ns = true) := Jn.rise_of ns fun j x y hx hy => HI.out j x y (by have := (List.getElem?_eq_some_iff.1 hy).1; have := HM.out; omega) hx hy
      go_wp2_with fail
      go_ret
      exact ⟨ret_bool (by rw [← HC.out]; exact HT.out.symm), hb⟩
theorem isSorted_any (x : JV) (w : World) (v : Value) (hv : HV w v x) (hl : x.ns.length ≤ 9223372036854775806) {c : Bool} (hcc : (x.ns.length == x.is.length && Jn.rise x.ns) = c) :
    Calls Tryz.prog 68 #[v] w fun e w' => e = .returned (.bool c) ∧ Below w.heap.size w w' := by
  obtain ⟨p, hp⟩ : ∃ p, (x.ns.length == x.is.length) = p := ⟨_, rfl⟩
  obtain ⟨q, hq⟩ : ∃ q, Jn.rise x.ns = q := ⟨_, rfl⟩
  rw [hp, hq] at hcc
  obtain ⟨cs, rfl, hc⟩ := hv
  obtain ⟨a, b, ca, cb, rfl, hB, hN, hI⟩ := hc.form
  have b1 : Below w.heap.size w (w.alloc (.cells #[.int .u8 (x.k : Int), .int .i64 x.n, .string (S x.t), .slice a x.ns.length ca, .slice b x.is.length cb] 26)) := (Below.refl _ _).alloc (Nat.le_refl _) _
  have V1 := VAt.new w (.int .u8 (x.k : Int)) (.int .i64 x.n) (.string (S x.t)) (.slice a x.ns.length ca) (.slice b x.is.length cb)
  have hv1 : HV (w.alloc (.cells #[.int .u8 (x.k : Int), .int .i64 x.n, .string (S x.t), .slice a x.ns.length ca, .slice b x.is.length cb] 26)) (.agg #[.int .u8 (x.k : Int), .int .i64 x.n, .string (S x.t), .slice a x.ns.length ca, .slice b x.is.length cb]) x := ⟨_, rfl, HC.below b1 x _ hc⟩
  have cP := isPaired_any x _ _ hv1 hp
  have cA := fun w (hN : NS w a x.ns) => isAscending_any x.ns a ca w hN hl hq
  have HV1 := Lib.hid V1
  have HN := Lib.hid hN
  clear hp hq hc hB hI hv1 V1 hN
  cases p with
  | false =>
    go_enter Tryz.func68, Tryz.ntmps68
    go_wp2_with fail
    refine cP.mono ?_; rintro e w2 ⟨rfl, b2⟩
    go_wp2_with fail
    go_ret
    exact ⟨ret_bool (by rw [← hcc]; rfl), b1.trans (b2.mono b1.size)⟩
  | true =>
    go_enter Tryz.func68, Tryz.ntmps68
    go_wp2_with fail
    refine cP.mono ?_; rintro e w2 ⟨rfl, b2⟩
    have b3 := b1.trans (b2.mono b1.size)
    obtain ⟨⟨p0, p1, p2, p3, p4⟩, _⟩ := (HV1.out.below b2).cells
    go_wp2_with fail
    refine (cA _ (HN.out.below b3)).mono ?_; rintro e w4 ⟨rfl, b4⟩
    go_wp2_with fail
    go_ret
    exact ⟨ret_bool (by rw [← hcc]), b3.trans (b4.mono b3.size)⟩
end

section
open Go.RowKit

namespace JV
/-- has a value what its Kind uses, and nothing else, whatever its Items are? -/
def formed (x : JV) : Bool :=
  if x.k = 1 then (x.n == 0 || x.n == 1) && (x.t.length == 0 && (x.ns.length == 0 && x.is.length == 0))
  else if x.k = 2 then x.t.length == 0 && (x.ns.length == 0 && x.is.length == 0)
  else if x.k = 3 then x.n == 0 && (Jn.txt x.t && (x.ns.length == 0 && x.is.length == 0))
  else if x.k = 4 then x.n == 0 && (x.t.length == 0 && x.ns.length == 0)
  else if x.k = 5 then x.n == 0 && (x.t.length == 0 && ((x.ns.length == x.is.length && Jn.rise x.ns) && x.ns.all Jn.txt))
  else false
theorem parts_nil_and (b : Bool) (is : List JV) : (b && (is.length == 0)) = ((b && (is.length == 0)) && parts is) := by
  cases is with
  | nil => simp [parts]
  | cons x r => simp
theorem part_formed (x : JV) : part x = (formed x && parts x.is) := by
  rw [part_eq, formed]
  by_cases h1 : x.k = 1
  · rw [if_pos h1, if_pos h1]
    have := parts_nil_and true x.is
    revert this
    cases (x.n == 0 || x.n == 1) <;> cases (x.t.length == 0) <;> cases (x.ns.length == 0) <;> cases (x.is.length == 0) <;> cases (parts x.is) <;> simp
  rw [if_neg h1, if_neg h1]
  by_cases h2 : x.k = 2
  · rw [if_pos h2, if_pos h2]
    have := parts_nil_and true x.is
    revert this
    cases (x.t.length == 0) <;> cases (x.ns.length == 0) <;> cases (x.is.length == 0) <;> cases (parts x.is) <;> simp
  rw [if_neg h2, if_neg h2]
  by_cases h3 : x.k = 3
  · rw [if_pos h3, if_pos h3]
    have := parts_nil_and true x.is
    revert this
    cases (x.n == 0) <;> cases (Jn.txt x.t) <;> cases (x.ns.length == 0) <;> cases (x.is.length == 0) <;> cases (parts x.is) <;> simp
  rw [if_neg h3, if_neg h3]
  by_cases h4 : x.k = 4
  · rw [if_pos (.inl h4), if_pos h4, h4]
    have hn : (x.ns.length == 0) = true → Jn.rise x.ns = true ∧ x.ns.all Jn.txt = true := fun h => by
      rw [List.length_eq_zero_iff.1 (beq_iff_eq.1 h)]
      exact ⟨rfl, rfl⟩
    revert hn
    cases (x.n == 0) <;> cases (x.t.length == 0) <;> cases (x.ns.length == 0) <;> cases (Jn.rise x.ns) <;> cases (x.ns.all Jn.txt) <;> cases (parts x.is) <;> simp
  rw [if_neg h4]
  by_cases h5 : x.k = 5
  · rw [if_pos (.inr h5), if_pos h5, h5]
    cases (x.n == 0) <;> cases (x.t.length == 0) <;> cases (x.ns.length == x.is.length) <;> cases (Jn.rise x.ns) <;> cases (x.ns.all Jn.txt) <;> cases (parts x.is) <;> simp
  · rw [if_neg h5, if_neg (by rintro (h | h); exact h4 h; exact h5 h)]
    simp
end JV
set_option maxHeartbeats 8000000 in
set_option maxRecDepth 10000 in
theorem vFormed_any (x : JV) (hwt : x.wt ≤ 90000) (w : World) (v : Value) (hv : HV w v x) {c : Bool} (hcc : x.formed = c) :
    Calls Tryz.prog 51 #[v] w fun e w' => e = .returned (.bool c) ∧ Below w.heap.size w w' := by
  have hwe := x.wt_eq
  have hnl := JV.wn_len x.ns
  obtain ⟨cs, rfl, hc⟩ := hv
  obtain ⟨a, b, ca, cb, rfl, hB, hN, hI⟩ := hc.form
  obtain ⟨m, hm⟩ : ∃ m, x.is.length = m := ⟨_, rfl⟩
  obtain ⟨r, hr⟩ : ∃ r, x.ns.length = r := ⟨_, rfl⟩
  have hv1 : ∀ w', Below w.heap.size w w' → HV w' (.agg #[.int .u8 (x.k : Int), .int .i64 x.n, .string (S x.t), .slice a x.ns.length ca, .slice b x.is.length cb]) x := fun w' h => ⟨_, rfl, HC.below h x _ hc⟩
  have cA := fun w1 (h : Below w.heap.size w w1) {c : Bool} (hc : x.ns.all Jn.txt = c) => anyNoText_any x.ns a ca w1 (hN.below h) hB.2.2.2.1 hc
  have cS := fun w1 (h : Below w.heap.size w w1) {c : Bool} (hc : (x.ns.length == x.is.length && Jn.rise x.ns) = c) => isSorted_any x w1 _ (hv1 w1 h) (by omega) hc
  have cT := fun w {c : Bool} (hc : Jn.txt x.t = c) => isText_any x.t w hc
  have hm2 : (m : Int) ≤ 9223372036854775807 := by have := hB.2.2.2.2.1; unfold maxLen at this; omega
  have hr2 : (r : Int) ≤ 90000 := by omega
  have HP : Hid (c = _) := hcc.symm.trans (JV.formed.eq_1 x)
  rw [hm, hr] at HP
  rw [hm, hr] at cS
  rw [hr] at cA
  rw [hm, hr]
  obtain ⟨kI, hk⟩ : ∃ z : Int, z = (x.k : Int) := ⟨_, rfl⟩
  obtain ⟨nI, hn⟩ : ∃ z : Int, z = x.n := ⟨_, rfl⟩
  rw [← hk, ← hn] at cS
  rw [← hk, ← hn]
  rw [← hn] at HP
  have HK := Lib.hid hk
  clear hm hr hk hn hc hB hwe hnl hv1 hN hI hcc
  obtain ⟨W1, hW1⟩ : ∃ W, W = w.alloc (.cells #[.int .u8 kI, .int .i64 nI, .string (S x.t), .slice a r ca, .slice b m cb] 26) := ⟨_, rfl⟩
  have V1 : VAt w.heap.size W1 (.int .u8 kI) (.int .i64 nI) (.string (S x.t)) (.slice a r ca) (.slice b m cb) := by rw [hW1]; exact VAt.new ..
  have b1 : Below w.heap.size w W1 := by rw [hW1]; exact (Below.refl _ _).alloc (Nat.le_refl _) _
  obtain ⟨p3, hp3⟩ : ∃ p, (x.t.length == 0) = p := ⟨_, rfl⟩
  obtain ⟨p4, hp4⟩ : ∃ p, ((r : Int) == 0) = p := ⟨_, rfl⟩
  obtain ⟨p5, hp5⟩ : ∃ p, ((m : Int) == 0) = p := ⟨_, rfl⟩
  obtain ⟨b1', h1⟩ : ∃ p, (nI == 0) = p := ⟨_, rfl⟩
  rw [hp3, h1, ← zero_beq r, ← zero_beq m, hp4, hp5] at HP
  by_cases k1 : kI = 1
  · subst k1
    obtain ⟨b2', h2⟩ : ∃ p, (nI == 1) = p := ⟨_, rfl⟩
    have HP : Hid (c = ((b1' || b2') && (p3 && (p4 && p5)))) := by
      rw [Hid, HP.out, if_pos (by have := HK.out; omega), h2]
    clear cA cS cT
    cases b1' <;> cases b2' <;> cases p3 <;> cases p4 <;> cases p5
    all_goals
      first | (obtain ⟨s1, s2⟩ := empty_facts hp3) | (obtain ⟨s1, s2⟩ := full_facts hp3)
      clear hp3
      go_enter Tryz.func51, Tryz.ntmps51
      go_wp2_with fail
      rw [← hW1]
      go_ret
      exact ⟨ret_eq HP.out rfl, b1⟩
  by_cases k2 : kI = 2
  · subst k2
    have HP : Hid (c = (p3 && (p4 && p5))) := by
      rw [Hid, HP.out, if_neg (by have := HK.out; omega), if_pos (by have := HK.out; omega)]
    clear cA cS cT
    cases p3 <;> cases p4 <;> cases p5
    all_goals
      first | (obtain ⟨s1, s2⟩ := empty_facts hp3) | (obtain ⟨s1, s2⟩ := full_facts hp3)
      clear hp3
      go_enter Tryz.func51, Tryz.ntmps51
      go_wp2_with fail
      rw [← hW1]
      go_ret
      exact ⟨ret_eq HP.out rfl, b1⟩
  by_cases k3 : kI = 3
  · subst k3
    obtain ⟨p6, hp6⟩ : ∃ p, Jn.txt x.t = p := ⟨_, rfl⟩
    have HP : Hid (c = (b1' && (p6 && (p4 && p5)))) := by
      rw [Hid, HP.out, if_neg (by have := HK.out; omega), if_neg (by have := HK.out; omega), if_pos (by have := HK.out; omega), hp6]
    have cT := fun w => cT w hp6
    clear hp3 hp6 cA cS
    cases b1'
    · go_enter Tryz.func51, Tryz.ntmps51
      go_wp2_with fail
      rw [← hW1]
      go_ret
      exact ⟨ret_eq HP.out rfl, b1⟩
    · cases p6 <;> cases p4 <;> cases p5
      all_goals
        go_enter Tryz.func51, Tryz.ntmps51
        go_wp2_with fail
        rw [← hW1]
        refine (cT _).mono ?_; rintro e w2 ⟨rfl, b2⟩
        have V2 := V1.below b2
        obtain ⟨⟨z0, z1, z2, z3, z4⟩, _⟩ := V2.cells
        go_wp2_with fail
        go_ret
        exact ⟨ret_eq HP.out rfl, b1.trans (b2.mono b1.size)⟩
  by_cases k4 : kI = 4
  · subst k4
    have HP : Hid (c = (b1' && (p3 && p4))) := by
      rw [Hid, HP.out, if_neg (by have := HK.out; omega), if_neg (by have := HK.out; omega), if_neg (by have := HK.out; omega), if_pos (by have := HK.out; omega)]
    clear cA cS cT
    cases b1' <;> cases p3 <;> cases p4
    all_goals
      first | (obtain ⟨s1, s2⟩ := empty_facts hp3) | (obtain ⟨s1, s2⟩ := full_facts hp3)
      clear hp3
      go_enter Tryz.func51, Tryz.ntmps51
      go_wp2_with fail
      rw [← hW1]
      go_ret
      exact ⟨ret_eq HP.out rfl, b1⟩
  by_cases k5 : kI = 5
  · subst k5
    obtain ⟨p6, hp6⟩ : ∃ p, (r == m && Jn.rise x.ns) = p := ⟨_, rfl⟩
    obtain ⟨p7, hp7⟩ : ∃ p, x.ns.all Jn.txt = p := ⟨_, rfl⟩
    have HP : Hid (c = (b1' && (p3 && (p6 && p7)))) := by
      rw [Hid, HP.out, if_neg (by have := HK.out; omega), if_neg (by have := HK.out; omega), if_neg (by have := HK.out; omega), if_neg (by have := HK.out; omega), if_pos (by have := HK.out; omega), hp6, hp7]
    have CS := cS W1 b1 hp6
    have CA := Lib.hid (fun w1 (h : Below w.heap.size w w1) => cA w1 h hp7)
    clear cA cS cT hp4 hp5 hp6 hp7
    cases b1'
    · clear CS hp3
      go_enter Tryz.func51, Tryz.ntmps51
      go_wp2_with fail
      rw [← hW1]
      go_ret
      exact ⟨ret_eq HP.out rfl, b1⟩
    cases p3
    · clear CS
      obtain ⟨s1, s2⟩ := full_facts hp3
      clear hp3
      go_enter Tryz.func51, Tryz.ntmps51
      go_wp2_with fail
      rw [← hW1]
      go_ret
      exact ⟨ret_eq HP.out rfl, b1⟩
    obtain ⟨s1, s2⟩ := empty_facts hp3
    clear hp3
    cases p6
    · go_enter Tryz.func51, Tryz.ntmps51
      go_wp2_with fail
      rw [← hW1]
      refine CS.mono ?_; rintro e w2 ⟨rfl, b2⟩
      go_wp2_with fail
      go_ret
      exact ⟨ret_eq HP.out rfl, b1.trans (b2.mono b1.size)⟩
    · go_enter Tryz.func51, Tryz.ntmps51
      go_wp2_with fail
      rw [← hW1]
      refine CS.mono ?_; rintro e w2 ⟨rfl, b2⟩
      have b3 := b1.trans (b2.mono b1.size)
      have V2 := V1.below b2
      obtain ⟨⟨z0, z1, z2, z3, z4⟩, _⟩ := V2.cells
      go_wp2_with fail
      refine (CA.out _ b3).mono ?_; rintro e w4 ⟨rfl, b4⟩
      go_wp2_with fail
      go_ret
      exact ⟨ret_eq HP.out (by simp), b3.trans (b4.mono b3.size)⟩
  · have HP : Hid (c = false) := by
      rw [Hid, HP.out, if_neg (by have := HK.out; omega), if_neg (by have := HK.out; omega), if_neg (by have := HK.out; omega), if_neg (by have := HK.out; omega), if_neg (by have := HK.out; omega)]
    have k1 : (kI == 1) = false := beq_eq_false_iff_ne.2 k1
    have k2 : (kI == 2) = false := beq_eq_false_iff_ne.2 k2
    have k3 : (kI == 3) = false := beq_eq_false_iff_ne.2 k3
    have k4 : (kI == 4) = false := beq_eq_false_iff_ne.2 k4
    have k5 : (kI == 5) = false := beq_eq_false_iff_ne.2 k5
    clear hp3 hp4 hp5 h1 cA cS cT
    go_enter Tryz.func51, Tryz.ntmps51
    go_wp2_with fail
    rw [← hW1]
    go_ret
    exact ⟨ret_eq HP.out rfl, b1⟩
end

section
open Go.RowKit

namespace JV
/-- may it be, with so many values and so deep at most? -/
def ok (x : JV) (M D : Int) : Prop := x.part = true ∧ (x.cnt : Int) ≤ M ∧ (x.dep : Int) ≤ D
theorem parts_get : ∀ {xs : List JV} {i : Nat} {x : JV}, parts xs = true → xs[i]? = some x → part x = true
  | [], i, x, _, h => by simp at h
  | y :: ys, 0, x, hp, h => by
    obtain rfl : y = x := by simpa using h
    rw [parts, Bool.and_eq_true] at hp
    exact hp.1
  | y :: ys, i + 1, x, hp, h => by
    rw [parts, Bool.and_eq_true] at hp
    exact parts_get hp.2 (show ys[i]? = some x by simpa using h)
theorem deps_get : ∀ {xs : List JV} {i : Nat} {x : JV}, xs[i]? = some x → dep x ≤ deps xs
  | [], i, x, h => by simp at h
  | y :: ys, 0, x, h => by
    obtain rfl : y = x := by simpa using h
    unfold deps
    omega
  | y :: ys, i + 1, x, h => by
    have := deps_get (show ys[i]? = some x by simpa using h)
    unfold deps
    omega
theorem deps_all : ∀ (xs : List JV) (D : Int), 0 ≤ D → (∀ (i : Nat) x, xs[i]? = some x → (dep x : Int) ≤ D) → (deps xs : Int) ≤ D
  | [], D, h, _ => by unfold deps; exact h
  | y :: ys, D, h, ha => by
    have h1 := ha 0 y rfl
    have h2 := deps_all ys D h fun i x hx => ha (i + 1) x (by simpa using hx)
    unfold deps
    omega
theorem formed_flat {x : JV} (h : x.formed = true) (hk : ¬ (x.k = 4 ∨ x.k = 5)) : x.is.length = 0 := by
  rw [formed] at h
  by_cases h1 : x.k = 1
  · rw [if_pos h1] at h
    simp only [Bool.and_eq_true, beq_iff_eq] at h
    exact h.2.2.2
  rw [if_neg h1] at h
  by_cases h2 : x.k = 2
  · rw [if_pos h2] at h
    simp only [Bool.and_eq_true, beq_iff_eq] at h
    exact h.2.2
  rw [if_neg h2] at h
  by_cases h3 : x.k = 3
  · rw [if_pos h3] at h
    simp only [Bool.and_eq_true, beq_iff_eq] at h
    exact h.2.2.2
  rw [if_neg h3, if_neg (fun h => hk (.inl h)), if_neg (fun h => hk (.inr h))] at h
  cases h
theorem ok_no_many {x : JV} {M D : Int} (h : M ≤ (x.is.length : Int)) : ¬ x.ok M D := fun ⟨_, h2, _⟩ => by
  have := len_le x.is
  have := x.cnt_eq
  omega
theorem ok_no_deep {x : JV} {M : Int} (hk : x.k = 4 ∨ x.k = 5) : ¬ x.ok M 0 := fun ⟨_, _, h3⟩ => by
  rw [dep_eq, if_pos hk] at h3
  omega
theorem ok_no_form {x : JV} {M D : Int} (h : x.formed = false) : ¬ x.ok M D := fun ⟨h1, _⟩ => by
  rw [part_formed, h] at h1
  cases h1
/-- an Item is not -/
theorem ok_no_item {x y : JV} {i : Nat} {M D E : Int} (hy : x.is[i]? = some y) (hE : (x.k = 4 ∨ x.k = 5) ∧ E = D - 1 ∨ ¬ (x.k = 4 ∨ x.k = 5) ∧ E = D) (hf : x.formed = true)
    (hno : ¬ y.ok (M - ((1 + cnts (x.is.take i) : Nat) : Int)) E) : ¬ x.ok M D := fun ⟨h1, h2, h3⟩ => hno (by
  refine ⟨?_, ?_, ?_⟩
  · rw [part_formed, hf, Bool.true_and] at h1
    exact parts_get h1 hy
  · have hs := cnts_take_le x.is (i + 1)
    rw [take_snoc hy, cnts_snoc] at hs
    have := x.cnt_eq
    omega
  · have hd := deps_get hy
    rcases hE with ⟨hk, he⟩ | ⟨hk, he⟩
    · rw [dep_eq, if_pos hk] at h3
      omega
    · have := formed_flat hf hk
      have := (List.getElem?_eq_some_iff.1 hy).1
      omega)
/-- it is -/
theorem ok_yes {x : JV} {M D E : Int} (hE : (x.k = 4 ∨ x.k = 5) ∧ E = D - 1 ∨ ¬ (x.k = 4 ∨ x.k = 5) ∧ E = D) (h0 : 0 ≤ E) (hf : x.formed = true) (ha : ∀ (i : Nat) y, x.is[i]? = some y → part y = true ∧ (dep y : Int) ≤ E)
    (hM : ((1 + cnts x.is : Nat) : Int) ≤ M) : x.ok M D := by
  refine ⟨?_, ?_, ?_⟩
  · rw [part_formed, hf, Bool.true_and]
    exact parts_all x.is fun i y h => (ha i y h).1
  · rw [cnt_eq]
    exact hM
  · have := deps_all x.is E h0 fun i y h => (ha i y h).2
    rw [dep_eq]
    rcases hE with ⟨hk, he⟩ | ⟨hk, he⟩
    · rw [if_pos hk]
      omega
    · rw [if_neg hk]
      omega
end JV
set_option maxHeartbeats 4000000 in
set_option maxRecDepth 10000 in
theorem vsize_any : ∀ (K : Nat) (x : JV), x.cnt ≤ K → x.wt ≤ 90000 → ∀ (M D : Int), 0 ≤ M → M ≤ 8192 → 0 ≤ D → D ≤ 12 → ∀ (w : World) (v : Value), HV w v x →
    Calls Tryz.prog 32 #[v, .int .i64 M, .int .i64 D] w fun e w' => (∃ Z : Int, e = .returned (.int .i64 Z) ∧ (x.ok M D ∧ Z = (x.cnt : Int) ∨ ¬ x.ok M D ∧ Z = 0)) ∧ Below w.heap.size w w' := by
  intro K
  induction K with
  | zero => intro x h; have := x.cnt_pos; omega
  | succ K ih =>
  intro x hK hwt M D hM0 hM1 hD0 hD1 w v hv
  have hwe := x.wt_eq
  obtain ⟨cs, rfl, hc⟩ := hv
  obtain ⟨a, b, ca, cb, rfl, hB, hN, hI⟩ := hc.form
  have cF := fun w1 (h : Below w.heap.size w w1) {c : Bool} (hc0 : x.formed = c) => vFormed_any x hwt w1 _ ⟨_, rfl, HC.below h x _ hc⟩ hc0
  rw [show ([Value.int .u8 (x.k : Int), .int .i64 x.n, .string (S x.t), .slice a x.ns.length ca, .slice b x.is.length cb]).toArray = #[Value.int .u8 (x.k : Int), .int .i64 x.n, .string (S x.t), .slice a x.ns.length ca, .slice b x.is.length cb] from rfl] at cF
  obtain ⟨m, hm⟩ : ∃ m, x.is.length = m := ⟨_, rfl⟩
  have hm2 : (m : Int) ≤ 90000 := by have := JV.len_le x.is; have := x.cnt_eq; have := x.cnt_wt; omega
  have hcn : (x.cnt : Int) ≤ 90000 := by have := x.cnt_wt; omega
  rw [hm] at cF
  rw [hm]
  obtain ⟨kI, hk⟩ : ∃ z : Int, z = (x.k : Int) := ⟨_, rfl⟩
  have cN := fun w c hc => nests_any w x a b ca cb x.ns.length m kI x.n x.t hk (c := c) hc
  rw [← hk] at cF
  rw [← hk]
  have HM := Lib.hid hm
  have HCF := Lib.hid (fun w1 (h : Below w.heap.size w w1) (c : Bool) (hc0 : x.formed = c) => cF w1 h hc0)
  have HNo1 : Hid (M ≤ (m : Int) → ¬ x.ok M D) := fun h => JV.ok_no_many (by rw [hm]; exact h)
  have HI1 := Lib.hid hI
  have HWT : Hid (∀ (i : Nat) y, x.is[i]? = some y → y.wt ≤ 90000 ∧ y.cnt ≤ K) := fun i y hy => by
    have := JV.wts_get hy
    have := JV.cnt_item hy
    omega
  clear hm hc hk cF hB hN hI hwe
  obtain ⟨W1, hW1⟩ : ∃ W, W = w.alloc (.cells #[.int .u8 kI, .int .i64 x.n, .string (S x.t), .slice a x.ns.length ca, .slice b m cb] 26) := ⟨_, rfl⟩
  have V1 : VAt w.heap.size W1 (.int .u8 kI) (.int .i64 x.n) (.string (S x.t)) (.slice a x.ns.length ca) (.slice b m cb) := by rw [hW1]; exact VAt.new ..
  have b1 : Below w.heap.size w W1 := by rw [hW1]; exact (Below.refl _ _).alloc (Nat.le_refl _) _
  obtain ⟨c, hcc⟩ : ∃ c, c = decide (x.k = 4 ∨ x.k = 5) := ⟨_, rfl⟩
  have cN := fun w => cN w c hcc
  obtain ⟨E, hE⟩ : ∃ E : Int, E = if c then D - 1 else D := ⟨_, rfl⟩
  have HE : Hid ((x.k = 4 ∨ x.k = 5) ∧ E = D - 1 ∨ ¬ (x.k = 4 ∨ x.k = 5) ∧ E = D) := by
    cases c with
    | true => exact .inl ⟨of_decide_eq_true hcc.symm, by rw [hE]; rfl⟩
    | false => exact .inr ⟨of_decide_eq_false hcc.symm, by rw [hE]; rfl⟩
  have HNo2 : Hid (E < 0 → ¬ x.ok M D) := fun h => by
    rcases HE.out with ⟨h1, h2⟩ | ⟨h1, h2⟩
    · obtain rfl : D = 0 := by omega
      exact JV.ok_no_deep h1
    · omega
  have hE1 : -1 ≤ E := by cases c <;> simp at hE <;> omega
  have hE2 : E ≤ 12 := by cases c <;> simp at hE <;> omega
  clear hcc
  have hx : c = true ∧ D - 1 = E ∨ c = false ∧ D = E := by cases c <;> simp_all
  clear hE
  rcases hx with ⟨rfl, hx⟩ | ⟨rfl, hx⟩
  all_goals
    by_cases hMm : M ≤ (m : Int)
    · have HN := HNo1.out hMm
      go_enter Tryz.func32, Tryz.ntmps32
      go_wp2_with fail
      rw [← hW1]
      refine (cN _).mono ?_; rintro e w2 ⟨rfl, b2⟩
      have V2 := V1.below b2
      obtain ⟨⟨p0, p1, p2, p3, p4⟩, _⟩ := V2.cells
      clear HNo1 HNo2 HN
      go_wp2_with fail
      go_ret
      exact ⟨⟨0, rfl, .inr ⟨JV.ok_no_many (by rw [HM.out]; exact hMm), rfl⟩⟩, b1.trans (b2.mono b1.size)⟩
    by_cases hE0 : E < 0
    · first
      | (exfalso; omega)
      | (go_enter Tryz.func32, Tryz.ntmps32
         go_wp2_with fail
         rw [← hW1]
         refine (cN _).mono ?_; rintro e w2 ⟨rfl, b2⟩
         have V2 := V1.below b2
         obtain ⟨⟨p0, p1, p2, p3, p4⟩, _⟩ := V2.cells
         go_wp2_with fail
         go_ret
         exact ⟨⟨0, rfl, .inr ⟨HNo2.out hE0, rfl⟩⟩, b1.trans (b2.mono b1.size)⟩)
    obtain ⟨f, hf⟩ : ∃ f, x.formed = f := ⟨_, rfl⟩
    have cF := fun w1 h => HCF.out w1 h f hf
    have HF := Lib.hid hf
    clear hf
    cases f
    · go_enter Tryz.func32, Tryz.ntmps32
      go_wp2_with fail
      rw [← hW1]
      refine (cN _).mono ?_; rintro e w2 ⟨rfl, b2⟩
      have V2 := V1.below b2
      have b3 := b1.trans (b2.mono b1.size)
      obtain ⟨⟨p0, p1, p2, p3, p4⟩, _⟩ := V2.cells
      go_wp2_with fail
      refine (cF _ b3).mono ?_; rintro e w4 ⟨rfl, b4⟩
      go_wp2_with fail
      go_ret
      exact ⟨⟨0, rfl, .inr ⟨JV.ok_no_form HF.out, rfl⟩⟩, b3.trans (b4.mono b3.size)⟩
    · go_enter Tryz.func32, Tryz.ntmps32
      go_wp2_with fail
      rw [← hW1]
      refine (cN _).mono ?_; rintro e w2 ⟨rfl, b2⟩
      have V2 := V1.below b2
      have b3 := b1.trans (b2.mono b1.size)
      obtain ⟨⟨p0, p1, p2, p3, p4⟩, _⟩ := V2.cells
      go_wp2_with fail
      refine (cF _ b3).mono ?_; rintro e W4 ⟨rfl, b4⟩
      have V4 := V2.below b4
      have b5 := b3.trans (b4.mono b3.size)
      clear p0 p1 p2 p3 p4
      obtain ⟨⟨p0, p1, p2, p3, p4⟩, _⟩ := V4.cells
      clear hW1 b1 b2 b3 b4 V1 V2 V4 cN cF
      go_wp2_with fail
      go_loopw [7, 32] (fun nv iv wr => ∃ i : Nat, iv = .int .i64 (i : Int) ∧ i ≤ m ∧ nv = .int .i64 ((1 + JV.cnts (x.is.take i) : Nat) : Int) ∧ ((1 + JV.cnts (x.is.take i) : Nat) : Int) ≤ M ∧
        Hid (∀ (j : Nat) y, j < i → x.is[j]? = some y → JV.part y = true ∧ (JV.dep y : Int) ≤ E) ∧ Below W4.heap.size W4 wr) (fun _ iv _ => m - (intOf iv).toNat)
      case atStart => exact ⟨0, rfl, Nat.zero_le _, rfl, by rw [List.take_zero]; unfold JV.cnts; omega, fun j y h => by omega, Below.refl _ _⟩
      case round =>
        obtain ⟨i, rfl, hi, rfl, hnM, HS, hW⟩ := hrel
        have hbr : Hid (Below w.heap.size w wr) := b5.trans (hW.mono b5.size)
        by_cases hlt : (i : Int) < (m : Int)
        · obtain ⟨y, hy⟩ : ∃ y, x.is[i]? = some y := ⟨x.is[i]'(by have := HM.out; omega), List.getElem?_eq_getElem _⟩
          obtain ⟨blk, off, rfl, hII⟩ := items_at HI1.out hy
          obtain ⟨c0, c1, c2, c3, c4, g0, g1, g2, g3, g4, hcy⟩ := (HI.below hbr.out _ _ _ hII).get hy
          obtain ⟨ya, yb, yca, ycb, rfl, rfl, rfl, rfl, rfl⟩ := five hcy
          obtain ⟨hyw, hyc⟩ := HWT.out i y hy
          have hsn : Hid (JV.cnts (x.is.take (i + 1)) = JV.cnts (x.is.take i) + y.cnt) := by rw [Hid, JV.take_snoc hy, JV.cnts_snoc]
          have HNI : Hid (¬ y.ok (M - ((1 + JV.cnts (x.is.take i) : Nat) : Int)) E → ¬ x.ok M D) := fun h => JV.ok_no_item hy HE.out HF.out h
          have HYY : Hid (∀ z, x.is[i]? = some z → z = y) := fun z hz => by rw [hy] at hz; simpa using hz.symm
          have cY := fun w v h => ih y hyc hyw (M - ((1 + JV.cnts (x.is.take i) : Nat) : Int)) E (by omega) (by omega) (by omega) (by omega) w v h
          have b9 : Below wr.heap.size wr (wr.alloc (.cells #[.int .u8 (y.k : Int), .int .i64 y.n, .string (S y.t), .slice ya y.ns.length yca, .slice yb y.is.length ycb] 26)) := (Below.refl _ _).alloc (Nat.le_refl _) _
          have hvy : HV (wr.alloc (.cells #[.int .u8 (y.k : Int), .int .i64 y.n, .string (S y.t), .slice ya y.ns.length yca, .slice yb y.is.length ycb] 26)) (.agg #[.int .u8 (y.k : Int), .int .i64 y.n, .string (S y.t), .slice ya y.ns.length yca, .slice yb y.is.length ycb]) y := ⟨_, rfl, HC.below b9 y _ hcy⟩
          have hpos := y.cnt_pos
          have hy20 : (y.cnt : Int) ≤ 90000 := by have := y.cnt_wt; omega
          obtain ⟨A, hA⟩ : ∃ A : Nat, 1 + JV.cnts (x.is.take i) = A := ⟨_, rfl⟩
          rw [hA] at cY hnM HNI
          rw [hA]
          have HA := Lib.hid hA
          have CY := cY _ _ hvy
          obtain ⟨Y, hY⟩ : ∃ Y : Nat, y.cnt = Y := ⟨_, rfl⟩
          rw [hY] at CY hpos hy20
          have HY := Lib.hid hY
          obtain ⟨OK, hOK⟩ : ∃ OK : Prop, OK = y.ok (M - (A : Int)) E := ⟨_, rfl⟩
          rw [← hOK] at CY HNI
          have HOK := Lib.hid hOK
          clear hy hcy hII hA hY hvy cY hOK hyw hyc
          go_wp2_with fail
          refine CY.mono ?_; rintro e w2 ⟨⟨Z, rfl, hZ⟩, b2'⟩
          have b8 := b9.trans (b2'.mono b9.size)
          rcases hZ with ⟨hok, rfl⟩ | ⟨hno, rfl⟩
          · have hz : ((Y : Int) == 0) = false := beq_eq_false_iff_ne.2 (by omega)
            have hAM : (A : Int) + (Y : Int) ≤ M := by
              have h1 := hok
              rw [HOK.out] at h1
              have := h1.2.1
              have := HY.out
              omega
            have HPD : Hid (JV.part y = true ∧ (JV.dep y : Int) ≤ E) := by
              rw [HOK.out] at hok
              exact ⟨hok.1, hok.2.2⟩
            clear hok
            go_wp2_with fail
            go_roundw
            case rel =>
              have hAY : 1 + JV.cnts (x.is.take (i + 1)) = A + Y := by rw [hsn.out, HY.out, ← HA.out]; omega
              refine ⟨i + 1, by go_num, by omega, ?_, ?_, fun j z hj hz => ?_, hW.trans (b8.mono hW.size)⟩
              · rw [hAY]
                congr 1
              · rw [hAY]
                omega
              · by_cases hji : j < i
                · exact HS.out j z hji hz
                · obtain rfl : j = i := by omega
                  rw [HYY.out z hz]
                  exact HPD.out
            case measure => simp [intOf]; omega
          · go_wp2_with fail
            go_ret
            exact ⟨⟨0, rfl, .inr ⟨HNI.out hno, rfl⟩⟩, hbr.out.trans (b8.mono hbr.out.size)⟩
        · obtain rfl : i = m := by omega
          have hall : x.is.take i = x.is := by rw [← HM.out]; exact List.take_length
          rw [hall] at hnM
          rw [hall]
          have HOK : Hid (x.ok M D) := JV.ok_yes HE.out (by omega) HF.out (fun j z hz => HS.out j z (by have := (List.getElem?_eq_some_iff.1 hz).1; have := HM.out; omega) hz) hnM
          have HCn := Lib.hid x.cnt_eq
          obtain ⟨A, hA⟩ : ∃ A : Nat, 1 + JV.cnts x.is = A := ⟨_, rfl⟩
          rw [hA] at hnM
          rw [hA]
          have HA := Lib.hid hA
          clear hA
          go_wp2_with fail
          go_ret
          first | exact ⟨⟨_, rfl, .inl ⟨HOK.out, by rw [HCn.out, HA.out]⟩⟩, hbr.out⟩ | exact ⟨⟨_, rfl, .inl ⟨hx ▸ HOK.out, by rw [HCn.out, HA.out]⟩⟩, hbr.out⟩
theorem may_ok (x : JV) : x.may = true ↔ x.ok 8192 12 := by
  unfold JV.may JV.ok
  simp only [Bool.and_eq_true, decide_eq_true_iff]
  constructor
  · rintro ⟨h1, h2, h3⟩
    exact ⟨h1, by omega, by omega⟩
  · rintro ⟨h1, h2, h3⟩
    exact ⟨h1, by omega, by omega⟩
set_option maxHeartbeats 1000000 in
set_option maxRecDepth 10000 in
theorem may_any (x : JV) (w : World) (v : Value) (hwt : x.wt ≤ 90000) (hv : HV w v x) {c : Bool} (hcc : x.may = c) :
    Calls Tryz.prog 19 #[v] w fun e w' => e = .returned (.bool c) ∧ Below w.heap.size w w' := by
  have hpos := x.cnt_pos
  have hc2 := x.cnt_wt
  obtain ⟨cs, rfl, hc⟩ := hv
  obtain ⟨a, b, ca, cb, rfl, hB, hN, hI⟩ := hc.form
  have b1 : Below w.heap.size w (w.alloc (.cells #[.int .u8 (x.k : Int), .int .i64 x.n, .string (S x.t), .slice a x.ns.length ca, .slice b x.is.length cb] 26)) := (Below.refl _ _).alloc (Nat.le_refl _) _
  have hv1 : HV (w.alloc (.cells #[.int .u8 (x.k : Int), .int .i64 x.n, .string (S x.t), .slice a x.ns.length ca, .slice b x.is.length cb] 26)) (.agg #[.int .u8 (x.k : Int), .int .i64 x.n, .string (S x.t), .slice a x.ns.length ca, .slice b x.is.length cb]) x := ⟨_, rfl, HC.below b1 x _ hc⟩
  have cS := vsize_any _ x (Nat.le_refl _) hwt 8192 12 (by omega) (by omega) (by omega) (by omega) _ _ hv1
  have HM : Hid (c = true ↔ x.ok 8192 12) := by rw [Hid, ← hcc]; exact may_ok x
  obtain ⟨C, hC⟩ : ∃ C : Nat, x.cnt = C := ⟨_, rfl⟩
  rw [hC] at cS hpos hc2
  clear hc hB hN hI hv1 hcc hC
  go_enter Tryz.func19, Tryz.ntmps19
  go_wp2_with fail
  refine cS.mono ?_; rintro e w2 ⟨⟨Z, rfl, hZ⟩, b2⟩
  rcases hZ with ⟨hok, rfl⟩ | ⟨hno, rfl⟩
  · have hz : (0 : Int) < (C : Int) := by omega
    obtain rfl : c = true := HM.out.2 hok
    clear hok
    go_wp2_with fail
    go_ret
    exact ⟨ret_bool (by first | rfl | (simp; omega)), b1.trans (b2.mono b1.size)⟩
  · obtain rfl : c = false := by
      cases c with
      | false => rfl
      | true => exact absurd (HM.out.1 rfl) hno
    clear hno
    go_wp2_with fail
    go_ret
    exact ⟨ret_bool (by first | rfl | simp), b1.trans (b2.mono b1.size)⟩
end
end Go.Proofs.YtoipjlhddpeicaaGreatDoor
