/-
  What the program's isText, isNoText, isPaired, isAscending, isSorted come to (slices.IndexFunc, slices.ContainsFunc).
-/
import Derived.Test.YtpifbmcgadjhbaaDoorValRise
import Derived.Test.YtpifbmcgadjhbaaDoorValCnt
import Derived.Test.YtpifbmcgadjhbaaDoorText
import Derived.Laws.Cover1
import Derived.BigQuiet
import Derived.Deep.QuietTactic
namespace Go.Proofs.YtpifbmcgadjhbaaDoor
open Go.RowKit

theorem isText_any (l : List UInt8) (w : World) {c : Bool} (hc : Jn.txt l = c) :
    Calls Tryd.prog 41 #[.string (S l)] w fun e w' => e = .returned (.bool c) ∧ Below w.heap.size w w' := by
  have z1 := S_size l
  obtain ⟨n, b, hL⟩ : ∃ c b, LEN l = (c, b) := ⟨_, _, rfl⟩
  have HL : Hid (c = (b && decide (l.length ≤ 4096))) := by rw [← hc]; unfold Jn.txt Hid; rw [hL]
  have h2 : (LEN l).2 = b := by rw [hL]
  by_cases h4 : (l.length : Int) ≤ 4096
  · have cL := fun w => Valid_at (Below.refl _ w) l (by omega) h2
    have HL : Hid (c = b) := by rw [Hid, HL.out]; simp; omega
    clear hL hc h2
    go_enter Tryd.func41, Tryd.ntmps41
    go_wp2_with fail
    refine (cL _).mono ?_; rintro e w1 ⟨rfl, b1⟩
    go_wp2_with fail
    go_ret
    exact ⟨ret_bool HL.out.symm, b1⟩
  · have HL : Hid (c = false) := by rw [Hid, HL.out]; simp; omega
    clear hL hc h2
    go_enter Tryd.func41, Tryd.ntmps41
    go_wp2_with fail
    go_ret
    exact ⟨ret_bool HL.out.symm, Below.refl _ _⟩
theorem isNoText_any (l : List UInt8) (w : World) {c : Bool} (hc : Jn.txt l = c) :
    Calls Tryd.prog 44 #[.string (S l)] w fun e w' => e = .returned (.bool (!c)) ∧ Below w.heap.size w w' := by
  have cT := fun w => isText_any l w hc
  clear hc
  go_enter Tryd.func44, Tryd.ntmps44
  go_wp2_with fail
  refine (cT _).mono ?_; rintro e w1 ⟨rfl, b1⟩
  go_wp2_with fail
  go_ret
  exact ⟨rfl, b1⟩
theorem txts_all (ns : List (List UInt8)) (h : ∀ (i : Nat) x, ns[i]? = some x → Jn.txt x = true) : ns.all Jn.txt = true := by
  rw [List.all_eq_true]
  intro x hx
  obtain ⟨i, hi⟩ := List.getElem?_of_mem hx
  exact h i x hi
theorem txts_not {ns : List (List UInt8)} {i : Nat} {x : List UInt8} (h : ns[i]? = some x) (hp : Jn.txt x = false) : ns.all Jn.txt = false := by
  rw [List.all_eq_false]
  exact ⟨x, List.mem_of_getElem? h, by rw [hp]; exact Bool.false_ne_true⟩
set_option maxHeartbeats 1000000 in
set_option maxRecDepth 3000 in
theorem indexNoText_any (ns : List (List UInt8)) (a : Option Addr) (ca : Nat) (w : World) (hN : NS w a ns) (hl : ns.length ≤ maxLen) :
    Calls Tryd.prog 50 #[.slice a ns.length ca, .func (.func 44) #[] #[]] w fun e w' => (∃ z : Int, e = .returned (.int .i64 z) ∧ decide (0 ≤ z) = !ns.all Jn.txt) ∧ Below w.heap.size w w' := by
  obtain ⟨r, hr⟩ : ∃ m, ns.length = m := ⟨_, rfl⟩
  have hr2 : (r : Int) ≤ 9223372036854775807 := by unfold maxLen at hl; omega
  rw [hr]
  have HR := Lib.hid hr
  clear hr hl
  go_enter Tryd.func50, Tryd.ntmps50
  go_wp2_with fail
  go_loopw [8] (fun iv wr => ∃ i : Nat, iv = .int .i64 (i : Int) ∧ i ≤ r ∧ Hid (∀ (j : Nat) (p : List UInt8), j < i → ns[j]? = some p → Jn.txt p = true) ∧ Below w.heap.size w wr) (fun iv _ => r - (intOf iv).toNat)
  case atStart => exact ⟨0, rfl, Nat.zero_le _, fun j p h => by omega, Below.refl _ _⟩
  case round =>
    obtain ⟨i, rfl, hi, HS, hbr⟩ := hrel
    by_cases hlt : (i : Int) < (r : Int)
    · obtain ⟨p, hp⟩ : ∃ p, ns[i]? = some p := ⟨ns[i]'(by have := HR.out; omega), List.getElem?_eq_getElem _⟩
      obtain ⟨bb, oo, rfl, g0⟩ := (hN.below hbr) i p hp
      have HP := Lib.hid hp
      clear hp
      obtain ⟨c, hc⟩ : ∃ c, Jn.txt p = c := ⟨_, rfl⟩
      have cT := fun w => isNoText_any p w hc
      have HC := Lib.hid hc
      clear hc
      cases c with
      | true =>
        go_wp2_with fail
        refine (cT _).mono ?_; rintro e w1 ⟨rfl, b1⟩
        go_wp2_with fail
        go_roundw
        case rel =>
          refine ⟨i + 1, by go_num, by omega, fun j z hj hz => ?_, hbr.trans (b1.mono hbr.size)⟩
          by_cases hji : j < i
          · exact HS.out j z hji hz
          · obtain rfl : j = i := by omega
            rw [HP.out] at hz
            obtain rfl : p = z := by simpa using hz
            exact HC.out
        case measure => simp [intOf]; omega
      | false =>
        have HF : Hid (ns.all Jn.txt = false) := txts_not HP.out HC.out
        go_wp2_with fail
        refine (cT _).mono ?_; rintro e w1 ⟨rfl, b1⟩
        go_wp2_with fail
        go_ret
        exact ⟨⟨_, rfl, by rw [HF.out, Bool.not_false, decide_eq_true_iff]; omega⟩, hbr.trans (b1.mono hbr.size)⟩
    · obtain rfl : i = r := by omega
      have HT : Hid (ns.all Jn.txt = true) := txts_all ns fun j z hz => HS.out j z (by have := (List.getElem?_eq_some_iff.1 hz).1; have := HR.out; omega) hz
      go_wp2_with fail
      go_ret
      exact ⟨⟨_, rfl, by rw [HT.out, Bool.not_true, decide_eq_false_iff_not]; omega⟩, hbr⟩
theorem anyNoText_any (ns : List (List UInt8)) (a : Option Addr) (ca : Nat) (w : World) (hN : NS w a ns) (hl : ns.length ≤ maxLen) {c : Bool} (hc : ns.all Jn.txt = c) :
    Calls Tryd.prog 43 #[.slice a ns.length ca, .func (.func 44) #[] #[]] w fun e w' => e = .returned (.bool (!c)) ∧ Below w.heap.size w w' := by
  have cI := indexNoText_any ns a ca w hN hl
  rw [hc] at cI
  clear hc
  go_enter Tryd.func43, Tryd.ntmps43
  go_wp2_with fail
  refine cI.mono ?_; rintro e w1 ⟨⟨z, rfl, hz⟩, b1⟩
  have HZ := Lib.hid hz
  clear hz
  go_wp2_with fail
  go_ret
  exact ⟨ret_bool HZ.out, b1⟩
theorem isPaired_any (x : JV) (w : World) (v : Value) (hv : HV w v x) {c : Bool} (hcc : (x.ns.length == x.is.length) = c) :
    Calls Tryd.prog 48 #[v] w fun e w' => e = .returned (.bool c) ∧ Below w.heap.size w w' := by
  obtain ⟨cs, rfl, hc⟩ := hv
  obtain ⟨a, b, ca, cb, rfl, hB, hN, hI⟩ := hc.form
  have b1 : Below w.heap.size w (w.alloc (.cells #[.int .u8 (x.k : Int), .int .i64 x.n, .string (S x.t), .slice a x.ns.length ca, .slice b x.is.length cb] 25)) := (Below.refl _ _).alloc (Nat.le_refl _) _
  have HC : Hid (((x.ns.length : Nat) : Int) = ((x.is.length : Nat) : Int) ↔ c = true) := by rw [Hid, ← hcc, beq_iff_eq]; omega
  clear hcc hc hB hN hI
  go_enter Tryd.func48, Tryd.ntmps48
  go_wp2_with fail
  go_ret
  refine ⟨ret_bool ?_, b1⟩
  rw [Bool.eq_iff_iff, ← HC.out]
  first | exact beq_iff_eq | (simp only [decide_eq_true_iff, beq_iff_eq]; omega)
set_option maxHeartbeats 1000000 in
set_option maxRecDepth 3000 in
theorem isAscending_any (ns : List (List UInt8)) (a : Option Addr) (ca : Nat) (w : World) (hN : NS w a ns) (hl : ns.length ≤ 9223372036854775806) {c : Bool} (hc : Jn.rise ns = c) :
    Calls Tryd.prog 49 #[.slice a ns.length ca] w fun e w' => e = .returned (.bool c) ∧ Below w.heap.size w w' := by
  obtain ⟨m, hm⟩ : ∃ m, ns.length = m := ⟨_, rfl⟩
  rw [hm]
  have HM := Lib.hid hm
  have HC := Lib.hid hc
  have hm2 : (m : Int) ≤ 9223372036854775806 := by omega
  clear hm hl hc
  go_enter Tryd.func49, Tryd.ntmps49
  go_wp2_with fail
  go_loopw [3] (fun iv wr => ∃ i : Nat, iv = .int .i64 ((i : Int) + 1) ∧ i ≤ m ∧ Hid (∀ j x y, j < i → ns[j]? = some x → ns[j + 1]? = some y → Jn.lt x y = true) ∧ NS wr a ns ∧ Below w.heap.size w wr) (fun iv _ => m + 1 - (intOf iv).toNat)
  case atStart => exact ⟨0, rfl, Nat.zero_le _, fun j x y h => by omega, hN, Below.refl _ _⟩
  case round =>
    clear hN
    obtain ⟨i, rfl, hi, HI, hN, hb⟩ := hrel
    by_cases hlt : (i : Int) + 1 < (m : Int)
    · obtain ⟨x, hx⟩ : ∃ x, ns[i]? = some x := ⟨ns[i]'(by have := HM.out; omega), List.getElem?_eq_getElem _⟩
      obtain ⟨y, hy⟩ : ∃ y, ns[i + 1]? = some y := ⟨ns[i + 1]'(by have := HM.out; omega), List.getElem?_eq_getElem _⟩
      obtain ⟨b, o, rfl, g0⟩ := hN i x hx
      obtain ⟨b', o', e1, g1⟩ := hN (i + 1) y hy
      obtain ⟨rfl, rfl⟩ : b = b' ∧ o = o' := by simpa using e1
      obtain ⟨i1, hi1⟩ : ∃ i1 : Nat, i1 = i + 1 := ⟨_, rfl⟩
      rw [← hi1] at g1
      have hI1 : (i : Int) + 1 = (i1 : Int) := by omega
      have hI0 : (i1 : Int) - 1 = (i : Int) := by omega
      have hl1 : (i1 : Int) < (m : Int) := by omega
      have hl0 : (i : Int) < (m : Int) := by omega
      have HX := Lib.hid hx
      have HY := Lib.hid hy
      have H1 := Lib.hid hi1
      have s1 := S_toList x
      have s2 := S_toList y
      have a9 : ∀ n, Below wr.heap.size wr (wr.drewN n) := fun n => ⟨rfl, rfl, rfl, Nat.le_refl _, fun _ _ => rfl⟩
      clear hx hy hi1 e1
      rw [hI1]
      obtain ⟨q, hq⟩ : ∃ q, Op.bytesLess x y = q := ⟨_, rfl⟩
      cases q with
      | false =>
        have HF : Hid (Jn.rise ns = false) := Jn.rise_no HX.out HY.out (by unfold Jn.lt; exact hq)
        go_wp2_with fail
        go_quiet (fail)
        go_wp2_with fail
        go_ret
        exact ⟨ret_bool (by rw [← HC.out]; exact HF.out.symm), hb.trans ((a9 _).mono hb.size)⟩
      | true =>
        have HT : Hid (Jn.lt x y = true) := by unfold Hid Jn.lt; exact hq
        go_wp2_with fail
        go_quiet (fail)
        go_wp2_with fail
        go_roundw
        case rel =>
          refine ⟨i + 1, by go_num, by omega, ?_, fun k z hz => ?_, hb.trans ((a9 _).mono hb.size)⟩
          · intro j p q hj hp hq
            by_cases hji : j < i
            · exact HI.out j p q hji hp hq
            · obtain rfl : j = i := by omega
              rw [HX.out] at hp
              rw [HY.out] at hq
              obtain rfl : x = p := by simpa using hp
              obtain rfl : y = q := by simpa using hq
              exact HT.out
          · exact (hN.below (a9 _)) k z hz
        case measure => simp [intOf]; omega
    · have HT : Hid (Jn.rise ns = true) := Jn.rise_of ns fun j x y hx hy => HI.out j x y (by have := (List.getElem?_eq_some_iff.1 hy).1; have := HM.out; omega) hx hy
      go_wp2_with fail
      go_ret
      exact ⟨ret_bool (by rw [← HC.out]; exact HT.out.symm), hb⟩
theorem isSorted_any (x : JV) (w : World) (v : Value) (hv : HV w v x) (hl : x.ns.length ≤ 9223372036854775806) {c : Bool} (hcc : (x.ns.length == x.is.length && Jn.rise x.ns) = c) :
    Calls Tryd.prog 42 #[v] w fun e w' => e = .returned (.bool c) ∧ Below w.heap.size w w' := by
  obtain ⟨p, hp⟩ : ∃ p, (x.ns.length == x.is.length) = p := ⟨_, rfl⟩
  obtain ⟨q, hq⟩ : ∃ q, Jn.rise x.ns = q := ⟨_, rfl⟩
  rw [hp, hq] at hcc
  obtain ⟨cs, rfl, hc⟩ := hv
  obtain ⟨a, b, ca, cb, rfl, hB, hN, hI⟩ := hc.form
  have b1 : Below w.heap.size w (w.alloc (.cells #[.int .u8 (x.k : Int), .int .i64 x.n, .string (S x.t), .slice a x.ns.length ca, .slice b x.is.length cb] 25)) := (Below.refl _ _).alloc (Nat.le_refl _) _
  have V1 := VAt.new w (.int .u8 (x.k : Int)) (.int .i64 x.n) (.string (S x.t)) (.slice a x.ns.length ca) (.slice b x.is.length cb)
  have hv1 : HV (w.alloc (.cells #[.int .u8 (x.k : Int), .int .i64 x.n, .string (S x.t), .slice a x.ns.length ca, .slice b x.is.length cb] 25)) (.agg #[.int .u8 (x.k : Int), .int .i64 x.n, .string (S x.t), .slice a x.ns.length ca, .slice b x.is.length cb]) x := ⟨_, rfl, HC.below b1 x _ hc⟩
  have cP := isPaired_any x _ _ hv1 hp
  have cA := fun w (hN : NS w a x.ns) => isAscending_any x.ns a ca w hN hl hq
  have HV1 := Lib.hid V1
  have HN := Lib.hid hN
  clear hp hq hc hB hI hv1 V1 hN
  cases p with
  | false =>
    go_enter Tryd.func42, Tryd.ntmps42
    go_wp2_with fail
    refine cP.mono ?_; rintro e w2 ⟨rfl, b2⟩
    go_wp2_with fail
    go_ret
    exact ⟨ret_bool (by rw [← hcc]; rfl), b1.trans (b2.mono b1.size)⟩
  | true =>
    go_enter Tryd.func42, Tryd.ntmps42
    go_wp2_with fail
    refine cP.mono ?_; rintro e w2 ⟨rfl, b2⟩
    have b3 := b1.trans (b2.mono b1.size)
    obtain ⟨⟨p0, p1, p2, p3, p4⟩, _⟩ := (HV1.out.below b2).cells
    go_wp2_with fail
    refine (cA _ (HN.out.below b3)).mono ?_; rintro e w4 ⟨rfl, b4⟩
    go_wp2_with fail
    go_ret
    exact ⟨ret_bool (by rw [← hcc]), b3.trans (b4.mono b3.size)⟩
end Go.Proofs.YtpifbmcgadjhbaaDoor
