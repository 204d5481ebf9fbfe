/-
  QuoteWrite, ValCnt, ValForm, ValMay, ValMay2, CanMath, CanFree, CanProg, CanEnc, RegGrow, ValFd, CanAwJ, CanAwG, CanAwake, ReadShort, ValCp, ValRefWo2, ValCopy: one text.
-/
import Derived.Test.YtpifbmcgadjhbaaGreatDoorQuoteProg
import Derived.Deep.AppendLies
import Derived.Test.YtpifbmcgadjhbaaGreatDoorValRefDep
import Derived.Test.YtpifbmcgadjhbaaGreatDoorValRise
import Derived.Test.YtpifbmcgadjhbaaGreatDoorText
import Derived.Laws.Cover1
import Derived.BigQuiet
import Derived.Deep.QuietTactic
import Derived.Test.YtpifbmcgadjhbaaGreatDoorBunS
import Derived.Test.YtpifbmcgadjhbaaGreatDoorValRefMay
import Derived.Test.YtpifbmcgadjhbaaGreatDoorValSize
import Derived.Test.YtpifbmcgadjhbaaGreatDoorQuoteRead
import Derived.Test.YtpifbmcgadjhbaaGreatDoorNumMath
import Derived.Test.YtpifbmcgadjhbaaGreatDoorBase
import Derived.Shelf.Strings.BuilderK
import Derived.Test.YtpifbmcgadjhbaaGreatDoorShelf
import Derived.Test.YtpifbmcgadjhbaaGreatDoorNumProg
import Derived.Test.YtpifbmcgadjhbaaGreatDoorRegCalls
import Derived.Test.YtpifbmcgadjhbaaGreatDoorBunC
import Derived.Laws.MakeOwn
import Derived.Laws.IdiomStrings
import Derived.Test.YtpifbmcgadjhbaaGreatDoorBunR
import Derived.BigRegion
import Derived.Lib.AppendZeros
namespace Go.Proofs.YtpifbmcgadjhbaaGreatDoor
section
open Go.RowKit

def QUO (l : List UInt8) : List UInt8 × Nat := if 4096 < l.length then ([], 5) else if (LEN l).2 = true then (Qm.quo l, 0) else ([], 12)
theorem QUO_long {l : List UInt8} (h : 4096 < l.length) : QUO l = ([], 5) := by unfold QUO; rw [if_pos h]
theorem QUO_ok {l : List UInt8} (h : l.length ≤ 4096) (hv : (LEN l).2 = true) : QUO l = (Qm.quo l, 0) := by unfold QUO; rw [if_neg (by omega), if_pos hv]
theorem QUO_no {l : List UInt8} (h : l.length ≤ 4096) (hv : (LEN l).2 = false) : QUO l = ([], 12) := by unfold QUO; rw [if_neg (by omega), if_neg (by rw [hv]; decide)]
theorem ret_quo {x : List UInt8 × Nat} {a : List UInt8} {c : Nat} (h : x = (a, c)) : Ending.returned (.tuple #[.string (S a), .int .i64 (c : Int)]) = .returned (.tuple #[.string (S x.1), .int .i64 (x.2 : Int)]) := by rw [h]
theorem own_new (w : World) (B : Nat) (x : Value) (h : B ≤ w.heap.size) : (w.alloc (.cells #[x] 5)).ownsRow B 5 1 (.slice (some ⟨w.heap.size, 0, none⟩) 1 1) 1 [x] :=
  ⟨rfl, .inr ⟨w.heap.size, 1, #[x], rfl, h, heap_alloc_new w _, Nat.le_refl _, by decide, rfl, rfl⟩⟩
namespace Qm
/-- what is written behind k bytes -/
def mid (l : List UInt8) (k : Nat) : List UInt8 := 34 :: esc (l.take k)
theorem mid_zero (l : List UInt8) : mid l 0 = [34] := rfl
theorem mid_len (l : List UInt8) (k : Nat) : (mid l k).length ≤ 2 * k + 1 := by
  have := (esc_len (l.take k)).2
  have h2 : (l.take k).length ≤ k := by rw [List.length_take]; omega
  unfold mid
  rw [List.length_cons]
  omega
theorem mid_full (l : List UInt8) : mid l l.length ++ [34] = quo l := by
  unfold mid quo
  rw [List.take_length]
  rfl
theorem mid_mark {l : List UInt8} {k : Nat} (h : k < l.length) {c : UInt8} (hc : l[k] = c) (h1 : c = 34 ∨ c = 92) : mid l (k + 1) = mid l k ++ [92] ++ [c] := by
  unfold mid
  rw [List.take_succ_eq_append_getElem h, esc_append, hc, esc_one, if_pos h1]
  simp
theorem mid_plain {l : List UInt8} {k : Nat} (h : k < l.length) {c : UInt8} (hc : l[k] = c) (h1 : ¬ (c = 34 ∨ c = 92)) : mid l (k + 1) = mid l k ++ [c] := by
  unfold mid
  rw [List.take_succ_eq_append_getElem h, esc_append, hc, esc_one, if_neg h1]
  simp
end Qm
theorem bt_get {l : List UInt8} {k : Nat} (h : k < l.length) : Um.bt l k = l[k].toNat := by
  unfold Um.bt
  simp [List.getD_eq_getElem?_getD, List.getElem?_eq_getElem h]
set_option maxRecDepth 100000 in
set_option maxHeartbeats 1600000 in
theorem Quote_any (l : List UInt8) (w : World) (hl : l.length ≤ 100000000) :
    Calls Tryz.prog 23 #[.string (S l)] w fun e w' => e = .returned (.tuple #[.string (S (QUO l).1), .int .i64 ((QUO l).2 : Int)]) ∧ Below w.heap.size w w' := by
  have z1 := S_size l
  have hat := S_at l
  by_cases h1 : (4096 : Int) < (l.length : Int)
  · have HR := Lib.hid (QUO_long (l := l) (by omega))
    go_enter Tryz.func23, Tryz.ntmps23
    go_wp2_with fail
    go_ret2
    exact ⟨ret_quo HR.out, Below.refl _ _⟩
  cases hv : (LEN l).2
  · have HR := Lib.hid (QUO_no (l := l) (by omega) hv)
    have HV := Lib.hid hv
    clear hv
    go_enter Tryz.func23, Tryz.ntmps23
    go_wp2_with fail
    refine (Valid_at (Below.refl _ _) l hl HV.out).mono ?_; rintro e w1 ⟨rfl, h1⟩
    go_wp2_with fail
    go_ret2
    exact ⟨ret_quo HR.out, h1⟩
  · have HR := Lib.hid (QUO_ok (l := l) (by omega) hv)
    have HV := Lib.hid hv
    clear hv
    obtain ⟨i0, hi0, hz0, hz1, hz2⟩ := info_parts info5
    go_enter Tryz.func23, Tryz.ntmps23
    go_wp2_with fail
    refine (Valid_at (Below.refl _ _) l hl HV.out).mono ?_; rintro e w1 ⟨rfl, hb1⟩
    have hown0 := own_new w1 w.heap.size (.int .u8 34) hb1.size
    have hb2 : Below w.heap.size w (w1.alloc (.cells #[.int .u8 34] 5)) := hb1.alloc hb1.size _
    have HO := Lib.hid hown0
    clear hown0
    go_wp2_with fail
    go_loopw [4, 5, 15] (fun v _ i wr => ∃ (k : Nat) (o : List UInt8), k ≤ l.length ∧ i = .int .i64 (k : Int) ∧ Hid (o = Qm.mid l k) ∧ o.length ≤ 2 * k + 1 ∧ wr.ownsRow w.heap.size 5 1 v o.length (V o) ∧ Below w.heap.size w wr) (fun _ _ i _ => l.length - (intOf i).toNat)
    case atStart => exact ⟨0, [34], Nat.zero_le _, rfl, rfl, by simp, HO.out, hb2⟩
    case round =>
      clear HO hb2 hb1
      obtain ⟨k, o, hk, rfl, HM, ho, hown, hbel⟩ := hrel
      have hsz := hbel.size
      by_cases hlt : k < l.length
      · have hbt := bt_get hlt
        obtain ⟨c, hc⟩ : ∃ c, l[k] = c := ⟨_, rfl⟩
        rw [hc] at hbt
        have hml := Qm.mid_len l (k + 1)
        by_cases h3 : c = 34 ∨ c = 92
        · have HM2 : Hid (Qm.mid l (k + 1) = o ++ [92] ++ [c]) := by unfold Hid; rw [Qm.mid_mark hlt hc h3, HM.out]
          clear hc HM
          rcases h3 with rfl | rfl
          all_goals
            go_wp2_with (first
              | (at_builtin; refine wpList_append_own _ rfl _ _ 36 rfl w.heap.size 5 i0 (.int .u8 0) 1 1 Tryz.underlying36 hi0 hz0 hz1 hz2 rfl (by decide) _ _ _ rfl (hown.alloc _) ⟨wr.heap.size, 0, none⟩ 1 1 [.int .u8 92] rfl rfl (World.news_of_block (cs := #[.int .u8 92]) (t := 5) (fr := (0, 0)) (heap_alloc_new wr _)) (by simp [Value.oneCell']) (by unfold maxLen; omega) (by omega) (by simp; omega) ?_; intro v' w2 hown1 hgrow _; have hb3 : Below w.heap.size w w2 := (hbel.alloc hsz _).grown hgrow (by simp <;> omega) (fun g e => (hown.lt _ e).1); have hsz2 := hb3.size)
              | (at_builtin; refine wpList_append_own _ rfl _ _ 36 rfl w.heap.size 5 i0 (.int .u8 0) 1 1 Tryz.underlying36 hi0 hz0 hz1 hz2 rfl (by decide) _ _ _ rfl (hown1.alloc _) ⟨w2.heap.size, 0, none⟩ 1 1 [.int .u8 _] rfl rfl (World.news_of_block (cs := #[.int .u8 _]) (t := 5) (fr := (0, 0)) (heap_alloc_new w2 _)) (by simp [Value.oneCell']) (by unfold maxLen; omega) (by omega) (by simp; omega) ?_; intro v'' w3 hown2 hgrow2 _))
            have hb4 := (hb3.alloc hsz2 _).grown hgrow2 (by simp <;> omega) (fun g e => (hown1.lt _ e).1)
            have HL := Lib.hid (show o.length + 1 + 1 ≤ 2 * (k + 1) + 1 by omega)
            clear hown hgrow hgrow2 hown1
            go_wp2_with fail
            go_roundw
            case rel =>
              refine ⟨k + 1, _, by omega, by go_num, HM2.out.symm, by rw [List.length_append, List.length_append]; exact HL.out, ?_, hb4⟩
              rw [V_append, V_append, List.length_append, List.length_append]
              exact hown2
            case measure => simp [intOf]; omega
        · have HM2 : Hid (Qm.mid l (k + 1) = o ++ [c]) := by unfold Hid; rw [Qm.mid_plain hlt hc h3, HM.out]
          have n1 : ((c.toNat : Int) == 34) = false := by
            rw [beq_eq_false_iff_ne]
            intro e
            exact h3 (.inl (UInt8.toNat_inj.1 (show c.toNat = 34 by omega)))
          have n2 : ((c.toNat : Int) == 92) = false := by
            rw [beq_eq_false_iff_ne]
            intro e
            exact h3 (.inr (UInt8.toNat_inj.1 (show c.toNat = 92 by omega)))
          clear hc HM h3
          go_wp2_with (at_builtin; refine wpList_append_own _ rfl _ _ 36 rfl w.heap.size 5 i0 (.int .u8 0) 1 1 Tryz.underlying36 hi0 hz0 hz1 hz2 rfl (by decide) _ _ _ rfl (hown.alloc _) ⟨wr.heap.size, 0, none⟩ 1 1 [.int .u8 (c.toNat : Int)] rfl rfl (World.news_of_block (cs := #[.int .u8 (c.toNat : Int)]) (t := 5) (fr := (0, 0)) (heap_alloc_new wr _)) (by simp [Value.oneCell']) (by unfold maxLen; omega) (by omega) (by simp; omega) ?_; intro v' w2 hown1 hgrow _)
          have hb3 : Below w.heap.size w w2 := (hbel.alloc hsz _).grown hgrow (by simp <;> omega) (fun g e => (hown.lt _ e).1)
          have HL := Lib.hid (show o.length + 1 ≤ 2 * (k + 1) + 1 by omega)
          clear hown hgrow
          go_wp2_with fail
          go_roundw
          case rel =>
            refine ⟨k + 1, _, by omega, by go_num, HM2.out.symm, by rw [List.length_append]; exact HL.out, ?_, hb3⟩
            rw [V_append, List.length_append]
            exact hown1
          case measure => simp [intOf]; omega
      · obtain rfl : k = l.length := by omega
        have HQ : Hid (o ++ [34] = Qm.quo l) := by unfold Hid; rw [HM.out, Qm.mid_full]
        clear HM
        go_wp2_with (at_builtin; refine wpList_append_own _ rfl _ _ 36 rfl w.heap.size 5 i0 (.int .u8 0) 1 1 Tryz.underlying36 hi0 hz0 hz1 hz2 rfl (by decide) _ _ _ rfl (hown.alloc _) ⟨wr.heap.size, 0, none⟩ 1 1 [.int .u8 34] rfl rfl (World.news_of_block (cs := #[.int .u8 34]) (t := 5) (fr := (0, 0)) (heap_alloc_new wr _)) (by simp [Value.oneCell']) (by unfold maxLen; omega) (by omega) (by simp; omega) ?_; intro v' w2 hown1 hgrow _; have hcv := conv_own w2 w.heap.size _ (o ++ [34]) (by rw [V_append, List.length_append]; exact hown1))
        have hb3 : Below w.heap.size w w2 := (hbel.alloc hsz _).grown hgrow (by simp <;> omega) (fun g e => (hown.lt _ e).1)
        go_ret2
        exact ⟨ret_quo (by rw [HR.out, HQ.out]), hb3⟩
end

section
open Go.RowKit

theorem five {w : World} {c0 c1 c2 c3 c4 : Value} {y : JV} (h : HC w [c0, c1, c2, c3, c4] y) : ∃ a b ca cb, c0 = .int .u8 (y.k : Int) ∧ c1 = .int .i64 y.n ∧ c2 = .string (S y.t) ∧ c3 = .slice a y.ns.length ca ∧ c4 = .slice b y.is.length cb := by
  obtain ⟨a, b, ca, cb, hcs, _⟩ := h.form
  simp only [List.cons.injEq, and_true] at hcs
  exact ⟨a, b, ca, cb, hcs.1, hcs.2.1, hcs.2.2.1, hcs.2.2.2.1, hcs.2.2.2.2⟩
theorem nests_any (w : World) (x : JV) (a b : Option Addr) (ca cb : Nat) (l m : Nat) (kI n : Int) (t : List UInt8) (hk : kI = (x.k : Int)) {c : Bool} (hcc : c = decide (x.k = 4 ∨ x.k = 5)) :
    Calls Tryz.prog 76 #[.agg #[.int .u8 kI, .int .i64 n, .string (S t), .slice a l ca, .slice b m cb]] w fun e w' => e = .returned (.bool c) ∧ Below w.heap.size w w' := by
  have b1 : Below w.heap.size w (w.alloc (.cells #[.int .u8 kI, .int .i64 n, .string (S t), .slice a l ca, .slice b m cb] 26)) := (Below.refl _ _).alloc (Nat.le_refl _) _
  have HK := Lib.hid hk
  have HC := Lib.hid hcc
  clear hk hcc
  by_cases h4 : kI = 4
  · subst h4
    go_enter Tryz.func76, Tryz.ntmps76
    go_wp2_with fail
    go_ret
    refine ⟨ret_bool ?_, b1⟩
    rw [HC.out, eq_comm, decide_eq_true_iff]
    have := HK.out
    omega
  · have hb : (kI == 4) = false := beq_eq_false_iff_ne.2 h4
    by_cases h5 : kI = 5
    · subst h5
      clear hb h4
      go_enter Tryz.func76, Tryz.ntmps76
      go_wp2_with fail
      go_ret
      refine ⟨ret_bool ?_, b1⟩
      rw [HC.out, eq_comm, decide_eq_true_iff]
      have := HK.out
      omega
    · have hb : (kI == 5) = false := beq_eq_false_iff_ne.2 h5
      go_enter Tryz.func76, Tryz.ntmps76
      go_wp2_with fail
      go_ret
      refine ⟨ret_bool ?_, b1⟩
      rw [HC.out, eq_comm, decide_eq_false_iff_not]
      have := HK.out
      omega
end

section
open Go.RowKit

theorem isText_any (l : List UInt8) (w : World) {c : Bool} (hc : Jn.txt l = c) :
    Calls Tryz.prog 94 #[.string (S l)] w fun e w' => e = .returned (.bool c) ∧ Below w.heap.size w w' := by
  have z1 := S_size l
  obtain ⟨n, b, hL⟩ : ∃ c b, LEN l = (c, b) := ⟨_, _, rfl⟩
  have HL : Hid (c = (b && decide (l.length ≤ 4096))) := by rw [← hc]; unfold Jn.txt Hid; rw [hL]
  have h2 : (LEN l).2 = b := by rw [hL]
  by_cases h4 : (l.length : Int) ≤ 4096
  · have cL := fun w => Valid_at (Below.refl _ w) l (by omega) h2
    have HL : Hid (c = b) := by rw [Hid, HL.out]; simp; omega
    clear hL hc h2
    go_enter Tryz.func94, Tryz.ntmps94
    go_wp2_with fail
    refine (cL _).mono ?_; rintro e w1 ⟨rfl, b1⟩
    go_wp2_with fail
    go_ret
    exact ⟨ret_bool HL.out.symm, b1⟩
  · have HL : Hid (c = false) := by rw [Hid, HL.out]; simp; omega
    clear hL hc h2
    go_enter Tryz.func94, Tryz.ntmps94
    go_wp2_with fail
    go_ret
    exact ⟨ret_bool HL.out.symm, Below.refl _ _⟩
theorem isNoText_any (l : List UInt8) (w : World) {c : Bool} (hc : Jn.txt l = c) :
    Calls Tryz.prog 97 #[.string (S l)] w fun e w' => e = .returned (.bool (!c)) ∧ Below w.heap.size w w' := by
  have cT := fun w => isText_any l w hc
  clear hc
  go_enter Tryz.func97, Tryz.ntmps97
  go_wp2_with fail
  refine (cT _).mono ?_; rintro e w1 ⟨rfl, b1⟩
  go_wp2_with fail
  go_ret
  exact ⟨rfl, b1⟩
theorem txts_all (ns : List (List UInt8)) (h : ∀ (i : Nat) x, ns[i]? = some x → Jn.txt x = true) : ns.all Jn.txt = true := by
  rw [List.all_eq_true]
  intro x hx
  obtain ⟨i, hi⟩ := List.getElem?_of_mem hx
  exact h i x hi
theorem txts_not {ns : List (List UInt8)} {i : Nat} {x : List UInt8} (h : ns[i]? = some x) (hp : Jn.txt x = false) : ns.all Jn.txt = false := by
  rw [List.all_eq_false]
  exact ⟨x, List.mem_of_getElem? h, by rw [hp]; exact Bool.false_ne_true⟩
set_option maxHeartbeats 1000000 in
set_option maxRecDepth 3000 in
theorem indexNoText_any (ns : List (List UInt8)) (a : Option Addr) (ca : Nat) (w : World) (hN : NS w a ns) (hl : ns.length ≤ maxLen) :
    Calls Tryz.prog 116 #[.slice a ns.length ca, .func (.func 97) #[] #[]] w fun e w' => (∃ z : Int, e = .returned (.int .i64 z) ∧ decide (0 ≤ z) = !ns.all Jn.txt) ∧ Below w.heap.size w w' := by
  obtain ⟨r, hr⟩ : ∃ m, ns.length = m := ⟨_, rfl⟩
  have hr2 : (r : Int) ≤ 9223372036854775807 := by unfold maxLen at hl; omega
  rw [hr]
  have HR := Lib.hid hr
  clear hr hl
  go_enter Tryz.func116, Tryz.ntmps116
  go_wp2_with fail
  go_loopw [8] (fun iv wr => ∃ i : Nat, iv = .int .i64 (i : Int) ∧ i ≤ r ∧ Hid (∀ (j : Nat) (p : List UInt8), j < i → ns[j]? = some p → Jn.txt p = true) ∧ Below w.heap.size w wr) (fun iv _ => r - (intOf iv).toNat)
  case atStart => exact ⟨0, rfl, Nat.zero_le _, fun j p h => by omega, Below.refl _ _⟩
  case round =>
    obtain ⟨i, rfl, hi, HS, hbr⟩ := hrel
    by_cases hlt : (i : Int) < (r : Int)
    · obtain ⟨p, hp⟩ : ∃ p, ns[i]? = some p := ⟨ns[i]'(by have := HR.out; omega), List.getElem?_eq_getElem _⟩
      obtain ⟨bb, oo, rfl, g0⟩ := (hN.below hbr) i p hp
      have HP := Lib.hid hp
      clear hp
      obtain ⟨c, hc⟩ : ∃ c, Jn.txt p = c := ⟨_, rfl⟩
      have cT := fun w => isNoText_any p w hc
      have HC := Lib.hid hc
      clear hc
      cases c with
      | true =>
        go_wp2_with fail
        refine (cT _).mono ?_; rintro e w1 ⟨rfl, b1⟩
        go_wp2_with fail
        go_roundw
        case rel =>
          refine ⟨i + 1, by go_num, by omega, fun j z hj hz => ?_, hbr.trans (b1.mono hbr.size)⟩
          by_cases hji : j < i
          · exact HS.out j z hji hz
          · obtain rfl : j = i := by omega
            rw [HP.out] at hz
            obtain rfl : p = z := by simpa using hz
            exact HC.out
        case measure => simp [intOf]; omega
      | false =>
        have HF : Hid (ns.all Jn.txt = false) := txts_not HP.out HC.out
        go_wp2_with fail
        refine (cT _).mono ?_; rintro e w1 ⟨rfl, b1⟩
        go_wp2_with fail
        go_ret
        exact ⟨⟨_, rfl, by rw [HF.out, Bool.not_false, decide_eq_true_iff]; omega⟩, hbr.trans (b1.mono hbr.size)⟩
    · obtain rfl : i = r := by omega
      have HT : Hid (ns.all Jn.txt = true) := txts_all ns fun j z hz => HS.out j z (by have := (List.getElem?_eq_some_iff.1 hz).1; have := HR.out; omega) hz
      go_wp2_with fail
      go_ret
      exact ⟨⟨_, rfl, by rw [HT.out, Bool.not_true, decide_eq_false_iff_not]; omega⟩, hbr⟩
theorem anyNoText_any (ns : List (List UInt8)) (a : Option Addr) (ca : Nat) (w : World) (hN : NS w a ns) (hl : ns.length ≤ maxLen) {c : Bool} (hc : ns.all Jn.txt = c) :
    Calls Tryz.prog 96 #[.slice a ns.length ca, .func (.func 97) #[] #[]] w fun e w' => e = .returned (.bool (!c)) ∧ Below w.heap.size w w' := by
  have cI := indexNoText_any ns a ca w hN hl
  rw [hc] at cI
  clear hc
  go_enter Tryz.func96, Tryz.ntmps96
  go_wp2_with fail
  refine cI.mono ?_; rintro e w1 ⟨⟨z, rfl, hz⟩, b1⟩
  have HZ := Lib.hid hz
  clear hz
  go_wp2_with fail
  go_ret
  exact ⟨ret_bool HZ.out, b1⟩
theorem isPaired_any (x : JV) (w : World) (v : Value) (hv : HV w v x) {c : Bool} (hcc : (x.ns.length == x.is.length) = c) :
    Calls Tryz.prog 114 #[v] w fun e w' => e = .returned (.bool c) ∧ Below w.heap.size w w' := by
  obtain ⟨cs, rfl, hc⟩ := hv
  obtain ⟨a, b, ca, cb, rfl, hB, hN, hI⟩ := hc.form
  have b1 : Below w.heap.size w (w.alloc (.cells #[.int .u8 (x.k : Int), .int .i64 x.n, .string (S x.t), .slice a x.ns.length ca, .slice b x.is.length cb] 26)) := (Below.refl _ _).alloc (Nat.le_refl _) _
  have HC : Hid (((x.ns.length : Nat) : Int) = ((x.is.length : Nat) : Int) ↔ c = true) := by rw [Hid, ← hcc, beq_iff_eq]; omega
  clear hcc hc hB hN hI
  go_enter Tryz.func114, Tryz.ntmps114
  go_wp2_with fail
  go_ret
  refine ⟨ret_bool ?_, b1⟩
  rw [Bool.eq_iff_iff, ← HC.out]
  first | exact beq_iff_eq | (simp only [decide_eq_true_iff, beq_iff_eq]; omega)
set_option maxHeartbeats 1000000 in
set_option maxRecDepth 3000 in
theorem isAscending_any (ns : List (List UInt8)) (a : Option Addr) (ca : Nat) (w : World) (hN : NS w a ns) (hl : ns.length ≤ 9223372036854775806) {c : Bool} (hc : Jn.rise ns = c) :
    Calls Tryz.prog 115 #[.slice a ns.length ca] w fun e w' => e = .returned (.bool c) ∧ Below w.heap.size w w' := by
  obtain ⟨m, hm⟩ : ∃ m, ns.length = m := ⟨_, rfl⟩
  rw [hm]
  have HM := Lib.hid hm
  have HC := Lib.hid hc
  have hm2 : (m : Int) ≤ 9223372036854775806 := by omega
  clear hm hl hc
  go_enter Tryz.func115, Tryz.ntmps115
  go_wp2_with fail
  go_loopw [3] (fun iv wr => ∃ i : Nat, iv = .int .i64 ((i : Int) + 1) ∧ i ≤ m ∧ Hid (∀ j x y, j < i → ns[j]? = some x → ns[j + 1]? = some y → Jn.lt x y = true) ∧ NS wr a ns ∧ Below w.heap.size w wr) (fun iv _ => m + 1 - (intOf iv).toNat)
  case atStart => exact ⟨0, rfl, Nat.zero_le _, fun j x y h => by omega, hN, Below.refl _ _⟩
  case round =>
    clear hN
    obtain ⟨i, rfl, hi, HI, hN, hb⟩ := hrel
    by_cases hlt : (i : Int) + 1 < (m : Int)
    · obtain ⟨x, hx⟩ : ∃ x, ns[i]? = some x := ⟨ns[i]'(by have := HM.out; omega), List.getElem?_eq_getElem _⟩
      obtain ⟨y, hy⟩ : ∃ y, ns[i + 1]? = some y := ⟨ns[i + 1]'(by have := HM.out; omega), List.getElem?_eq_getElem _⟩
      obtain ⟨b, o, rfl, g0⟩ := hN i x hx
      obtain ⟨b', o', e1, g1⟩ := hN (i + 1) y hy
      obtain ⟨rfl, rfl⟩ : b = b' ∧ o = o' := by simpa using e1
      obtain ⟨i1, hi1⟩ : ∃ i1 : Nat, i1 = i + 1 := ⟨_, rfl⟩
      rw [← hi1] at g1
      have hI1 : (i : Int) + 1 = (i1 : Int) := by omega
      have hI0 : (i1 : Int) - 1 = (i : Int) := by omega
      have hl1 : (i1 : Int) < (m : Int) := by omega
      have hl0 : (i : Int) < (m : Int) := by omega
      have HX := Lib.hid hx
      have HY := Lib.hid hy
      have H1 := Lib.hid hi1
      have s1 := S_toList x
      have s2 := S_toList y
      have a9 : ∀ n, Below wr.heap.size wr (wr.drewN n) := fun n => ⟨rfl, rfl, rfl, Nat.le_refl _, fun _ _ => rfl⟩
      clear hx hy hi1 e1
      rw [hI1]
      obtain ⟨q, hq⟩ : ∃ q, Op.bytesLess x y = q := ⟨_, rfl⟩
      cases q with
      | false =>
        have HF : Hid (Jn.rise ns = false) := Jn.rise_no HX.out HY.out (by unfold Jn.lt; exact hq)
        go_wp2_with fail
        go_quiet (fail)
        go_wp2_with fail
        go_ret
        exact ⟨ret_bool (by rw [← HC.out]; exact HF.out.symm), hb.trans ((a9 _).mono hb.size)⟩
      | true =>
        have HT : Hid (Jn.lt x y = true) := by unfold Hid Jn.lt; exact hq
        go_wp2_with fail
        go_quiet (fail)
        go_wp2_with fail
        go_roundw
        case rel =>
          refine ⟨i + 1, by go_num, by omega, ?_, fun k z hz => ?_, hb.trans ((a9 _).mono hb.size)⟩
          · intro j p q hj hp hq
            by_cases hji : j < i
            · exact HI.out j p q hji hp hq
            · obtain rfl : j = i := by omega
              rw [HX.out] at hp
              rw [HY.out] at hq
              obtain rfl : x = p := by simpa using hp
              obtain rfl : y = q := by simpa using hq
              exact HT.out
          · exact (hN.below (a9 _)) k z hz
        case measure => simp [intOf]; omega
    · have HT : Hid (Jn.rise ns = true) := Jn.rise_of ns fun j x y hx hy => HI.out j x y (by have := (List.getElem?_eq_some_iff.1 hy).1; have := HM.out; omega) hx hy
      go_wp2_with fail
      go_ret
      exact ⟨ret_bool (by rw [← HC.out]; exact HT.out.symm), hb⟩
theorem isSorted_any (x : JV) (w : World) (v : Value) (hv : HV w v x) (hl : x.ns.length ≤ 9223372036854775806) {c : Bool} (hcc : (x.ns.length == x.is.length && Jn.rise x.ns) = c) :
    Calls Tryz.prog 95 #[v] w fun e w' => e = .returned (.bool c) ∧ Below w.heap.size w w' := by
  obtain ⟨p, hp⟩ : ∃ p, (x.ns.length == x.is.length) = p := ⟨_, rfl⟩
  obtain ⟨q, hq⟩ : ∃ q, Jn.rise x.ns = q := ⟨_, rfl⟩
  rw [hp, hq] at hcc
  obtain ⟨cs, rfl, hc⟩ := hv
  obtain ⟨a, b, ca, cb, rfl, hB, hN, hI⟩ := hc.form
  have b1 : Below w.heap.size w (w.alloc (.cells #[.int .u8 (x.k : Int), .int .i64 x.n, .string (S x.t), .slice a x.ns.length ca, .slice b x.is.length cb] 26)) := (Below.refl _ _).alloc (Nat.le_refl _) _
  have V1 := VAt.new w (.int .u8 (x.k : Int)) (.int .i64 x.n) (.string (S x.t)) (.slice a x.ns.length ca) (.slice b x.is.length cb)
  have hv1 : HV (w.alloc (.cells #[.int .u8 (x.k : Int), .int .i64 x.n, .string (S x.t), .slice a x.ns.length ca, .slice b x.is.length cb] 26)) (.agg #[.int .u8 (x.k : Int), .int .i64 x.n, .string (S x.t), .slice a x.ns.length ca, .slice b x.is.length cb]) x := ⟨_, rfl, HC.below b1 x _ hc⟩
  have cP := isPaired_any x _ _ hv1 hp
  have cA := fun w (hN : NS w a x.ns) => isAscending_any x.ns a ca w hN hl hq
  have HV1 := Lib.hid V1
  have HN := Lib.hid hN
  clear hp hq hc hB hI hv1 V1 hN
  cases p with
  | false =>
    go_enter Tryz.func95, Tryz.ntmps95
    go_wp2_with fail
    refine cP.mono ?_; rintro e w2 ⟨rfl, b2⟩
    go_wp2_with fail
    go_ret
    exact ⟨ret_bool (by rw [← hcc]; rfl), b1.trans (b2.mono b1.size)⟩
  | true =>
    go_enter Tryz.func95, Tryz.ntmps95
    go_wp2_with fail
    refine cP.mono ?_; rintro e w2 ⟨rfl, b2⟩
    have b3 := b1.trans (b2.mono b1.size)
    obtain ⟨⟨p0, p1, p2, p3, p4⟩, _⟩ := (HV1.out.below b2).cells
    go_wp2_with fail
    refine (cA _ (HN.out.below b3)).mono ?_; rintro e w4 ⟨rfl, b4⟩
    go_wp2_with fail
    go_ret
    exact ⟨ret_bool (by rw [← hcc]), b3.trans (b4.mono b3.size)⟩
end

section
open Go.RowKit

namespace JV
/-- has a value what its Kind uses, and nothing else, whatever its Items are? -/
def formed (x : JV) : Bool :=
  if x.k = 1 then (x.n == 0 || x.n == 1) && (x.t.length == 0 && (x.ns.length == 0 && x.is.length == 0))
  else if x.k = 2 then x.t.length == 0 && (x.ns.length == 0 && x.is.length == 0)
  else if x.k = 3 then x.n == 0 && (Jn.txt x.t && (x.ns.length == 0 && x.is.length == 0))
  else if x.k = 4 then x.n == 0 && (x.t.length == 0 && x.ns.length == 0)
  else if x.k = 5 then x.n == 0 && (x.t.length == 0 && ((x.ns.length == x.is.length && Jn.rise x.ns) && x.ns.all Jn.txt))
  else false
theorem parts_nil_and (b : Bool) (is : List JV) : (b && (is.length == 0)) = ((b && (is.length == 0)) && parts is) := by
  cases is with
  | nil => simp [parts]
  | cons x r => simp
theorem part_formed (x : JV) : part x = (formed x && parts x.is) := by
  rw [part_eq, formed]
  by_cases h1 : x.k = 1
  · rw [if_pos h1, if_pos h1]
    have := parts_nil_and true x.is
    revert this
    cases (x.n == 0 || x.n == 1) <;> cases (x.t.length == 0) <;> cases (x.ns.length == 0) <;> cases (x.is.length == 0) <;> cases (parts x.is) <;> simp
  rw [if_neg h1, if_neg h1]
  by_cases h2 : x.k = 2
  · rw [if_pos h2, if_pos h2]
    have := parts_nil_and true x.is
    revert this
    cases (x.t.length == 0) <;> cases (x.ns.length == 0) <;> cases (x.is.length == 0) <;> cases (parts x.is) <;> simp
  rw [if_neg h2, if_neg h2]
  by_cases h3 : x.k = 3
  · rw [if_pos h3, if_pos h3]
    have := parts_nil_and true x.is
    revert this
    cases (x.n == 0) <;> cases (Jn.txt x.t) <;> cases (x.ns.length == 0) <;> cases (x.is.length == 0) <;> cases (parts x.is) <;> simp
  rw [if_neg h3, if_neg h3]
  by_cases h4 : x.k = 4
  · rw [if_pos (.inl h4), if_pos h4, h4]
    have hn : (x.ns.length == 0) = true → Jn.rise x.ns = true ∧ x.ns.all Jn.txt = true := fun h => by
      rw [List.length_eq_zero_iff.1 (beq_iff_eq.1 h)]
      exact ⟨rfl, rfl⟩
    revert hn
    cases (x.n == 0) <;> cases (x.t.length == 0) <;> cases (x.ns.length == 0) <;> cases (Jn.rise x.ns) <;> cases (x.ns.all Jn.txt) <;> cases (parts x.is) <;> simp
  rw [if_neg h4]
  by_cases h5 : x.k = 5
  · rw [if_pos (.inr h5), if_pos h5, h5]
    cases (x.n == 0) <;> cases (x.t.length == 0) <;> cases (x.ns.length == x.is.length) <;> cases (Jn.rise x.ns) <;> cases (x.ns.all Jn.txt) <;> cases (parts x.is) <;> simp
  · rw [if_neg h5, if_neg (by rintro (h | h); exact h4 h; exact h5 h)]
    simp
end JV
set_option maxHeartbeats 8000000 in
set_option maxRecDepth 10000 in
theorem vFormed_any (x : JV) (hwt : x.wt ≤ 90000) (w : World) (v : Value) (hv : HV w v x) {c : Bool} (hcc : x.formed = c) :
    Calls Tryz.prog 77 #[v] w fun e w' => e = .returned (.bool c) ∧ Below w.heap.size w w' := by
  have hwe := x.wt_eq
  have hnl := JV.wn_len x.ns
  obtain ⟨cs, rfl, hc⟩ := hv
  obtain ⟨a, b, ca, cb, rfl, hB, hN, hI⟩ := hc.form
  obtain ⟨m, hm⟩ : ∃ m, x.is.length = m := ⟨_, rfl⟩
  obtain ⟨r, hr⟩ : ∃ r, x.ns.length = r := ⟨_, rfl⟩
  have hv1 : ∀ w', Below w.heap.size w w' → HV w' (.agg #[.int .u8 (x.k : Int), .int .i64 x.n, .string (S x.t), .slice a x.ns.length ca, .slice b x.is.length cb]) x := fun w' h => ⟨_, rfl, HC.below h x _ hc⟩
  have cA := fun w1 (h : Below w.heap.size w w1) {c : Bool} (hc : x.ns.all Jn.txt = c) => anyNoText_any x.ns a ca w1 (hN.below h) hB.2.2.2.1 hc
  have cS := fun w1 (h : Below w.heap.size w w1) {c : Bool} (hc : (x.ns.length == x.is.length && Jn.rise x.ns) = c) => isSorted_any x w1 _ (hv1 w1 h) (by omega) hc
  have cT := fun w {c : Bool} (hc : Jn.txt x.t = c) => isText_any x.t w hc
  have hm2 : (m : Int) ≤ 9223372036854775807 := by have := hB.2.2.2.2.1; unfold maxLen at this; omega
  have hr2 : (r : Int) ≤ 90000 := by omega
  have HP : Hid (c = _) := hcc.symm.trans (JV.formed.eq_1 x)
  rw [hm, hr] at HP
  rw [hm, hr] at cS
  rw [hr] at cA
  rw [hm, hr]
  obtain ⟨kI, hk⟩ : ∃ z : Int, z = (x.k : Int) := ⟨_, rfl⟩
  obtain ⟨nI, hn⟩ : ∃ z : Int, z = x.n := ⟨_, rfl⟩
  rw [← hk, ← hn] at cS
  rw [← hk, ← hn]
  rw [← hn] at HP
  have HK := Lib.hid hk
  clear hm hr hk hn hc hB hwe hnl hv1 hN hI hcc
  obtain ⟨W1, hW1⟩ : ∃ W, W = w.alloc (.cells #[.int .u8 kI, .int .i64 nI, .string (S x.t), .slice a r ca, .slice b m cb] 26) := ⟨_, rfl⟩
  have V1 : VAt w.heap.size W1 (.int .u8 kI) (.int .i64 nI) (.string (S x.t)) (.slice a r ca) (.slice b m cb) := by rw [hW1]; exact VAt.new ..
  have b1 : Below w.heap.size w W1 := by rw [hW1]; exact (Below.refl _ _).alloc (Nat.le_refl _) _
  obtain ⟨p3, hp3⟩ : ∃ p, (x.t.length == 0) = p := ⟨_, rfl⟩
  obtain ⟨p4, hp4⟩ : ∃ p, ((r : Int) == 0) = p := ⟨_, rfl⟩
  obtain ⟨p5, hp5⟩ : ∃ p, ((m : Int) == 0) = p := ⟨_, rfl⟩
  obtain ⟨b1', h1⟩ : ∃ p, (nI == 0) = p := ⟨_, rfl⟩
  rw [hp3, h1, ← zero_beq r, ← zero_beq m, hp4, hp5] at HP
  by_cases k1 : kI = 1
  · subst k1
    obtain ⟨b2', h2⟩ : ∃ p, (nI == 1) = p := ⟨_, rfl⟩
    have HP : Hid (c = ((b1' || b2') && (p3 && (p4 && p5)))) := by
      rw [Hid, HP.out, if_pos (by have := HK.out; omega), h2]
    clear cA cS cT
    cases b1' <;> cases b2' <;> cases p3 <;> cases p4 <;> cases p5
    all_goals
      first | (obtain ⟨s1, s2⟩ := empty_facts hp3) | (obtain ⟨s1, s2⟩ := full_facts hp3)
      clear hp3
      go_enter Tryz.func77, Tryz.ntmps77
      go_wp2_with fail
      rw [← hW1]
      go_ret
      exact ⟨ret_eq HP.out rfl, b1⟩
  by_cases k2 : kI = 2
  · subst k2
    have HP : Hid (c = (p3 && (p4 && p5))) := by
      rw [Hid, HP.out, if_neg (by have := HK.out; omega), if_pos (by have := HK.out; omega)]
    clear cA cS cT
    cases p3 <;> cases p4 <;> cases p5
    all_goals
      first | (obtain ⟨s1, s2⟩ := empty_facts hp3) | (obtain ⟨s1, s2⟩ := full_facts hp3)
      clear hp3
      go_enter Tryz.func77, Tryz.ntmps77
      go_wp2_with fail
      rw [← hW1]
      go_ret
      exact ⟨ret_eq HP.out rfl, b1⟩
  by_cases k3 : kI = 3
  · subst k3
    obtain ⟨p6, hp6⟩ : ∃ p, Jn.txt x.t = p := ⟨_, rfl⟩
    have HP : Hid (c = (b1' && (p6 && (p4 && p5)))) := by
      rw [Hid, HP.out, if_neg (by have := HK.out; omega), if_neg (by have := HK.out; omega), if_pos (by have := HK.out; omega), hp6]
    have cT := fun w => cT w hp6
    clear hp3 hp6 cA cS
    cases b1'
    · go_enter Tryz.func77, Tryz.ntmps77
      go_wp2_with fail
      rw [← hW1]
      go_ret
      exact ⟨ret_eq HP.out rfl, b1⟩
    · cases p6 <;> cases p4 <;> cases p5
      all_goals
        go_enter Tryz.func77, Tryz.ntmps77
        go_wp2_with fail
        rw [← hW1]
        refine (cT _).mono ?_; rintro e w2 ⟨rfl, b2⟩
        have V2 := V1.below b2
        obtain ⟨⟨z0, z1, z2, z3, z4⟩, _⟩ := V2.cells
        go_wp2_with fail
        go_ret
        exact ⟨ret_eq HP.out rfl, b1.trans (b2.mono b1.size)⟩
  by_cases k4 : kI = 4
  · subst k4
    have HP : Hid (c = (b1' && (p3 && p4))) := by
      rw [Hid, HP.out, if_neg (by have := HK.out; omega), if_neg (by have := HK.out; omega), if_neg (by have := HK.out; omega), if_pos (by have := HK.out; omega)]
    clear cA cS cT
    cases b1' <;> cases p3 <;> cases p4
    all_goals
      first | (obtain ⟨s1, s2⟩ := empty_facts hp3) | (obtain ⟨s1, s2⟩ := full_facts hp3)
      clear hp3
      go_enter Tryz.func77, Tryz.ntmps77
      go_wp2_with fail
      rw [← hW1]
      go_ret
      exact ⟨ret_eq HP.out rfl, b1⟩
  by_cases k5 : kI = 5
  · subst k5
    obtain ⟨p6, hp6⟩ : ∃ p, (r == m && Jn.rise x.ns) = p := ⟨_, rfl⟩
    obtain ⟨p7, hp7⟩ : ∃ p, x.ns.all Jn.txt = p := ⟨_, rfl⟩
    have HP : Hid (c = (b1' && (p3 && (p6 && p7)))) := by
      rw [Hid, HP.out, if_neg (by have := HK.out; omega), if_neg (by have := HK.out; omega), if_neg (by have := HK.out; omega), if_neg (by have := HK.out; omega), if_pos (by have := HK.out; omega), hp6, hp7]
    have CS := cS W1 b1 hp6
    have CA := Lib.hid (fun w1 (h : Below w.heap.size w w1) => cA w1 h hp7)
    clear cA cS cT hp4 hp5 hp6 hp7
    cases b1'
    · clear CS hp3
      go_enter Tryz.func77, Tryz.ntmps77
      go_wp2_with fail
      rw [← hW1]
      go_ret
      exact ⟨ret_eq HP.out rfl, b1⟩
    cases p3
    · clear CS
      obtain ⟨s1, s2⟩ := full_facts hp3
      clear hp3
      go_enter Tryz.func77, Tryz.ntmps77
      go_wp2_with fail
      rw [← hW1]
      go_ret
      exact ⟨ret_eq HP.out rfl, b1⟩
    obtain ⟨s1, s2⟩ := empty_facts hp3
    clear hp3
    cases p6
    · go_enter Tryz.func77, Tryz.ntmps77
      go_wp2_with fail
      rw [← hW1]
      refine CS.mono ?_; rintro e w2 ⟨rfl, b2⟩
      go_wp2_with fail
      go_ret
      exact ⟨ret_eq HP.out rfl, b1.trans (b2.mono b1.size)⟩
    · go_enter Tryz.func77, Tryz.ntmps77
      go_wp2_with fail
      rw [← hW1]
      refine CS.mono ?_; rintro e w2 ⟨rfl, b2⟩
      have b3 := b1.trans (b2.mono b1.size)
      have V2 := V1.below b2
      obtain ⟨⟨z0, z1, z2, z3, z4⟩, _⟩ := V2.cells
      go_wp2_with fail
      refine (CA.out _ b3).mono ?_; rintro e w4 ⟨rfl, b4⟩
      go_wp2_with fail
      go_ret
      exact ⟨ret_eq HP.out (by simp), b3.trans (b4.mono b3.size)⟩
  · have HP : Hid (c = false) := by
      rw [Hid, HP.out, if_neg (by have := HK.out; omega), if_neg (by have := HK.out; omega), if_neg (by have := HK.out; omega), if_neg (by have := HK.out; omega), if_neg (by have := HK.out; omega)]
    have k1 : (kI == 1) = false := beq_eq_false_iff_ne.2 k1
    have k2 : (kI == 2) = false := beq_eq_false_iff_ne.2 k2
    have k3 : (kI == 3) = false := beq_eq_false_iff_ne.2 k3
    have k4 : (kI == 4) = false := beq_eq_false_iff_ne.2 k4
    have k5 : (kI == 5) = false := beq_eq_false_iff_ne.2 k5
    clear hp3 hp4 hp5 h1 cA cS cT
    go_enter Tryz.func77, Tryz.ntmps77
    go_wp2_with fail
    rw [← hW1]
    go_ret
    exact ⟨ret_eq HP.out rfl, b1⟩
end

section
open Go.RowKit

namespace JV
/-- may it be, with so many values and so deep at most? -/
def ok (x : JV) (M D : Int) : Prop := x.part = true ∧ (x.cnt : Int) ≤ M ∧ (x.dep : Int) ≤ D
theorem parts_get : ∀ {xs : List JV} {i : Nat} {x : JV}, parts xs = true → xs[i]? = some x → part x = true
  | [], i, x, _, h => by simp at h
  | y :: ys, 0, x, hp, h => by
    obtain rfl : y = x := by simpa using h
    rw [parts, Bool.and_eq_true] at hp
    exact hp.1
  | y :: ys, i + 1, x, hp, h => by
    rw [parts, Bool.and_eq_true] at hp
    exact parts_get hp.2 (show ys[i]? = some x by simpa using h)
theorem deps_get : ∀ {xs : List JV} {i : Nat} {x : JV}, xs[i]? = some x → dep x ≤ deps xs
  | [], i, x, h => by simp at h
  | y :: ys, 0, x, h => by
    obtain rfl : y = x := by simpa using h
    unfold deps
    omega
  | y :: ys, i + 1, x, h => by
    have := deps_get (show ys[i]? = some x by simpa using h)
    unfold deps
    omega
theorem deps_all : ∀ (xs : List JV) (D : Int), 0 ≤ D → (∀ (i : Nat) x, xs[i]? = some x → (dep x : Int) ≤ D) → (deps xs : Int) ≤ D
  | [], D, h, _ => by unfold deps; exact h
  | y :: ys, D, h, ha => by
    have h1 := ha 0 y rfl
    have h2 := deps_all ys D h fun i x hx => ha (i + 1) x (by simpa using hx)
    unfold deps
    omega
theorem formed_flat {x : JV} (h : x.formed = true) (hk : ¬ (x.k = 4 ∨ x.k = 5)) : x.is.length = 0 := by
  rw [formed] at h
  by_cases h1 : x.k = 1
  · rw [if_pos h1] at h
    simp only [Bool.and_eq_true, beq_iff_eq] at h
    exact h.2.2.2
  rw [if_neg h1] at h
  by_cases h2 : x.k = 2
  · rw [if_pos h2] at h
    simp only [Bool.and_eq_true, beq_iff_eq] at h
    exact h.2.2
  rw [if_neg h2] at h
  by_cases h3 : x.k = 3
  · rw [if_pos h3] at h
    simp only [Bool.and_eq_true, beq_iff_eq] at h
    exact h.2.2.2
  rw [if_neg h3, if_neg (fun h => hk (.inl h)), if_neg (fun h => hk (.inr h))] at h
  cases h
theorem ok_no_many {x : JV} {M D : Int} (h : M ≤ (x.is.length : Int)) : ¬ x.ok M D := fun ⟨_, h2, _⟩ => by
  have := len_le x.is
  have := x.cnt_eq
  omega
theorem ok_no_deep {x : JV} {M : Int} (hk : x.k = 4 ∨ x.k = 5) : ¬ x.ok M 0 := fun ⟨_, _, h3⟩ => by
  rw [dep_eq, if_pos hk] at h3
  omega
theorem ok_no_form {x : JV} {M D : Int} (h : x.formed = false) : ¬ x.ok M D := fun ⟨h1, _⟩ => by
  rw [part_formed, h] at h1
  cases h1
/-- an Item is not -/
theorem ok_no_item {x y : JV} {i : Nat} {M D E : Int} (hy : x.is[i]? = some y) (hE : (x.k = 4 ∨ x.k = 5) ∧ E = D - 1 ∨ ¬ (x.k = 4 ∨ x.k = 5) ∧ E = D) (hf : x.formed = true)
    (hno : ¬ y.ok (M - ((1 + cnts (x.is.take i) : Nat) : Int)) E) : ¬ x.ok M D := fun ⟨h1, h2, h3⟩ => hno (by
  refine ⟨?_, ?_, ?_⟩
  · rw [part_formed, hf, Bool.true_and] at h1
    exact parts_get h1 hy
  · have hs := cnts_take_le x.is (i + 1)
    rw [take_snoc hy, cnts_snoc] at hs
    have := x.cnt_eq
    omega
  · have hd := deps_get hy
    rcases hE with ⟨hk, he⟩ | ⟨hk, he⟩
    · rw [dep_eq, if_pos hk] at h3
      omega
    · have := formed_flat hf hk
      have := (List.getElem?_eq_some_iff.1 hy).1
      omega)
/-- it is -/
theorem ok_yes {x : JV} {M D E : Int} (hE : (x.k = 4 ∨ x.k = 5) ∧ E = D - 1 ∨ ¬ (x.k = 4 ∨ x.k = 5) ∧ E = D) (h0 : 0 ≤ E) (hf : x.formed = true) (ha : ∀ (i : Nat) y, x.is[i]? = some y → part y = true ∧ (dep y : Int) ≤ E)
    (hM : ((1 + cnts x.is : Nat) : Int) ≤ M) : x.ok M D := by
  refine ⟨?_, ?_, ?_⟩
  · rw [part_formed, hf, Bool.true_and]
    exact parts_all x.is fun i y h => (ha i y h).1
  · rw [cnt_eq]
    exact hM
  · have := deps_all x.is E h0 fun i y h => (ha i y h).2
    rw [dep_eq]
    rcases hE with ⟨hk, he⟩ | ⟨hk, he⟩
    · rw [if_pos hk]
      omega
    · rw [if_neg hk]
      omega
end JV
set_option maxHeartbeats 4000000 in
set_option maxRecDepth 10000 in
theorem vsize_any : ∀ (K : Nat) (x : JV), x.cnt ≤ K → x.wt ≤ 90000 → ∀ (M D : Int), 0 ≤ M → M ≤ 8192 → 0 ≤ D → D ≤ 12 → ∀ (w : World) (v : Value), HV w v x →
    Calls Tryz.prog 62 #[v, .int .i64 M, .int .i64 D] w fun e w' => (∃ Z : Int, e = .returned (.int .i64 Z) ∧ (x.ok M D ∧ Z = (x.cnt : Int) ∨ ¬ x.ok M D ∧ Z = 0)) ∧ Below w.heap.size w w' := by
  intro K
  induction K with
  | zero => intro x h; have := x.cnt_pos; omega
  | succ K ih =>
  intro x hK hwt M D hM0 hM1 hD0 hD1 w v hv
  have hwe := x.wt_eq
  obtain ⟨cs, rfl, hc⟩ := hv
  obtain ⟨a, b, ca, cb, rfl, hB, hN, hI⟩ := hc.form
  have cF := fun w1 (h : Below w.heap.size w w1) {c : Bool} (hc0 : x.formed = c) => vFormed_any x hwt w1 _ ⟨_, rfl, HC.below h x _ hc⟩ hc0
  rw [show ([Value.int .u8 (x.k : Int), .int .i64 x.n, .string (S x.t), .slice a x.ns.length ca, .slice b x.is.length cb]).toArray = #[Value.int .u8 (x.k : Int), .int .i64 x.n, .string (S x.t), .slice a x.ns.length ca, .slice b x.is.length cb] from rfl] at cF
  obtain ⟨m, hm⟩ : ∃ m, x.is.length = m := ⟨_, rfl⟩
  have hm2 : (m : Int) ≤ 90000 := by have := JV.len_le x.is; have := x.cnt_eq; have := x.cnt_wt; omega
  have hcn : (x.cnt : Int) ≤ 90000 := by have := x.cnt_wt; omega
  rw [hm] at cF
  rw [hm]
  obtain ⟨kI, hk⟩ : ∃ z : Int, z = (x.k : Int) := ⟨_, rfl⟩
  have cN := fun w c hc => nests_any w x a b ca cb x.ns.length m kI x.n x.t hk (c := c) hc
  rw [← hk] at cF
  rw [← hk]
  have HM := Lib.hid hm
  have HCF := Lib.hid (fun w1 (h : Below w.heap.size w w1) (c : Bool) (hc0 : x.formed = c) => cF w1 h hc0)
  have HNo1 : Hid (M ≤ (m : Int) → ¬ x.ok M D) := fun h => JV.ok_no_many (by rw [hm]; exact h)
  have HI1 := Lib.hid hI
  have HWT : Hid (∀ (i : Nat) y, x.is[i]? = some y → y.wt ≤ 90000 ∧ y.cnt ≤ K) := fun i y hy => by
    have := JV.wts_get hy
    have := JV.cnt_item hy
    omega
  clear hm hc hk cF hB hN hI hwe
  obtain ⟨W1, hW1⟩ : ∃ W, W = w.alloc (.cells #[.int .u8 kI, .int .i64 x.n, .string (S x.t), .slice a x.ns.length ca, .slice b m cb] 26) := ⟨_, rfl⟩
  have V1 : VAt w.heap.size W1 (.int .u8 kI) (.int .i64 x.n) (.string (S x.t)) (.slice a x.ns.length ca) (.slice b m cb) := by rw [hW1]; exact VAt.new ..
  have b1 : Below w.heap.size w W1 := by rw [hW1]; exact (Below.refl _ _).alloc (Nat.le_refl _) _
  obtain ⟨c, hcc⟩ : ∃ c, c = decide (x.k = 4 ∨ x.k = 5) := ⟨_, rfl⟩
  have cN := fun w => cN w c hcc
  obtain ⟨E, hE⟩ : ∃ E : Int, E = if c then D - 1 else D := ⟨_, rfl⟩
  have HE : Hid ((x.k = 4 ∨ x.k = 5) ∧ E = D - 1 ∨ ¬ (x.k = 4 ∨ x.k = 5) ∧ E = D) := by
    cases c with
    | true => exact .inl ⟨of_decide_eq_true hcc.symm, by rw [hE]; rfl⟩
    | false => exact .inr ⟨of_decide_eq_false hcc.symm, by rw [hE]; rfl⟩
  have HNo2 : Hid (E < 0 → ¬ x.ok M D) := fun h => by
    rcases HE.out with ⟨h1, h2⟩ | ⟨h1, h2⟩
    · obtain rfl : D = 0 := by omega
      exact JV.ok_no_deep h1
    · omega
  have hE1 : -1 ≤ E := by cases c <;> simp at hE <;> omega
  have hE2 : E ≤ 12 := by cases c <;> simp at hE <;> omega
  clear hcc
  have hx : c = true ∧ D - 1 = E ∨ c = false ∧ D = E := by cases c <;> simp_all
  clear hE
  rcases hx with ⟨rfl, hx⟩ | ⟨rfl, hx⟩
  all_goals
    by_cases hMm : M ≤ (m : Int)
    · have HN := HNo1.out hMm
      go_enter Tryz.func62, Tryz.ntmps62
      go_wp2_with fail
      rw [← hW1]
      refine (cN _).mono ?_; rintro e w2 ⟨rfl, b2⟩
      have V2 := V1.below b2
      obtain ⟨⟨p0, p1, p2, p3, p4⟩, _⟩ := V2.cells
      clear HNo1 HNo2 HN
      go_wp2_with fail
      go_ret
      exact ⟨⟨0, rfl, .inr ⟨JV.ok_no_many (by rw [HM.out]; exact hMm), rfl⟩⟩, b1.trans (b2.mono b1.size)⟩
    by_cases hE0 : E < 0
    · first
      | (exfalso; omega)
      | (go_enter Tryz.func62, Tryz.ntmps62
         go_wp2_with fail
         rw [← hW1]
         refine (cN _).mono ?_; rintro e w2 ⟨rfl, b2⟩
         have V2 := V1.below b2
         obtain ⟨⟨p0, p1, p2, p3, p4⟩, _⟩ := V2.cells
         go_wp2_with fail
         go_ret
         exact ⟨⟨0, rfl, .inr ⟨HNo2.out hE0, rfl⟩⟩, b1.trans (b2.mono b1.size)⟩)
    obtain ⟨f, hf⟩ : ∃ f, x.formed = f := ⟨_, rfl⟩
    have cF := fun w1 h => HCF.out w1 h f hf
    have HF := Lib.hid hf
    clear hf
    cases f
    · go_enter Tryz.func62, Tryz.ntmps62
      go_wp2_with fail
      rw [← hW1]
      refine (cN _).mono ?_; rintro e w2 ⟨rfl, b2⟩
      have V2 := V1.below b2
      have b3 := b1.trans (b2.mono b1.size)
      obtain ⟨⟨p0, p1, p2, p3, p4⟩, _⟩ := V2.cells
      go_wp2_with fail
      refine (cF _ b3).mono ?_; rintro e w4 ⟨rfl, b4⟩
      go_wp2_with fail
      go_ret
      exact ⟨⟨0, rfl, .inr ⟨JV.ok_no_form HF.out, rfl⟩⟩, b3.trans (b4.mono b3.size)⟩
    · go_enter Tryz.func62, Tryz.ntmps62
      go_wp2_with fail
      rw [← hW1]
      refine (cN _).mono ?_; rintro e w2 ⟨rfl, b2⟩
      have V2 := V1.below b2
      have b3 := b1.trans (b2.mono b1.size)
      obtain ⟨⟨p0, p1, p2, p3, p4⟩, _⟩ := V2.cells
      go_wp2_with fail
      refine (cF _ b3).mono ?_; rintro e W4 ⟨rfl, b4⟩
      have V4 := V2.below b4
      have b5 := b3.trans (b4.mono b3.size)
      clear p0 p1 p2 p3 p4
      obtain ⟨⟨p0, p1, p2, p3, p4⟩, _⟩ := V4.cells
      clear hW1 b1 b2 b3 b4 V1 V2 V4 cN cF
      go_wp2_with fail
      go_loopw [7, 32] (fun nv iv wr => ∃ i : Nat, iv = .int .i64 (i : Int) ∧ i ≤ m ∧ nv = .int .i64 ((1 + JV.cnts (x.is.take i) : Nat) : Int) ∧ ((1 + JV.cnts (x.is.take i) : Nat) : Int) ≤ M ∧
        Hid (∀ (j : Nat) y, j < i → x.is[j]? = some y → JV.part y = true ∧ (JV.dep y : Int) ≤ E) ∧ Below W4.heap.size W4 wr) (fun _ iv _ => m - (intOf iv).toNat)
      case atStart => exact ⟨0, rfl, Nat.zero_le _, rfl, by rw [List.take_zero]; unfold JV.cnts; omega, fun j y h => by omega, Below.refl _ _⟩
      case round =>
        obtain ⟨i, rfl, hi, rfl, hnM, HS, hW⟩ := hrel
        have hbr : Hid (Below w.heap.size w wr) := b5.trans (hW.mono b5.size)
        by_cases hlt : (i : Int) < (m : Int)
        · obtain ⟨y, hy⟩ : ∃ y, x.is[i]? = some y := ⟨x.is[i]'(by have := HM.out; omega), List.getElem?_eq_getElem _⟩
          obtain ⟨blk, off, rfl, hII⟩ := items_at HI1.out hy
          obtain ⟨c0, c1, c2, c3, c4, g0, g1, g2, g3, g4, hcy⟩ := (HI.below hbr.out _ _ _ hII).get hy
          obtain ⟨ya, yb, yca, ycb, rfl, rfl, rfl, rfl, rfl⟩ := five hcy
          obtain ⟨hyw, hyc⟩ := HWT.out i y hy
          have hsn : Hid (JV.cnts (x.is.take (i + 1)) = JV.cnts (x.is.take i) + y.cnt) := by rw [Hid, JV.take_snoc hy, JV.cnts_snoc]
          have HNI : Hid (¬ y.ok (M - ((1 + JV.cnts (x.is.take i) : Nat) : Int)) E → ¬ x.ok M D) := fun h => JV.ok_no_item hy HE.out HF.out h
          have HYY : Hid (∀ z, x.is[i]? = some z → z = y) := fun z hz => by rw [hy] at hz; simpa using hz.symm
          have cY := fun w v h => ih y hyc hyw (M - ((1 + JV.cnts (x.is.take i) : Nat) : Int)) E (by omega) (by omega) (by omega) (by omega) w v h
          have b9 : Below wr.heap.size wr (wr.alloc (.cells #[.int .u8 (y.k : Int), .int .i64 y.n, .string (S y.t), .slice ya y.ns.length yca, .slice yb y.is.length ycb] 26)) := (Below.refl _ _).alloc (Nat.le_refl _) _
          have hvy : HV (wr.alloc (.cells #[.int .u8 (y.k : Int), .int .i64 y.n, .string (S y.t), .slice ya y.ns.length yca, .slice yb y.is.length ycb] 26)) (.agg #[.int .u8 (y.k : Int), .int .i64 y.n, .string (S y.t), .slice ya y.ns.length yca, .slice yb y.is.length ycb]) y := ⟨_, rfl, HC.below b9 y _ hcy⟩
          have hpos := y.cnt_pos
          have hy20 : (y.cnt : Int) ≤ 90000 := by have := y.cnt_wt; omega
          obtain ⟨A, hA⟩ : ∃ A : Nat, 1 + JV.cnts (x.is.take i) = A := ⟨_, rfl⟩
          rw [hA] at cY hnM HNI
          rw [hA]
          have HA := Lib.hid hA
          have CY := cY _ _ hvy
          obtain ⟨Y, hY⟩ : ∃ Y : Nat, y.cnt = Y := ⟨_, rfl⟩
          rw [hY] at CY hpos hy20
          have HY := Lib.hid hY
          obtain ⟨OK, hOK⟩ : ∃ OK : Prop, OK = y.ok (M - (A : Int)) E := ⟨_, rfl⟩
          rw [← hOK] at CY HNI
          have HOK := Lib.hid hOK
          clear hy hcy hII hA hY hvy cY hOK hyw hyc
          go_wp2_with fail
          refine CY.mono ?_; rintro e w2 ⟨⟨Z, rfl, hZ⟩, b2'⟩
          have b8 := b9.trans (b2'.mono b9.size)
          rcases hZ with ⟨hok, rfl⟩ | ⟨hno, rfl⟩
          · have hz : ((Y : Int) == 0) = false := beq_eq_false_iff_ne.2 (by omega)
            have hAM : (A : Int) + (Y : Int) ≤ M := by
              have h1 := hok
              rw [HOK.out] at h1
              have := h1.2.1
              have := HY.out
              omega
            have HPD : Hid (JV.part y = true ∧ (JV.dep y : Int) ≤ E) := by
              rw [HOK.out] at hok
              exact ⟨hok.1, hok.2.2⟩
            clear hok
            go_wp2_with fail
            go_roundw
            case rel =>
              have hAY : 1 + JV.cnts (x.is.take (i + 1)) = A + Y := by rw [hsn.out, HY.out, ← HA.out]; omega
              refine ⟨i + 1, by go_num, by omega, ?_, ?_, fun j z hj hz => ?_, hW.trans (b8.mono hW.size)⟩
              · rw [hAY]
                congr 1
              · rw [hAY]
                omega
              · by_cases hji : j < i
                · exact HS.out j z hji hz
                · obtain rfl : j = i := by omega
                  rw [HYY.out z hz]
                  exact HPD.out
            case measure => simp [intOf]; omega
          · go_wp2_with fail
            go_ret
            exact ⟨⟨0, rfl, .inr ⟨HNI.out hno, rfl⟩⟩, hbr.out.trans (b8.mono hbr.out.size)⟩
        · obtain rfl : i = m := by omega
          have hall : x.is.take i = x.is := by rw [← HM.out]; exact List.take_length
          rw [hall] at hnM
          rw [hall]
          have HOK : Hid (x.ok M D) := JV.ok_yes HE.out (by omega) HF.out (fun j z hz => HS.out j z (by have := (List.getElem?_eq_some_iff.1 hz).1; have := HM.out; omega) hz) hnM
          have HCn := Lib.hid x.cnt_eq
          obtain ⟨A, hA⟩ : ∃ A : Nat, 1 + JV.cnts x.is = A := ⟨_, rfl⟩
          rw [hA] at hnM
          rw [hA]
          have HA := Lib.hid hA
          clear hA
          go_wp2_with fail
          go_ret
          first | exact ⟨⟨_, rfl, .inl ⟨HOK.out, by rw [HCn.out, HA.out]⟩⟩, hbr.out⟩ | exact ⟨⟨_, rfl, .inl ⟨hx ▸ HOK.out, by rw [HCn.out, HA.out]⟩⟩, hbr.out⟩
theorem may_ok (x : JV) : x.may = true ↔ x.ok 8192 12 := by
  unfold JV.may JV.ok
  simp only [Bool.and_eq_true, decide_eq_true_iff]
  constructor
  · rintro ⟨h1, h2, h3⟩
    exact ⟨h1, by omega, by omega⟩
  · rintro ⟨h1, h2, h3⟩
    exact ⟨h1, by omega, by omega⟩
set_option maxHeartbeats 1000000 in
set_option maxRecDepth 10000 in
theorem may_any (x : JV) (w : World) (v : Value) (hwt : x.wt ≤ 90000) (hv : HV w v x) {c : Bool} (hcc : x.may = c) :
    Calls Tryz.prog 42 #[v] w fun e w' => e = .returned (.bool c) ∧ Below w.heap.size w w' := by
  have hpos := x.cnt_pos
  have hc2 := x.cnt_wt
  obtain ⟨cs, rfl, hc⟩ := hv
  obtain ⟨a, b, ca, cb, rfl, hB, hN, hI⟩ := hc.form
  have b1 : Below w.heap.size w (w.alloc (.cells #[.int .u8 (x.k : Int), .int .i64 x.n, .string (S x.t), .slice a x.ns.length ca, .slice b x.is.length cb] 26)) := (Below.refl _ _).alloc (Nat.le_refl _) _
  have hv1 : HV (w.alloc (.cells #[.int .u8 (x.k : Int), .int .i64 x.n, .string (S x.t), .slice a x.ns.length ca, .slice b x.is.length cb] 26)) (.agg #[.int .u8 (x.k : Int), .int .i64 x.n, .string (S x.t), .slice a x.ns.length ca, .slice b x.is.length cb]) x := ⟨_, rfl, HC.below b1 x _ hc⟩
  have cS := vsize_any _ x (Nat.le_refl _) hwt 8192 12 (by omega) (by omega) (by omega) (by omega) _ _ hv1
  have HM : Hid (c = true ↔ x.ok 8192 12) := by rw [Hid, ← hcc]; exact may_ok x
  obtain ⟨C, hC⟩ : ∃ C : Nat, x.cnt = C := ⟨_, rfl⟩
  rw [hC] at cS hpos hc2
  clear hc hB hN hI hv1 hcc hC
  go_enter Tryz.func42, Tryz.ntmps42
  go_wp2_with fail
  refine cS.mono ?_; rintro e w2 ⟨⟨Z, rfl, hZ⟩, b2⟩
  rcases hZ with ⟨hok, rfl⟩ | ⟨hno, rfl⟩
  · have hz : (0 : Int) < (C : Int) := by omega
    obtain rfl : c = true := HM.out.2 hok
    clear hok
    go_wp2_with fail
    go_ret
    exact ⟨ret_bool (by first | rfl | (simp; omega)), b1.trans (b2.mono b1.size)⟩
  · obtain rfl : c = false := by
      cases c with
      | false => rfl
      | true => exact absurd (HM.out.1 rfl) hno
    clear hno
    go_wp2_with fail
    go_ret
    exact ⟨ret_bool (by first | rfl | simp), b1.trans (b2.mono b1.size)⟩
end

section
open Go.RowKit
namespace Cn

def TRUE : List UInt8 := [116, 114, 117, 101]
def FALSE : List UInt8 := [102, 97, 108, 115, 101]
/-- a comma, but ahead of the first -/
def hd (b : Bool) : List UInt8 := if b then [44] else []
mutual
def form : JV → List UInt8
  | .mk k n t ns is => if k = 4 then 91 :: (cat false is ++ [93]) else if k = 5 then 123 :: (mem false ns is ++ [125]) else if k = 2 then Lib.itoa n else if k = 3 then Qm.quo t else if n = 1 then TRUE else FALSE
def cat : Bool → List JV → List UInt8
  | _, [] => []
  | b, x :: xs => hd b ++ (form x ++ cat true xs)
def mem : Bool → List (List UInt8) → List JV → List UInt8
  | _, _, [] => []
  | _, [], _ :: _ => []
  | b, n :: ns, x :: xs => hd b ++ (Qm.quo n ++ 58 :: (form x ++ mem true ns xs))
end
theorem form_eq (x : JV) : form x = if x.k = 4 then 91 :: (cat false x.is ++ [93]) else if x.k = 5 then 123 :: (mem false x.ns x.is ++ [125]) else if x.k = 2 then Lib.itoa x.n else if x.k = 3 then Qm.quo x.t else if x.n = 1 then TRUE else FALSE := by
  match x with
  | .mk k n t ns is => rw [form]; rfl
theorem cat_snoc : ∀ (b : Bool) (xs : List JV) (x : JV), cat b (xs ++ [x]) = cat b xs ++ (hd (b || !xs.isEmpty) ++ form x)
  | b, [], x => by simp [cat]
  | b, y :: ys, x => by
    rw [List.cons_append, cat, cat, cat_snoc true ys x]
    simp
theorem mem_snoc : ∀ (b : Bool) (ns : List (List UInt8)) (xs : List JV) (n : List UInt8) (x : JV), ns.length = xs.length → mem b (ns ++ [n]) (xs ++ [x]) = mem b ns xs ++ (hd (b || !xs.isEmpty) ++ (Qm.quo n ++ 58 :: form x))
  | b, [], [], n, x, _ => by simp [mem]
  | b, m :: ns, y :: ys, n, x, h => by
    rw [List.cons_append, List.cons_append, mem, mem, mem_snoc true ns ys n x (by simpa using h)]
    simp
theorem take_empty {α : Type} {xs : List α} {i : Nat} {x : α} (h : xs[i]? = some x) : (!(xs.take i).isEmpty) = decide (0 < i) := by
  cases xs with
  | nil => simp at h
  | cons y ys => cases i with
    | zero => simp
    | succ i => simp
theorem cat_step {xs : List JV} {i : Nat} {x : JV} (h : xs[i]? = some x) : cat false (xs.take (i + 1)) = cat false (xs.take i) ++ (hd (decide (0 < i)) ++ form x) := by
  rw [JV.take_snoc' h, cat_snoc, Bool.false_or, take_empty h]
theorem mem_step {ns : List (List UInt8)} {xs : List JV} {i : Nat} {n : List UInt8} {x : JV} (hl : ns.length = xs.length) (hn : ns[i]? = some n) (h : xs[i]? = some x) : mem false (ns.take (i + 1)) (xs.take (i + 1)) = mem false (ns.take i) (xs.take i) ++ (hd (decide (0 < i)) ++ (Qm.quo n ++ 58 :: form x)) := by
  rw [JV.take_snoc' h, JV.take_snoc' hn, mem_snoc _ _ _ _ _ (by simp [hl]), Bool.false_or, take_empty h]
theorem cat_take : ∀ (b : Bool) (xs : List JV) (i : Nat), (cat b (xs.take i)).length ≤ (cat b xs).length
  | b, [], i => by simp
  | b, x :: xs, 0 => by simp [cat]
  | b, x :: xs, i + 1 => by
    have := cat_take true xs i
    rw [List.take_succ_cons, cat, cat]
    simp only [List.length_append]
    omega
theorem mem_take : ∀ (b : Bool) (ns : List (List UInt8)) (xs : List JV) (i : Nat), (mem b (ns.take i) (xs.take i)).length ≤ (mem b ns xs).length
  | b, ns, [], i => by simp [mem]
  | b, [], x :: xs, i => by cases i <;> simp [mem]
  | b, n :: ns, x :: xs, 0 => by simp [mem]
  | b, n :: ns, x :: xs, i + 1 => by
    have := mem_take true ns xs i
    rw [List.take_succ_cons, List.take_succ_cons, mem, mem]
    simp only [List.length_append, List.length_cons]
    omega
/-! How long. -/
mutual
/-- its numbers have 64 bits -/
def inr : JV → Prop
  | .mk _ n _ _ is => (-9223372036854775808 ≤ n ∧ n ≤ 9223372036854775807) ∧ inrs is
def inrs : List JV → Prop
  | [] => True
  | x :: xs => inr x ∧ inrs xs
end
theorem itoa_len {n : Int} (h0 : -9223372036854775808 ≤ n) (h1 : n ≤ 9223372036854775807) : (Lib.itoa n).length ≤ 20 := by
  refine Nat.le_of_not_lt fun h => ?_
  have h2 := Nm.long_out (Nm.form_itoa n) h
  rw [Nm.val_itoa] at h2
  unfold Nm.inR at h2
  simp at h2
  omega
theorem quo_len (s : List UInt8) : (Qm.quo s).length ≤ 2 * s.length + 2 ∧ 2 ≤ (Qm.quo s).length := by
  have := (Qm.esc_len s).2
  unfold Qm.quo
  rw [List.length_cons, List.length_append, List.length_singleton]
  omega
theorem hd_len (b : Bool) : (hd b).length ≤ 1 := by cases b <;> simp [hd]
mutual
theorem form_len : ∀ x : JV, inr x → (form x).length + 1 ≤ 6 * x.wt
  | .mk k n t ns is, h => by
    rw [inr] at h
    have h1 := cat_len false is h.2
    have h2 := mem_len false ns is h.2
    have h3 := itoa_len h.1.1 h.1.2
    have h4 := (quo_len t).1
    rw [form, JV.wt]
    split
    · simp only [List.length_cons, List.length_append, List.length_nil]; omega
    · split
      · simp only [List.length_cons, List.length_append, List.length_nil]; omega
      · split
        · omega
        · split
          · omega
          · split
            · simp [TRUE]; omega
            · simp [FALSE]; omega
theorem cat_len : ∀ (b : Bool) (xs : List JV), inrs xs → (cat b xs).length ≤ 6 * JV.wts xs
  | b, [], _ => by simp [cat]
  | b, x :: xs, h => by
    rw [inrs] at h
    have h1 := form_len x h.1
    have h2 := cat_len true xs h.2
    have h3 := hd_len b
    rw [cat, JV.wts]
    simp only [List.length_append]
    omega
theorem mem_len : ∀ (b : Bool) (ns : List (List UInt8)) (xs : List JV), inrs xs → (mem b ns xs).length ≤ 6 * JV.wts xs + 6 * JV.wn ns
  | b, ns, [], _ => by simp [mem]
  | b, [], x :: xs, _ => by simp [mem]
  | b, n :: ns, x :: xs, h => by
    rw [inrs] at h
    have h1 := form_len x h.1
    have h2 := mem_len true ns xs h.2
    have h3 := hd_len b
    have h4 := (quo_len n).1
    rw [mem, JV.wts, JV.wn]
    simp only [List.length_append, List.length_cons]
    omega
end
mutual
theorem inr_of {w : World} : ∀ (x : JV) (cs : List Value), HC w cs x → inr x
  | .mk k n t ns is, cs, h => by
    unfold HC at h
    obtain ⟨a, b, ca, cb, _, h2, _, h4⟩ := h
    rw [inr]
    refine ⟨h2.2.1, ?_⟩
    rcases h4 with rfl | ⟨blk, off, _, h6⟩
    · rw [inrs]; trivial
    · exact inrs_of is blk off h6
theorem inrs_of {w : World} : ∀ (xs : List JV) (blk off : Nat), HI w blk off xs → inrs xs
  | [], _, _, _ => by rw [inrs]; trivial
  | x :: xs, blk, off, h => by
    unfold HI at h
    obtain ⟨⟨c0, c1, c2, c3, c4, _, _, _, _, _, hc⟩, hr⟩ := h
    rw [inrs]
    exact ⟨inr_of x _ hc, inrs_of xs blk (off + 5) hr⟩
end
/-! It tells the value. -/
theorem esc_free : ∀ (s t u v : List UInt8), Qm.esc s ++ 34 :: u = Qm.esc t ++ 34 :: v → s = t
  | [], [], _, _, _ => rfl
  | [], d :: t, u, v, h => by
    rw [Qm.esc_nil, List.nil_append, Qm.esc_cons] at h
    by_cases hd : d = 34 ∨ d = 92
    · rw [if_pos hd] at h
      simp at h
    · rw [if_neg hd] at h
      simp only [List.cons_append, List.nil_append, List.cons.injEq] at h
      exact absurd (.inl h.1.symm) hd
  | c :: s, [], u, v, h => by
    rw [Qm.esc_nil, List.nil_append, Qm.esc_cons] at h
    by_cases hc : c = 34 ∨ c = 92
    · rw [if_pos hc] at h
      simp at h
    · rw [if_neg hc] at h
      simp only [List.cons_append, List.nil_append, List.cons.injEq] at h
      exact absurd (.inl h.1) hc
  | c :: s, d :: t, u, v, h => by
    rw [Qm.esc_cons, Qm.esc_cons] at h
    by_cases hc : c = 34 ∨ c = 92
    · rw [if_pos hc] at h
      by_cases hd : d = 34 ∨ d = 92
      · rw [if_pos hd] at h
        simp only [List.cons_append, List.nil_append, List.cons.injEq, true_and] at h
        rw [h.1, esc_free s t u v h.2]
      · rw [if_neg hd] at h
        simp only [List.cons_append, List.nil_append, List.cons.injEq] at h
        exact absurd (.inr h.1.symm) hd
    · rw [if_neg hc] at h
      by_cases hd : d = 34 ∨ d = 92
      · rw [if_pos hd] at h
        simp only [List.cons_append, List.nil_append, List.cons.injEq] at h
        exact absurd (.inr h.1) hc
      · rw [if_neg hd] at h
        simp only [List.cons_append, List.nil_append, List.cons.injEq] at h
        rw [h.1, esc_free s t u v h.2]
theorem quo_free {s t u v : List UInt8} (h : Qm.quo s ++ u = Qm.quo t ++ v) : s = t ∧ u = v := by
  have e : s = t := by
    unfold Qm.quo at h
    simp only [List.cons_append, List.append_assoc, List.cons.injEq, true_and, List.nil_append] at h
    exact esc_free s t u v h
  subst e
  exact ⟨rfl, List.append_cancel_left h⟩
/-- bytes that a number does not go on with -/
def Dst (u : List UInt8) : Prop := ∀ b, u.head? = some b → Nm.dig b = false
theorem dig_free : ∀ (s t u v : List UInt8), s.all Nm.dig = true → t.all Nm.dig = true → Dst u → Dst v → s ++ u = t ++ v → s = t ∧ u = v
  | [], [], u, v, _, _, _, _, h => ⟨rfl, h⟩
  | [], d :: t, u, v, _, ht, hu, _, h => by
    simp only [List.all_cons, Bool.and_eq_true] at ht
    have := hu d (by rw [show u = d :: (t ++ v) from h]; rfl)
    rw [ht.1] at this
    exact absurd this (by decide)
  | c :: s, [], u, v, hs, _, _, hv, h => by
    simp only [List.all_cons, Bool.and_eq_true] at hs
    have := hv c (by rw [show v = c :: (s ++ u) from h.symm]; rfl)
    rw [hs.1] at this
    exact absurd this (by decide)
  | c :: s, d :: t, u, v, hs, ht, hu, hv, h => by
    simp only [List.all_cons, Bool.and_eq_true] at hs ht
    simp only [List.cons_append, List.cons.injEq] at h
    obtain ⟨rfl, rfl⟩ := dig_free s t u v hs.2 ht.2 hu hv h.2
    exact ⟨by rw [h.1], rfl⟩
theorem itoa_ways (n : Int) : (∃ s, Lib.itoa n = 45 :: s ∧ s.all Nm.dig = true) ∨ (∃ c s, Lib.itoa n = c :: s ∧ (c :: s).all Nm.dig = true) := by
  by_cases h : n < 0
  · exact .inl ⟨_, Nm.itoa_neg h, Nm.dec_dig _⟩
  · have h1 := Nm.itoa_nn h
    have h2 := Nm.dec_ne n.toNat
    have h3 := Nm.dec_dig n.toNat
    rw [← h1] at h2 h3
    match hx : Lib.itoa n, h2 with
    | c :: s, _ => rw [hx] at h3; exact .inr ⟨c, s, rfl, h3⟩
theorem itoa_free {m n : Int} {u v : List UInt8} (hu : Dst u) (hv : Dst v) (h : Lib.itoa m ++ u = Lib.itoa n ++ v) : m = n ∧ u = v := by
  have key : Lib.itoa m = Lib.itoa n ∧ u = v := by
    rcases itoa_ways m with ⟨s, e, hs⟩ | ⟨c, s, e, hs⟩ <;> rcases itoa_ways n with ⟨t, f, ht⟩ | ⟨d, t, f, ht⟩ <;> rw [e, f] at h ⊢
    · simp only [List.cons_append, List.cons.injEq, true_and] at h
      obtain ⟨rfl, rfl⟩ := dig_free s t u v hs ht hu hv h
      exact ⟨rfl, rfl⟩
    · simp only [List.cons_append, List.cons.injEq] at h
      rw [List.all_cons, ← h.1] at ht
      simp [Nm.dig_not45] at ht
    · simp only [List.cons_append, List.cons.injEq] at h
      rw [List.all_cons, h.1] at hs
      simp [Nm.dig_not45] at hs
    · obtain ⟨h1, rfl⟩ := dig_free (c :: s) (d :: t) u v hs ht hu hv h
      exact ⟨h1, rfl⟩
  exact ⟨Nm.itoa_inj key.1, key.2⟩
/-- of which kind the value is whose form begins so -/
def kd (c : UInt8) : Nat := if c = 91 then 4 else if c = 123 then 5 else if c = 34 then 3 else if c = 116 ∨ c = 102 then 1 else if c = 45 ∨ Nm.dig c = true then 2 else 0
theorem part_k {x : JV} (h : x.part = true) : x.k = 1 ∨ x.k = 2 ∨ x.k = 3 ∨ x.k = 4 ∨ x.k = 5 := by
  rw [JV.part_eq] at h
  by_cases h1 : x.k = 1
  · omega
  by_cases h2 : x.k = 2
  · omega
  by_cases h3 : x.k = 3
  · omega
  by_cases h4 : x.k = 4 ∨ x.k = 5
  · omega
  rw [if_neg h1, if_neg h2, if_neg h3, if_neg h4] at h
  exact absurd h (by decide)
theorem kd_dig {c : UInt8} (h : Nm.dig c = true) : kd c = 2 := by
  have h2 := Nm.dig_iff.1 h
  unfold kd
  have ne : ∀ d : UInt8, (d.toNat < 48 ∨ 57 < d.toNat) → c ≠ d := fun d hd e => by rw [e] at h2; omega
  rw [if_neg (ne 91 (by decide)), if_neg (ne 123 (by decide)), if_neg (ne 34 (by decide)), if_neg (fun e => e.elim (ne 116 (by decide)) (ne 102 (by decide))), if_pos (.inr h)]
theorem form_kd {x : JV} (h : x.part = true) : ∃ c r, form x = c :: r ∧ kd c = x.k := by
  rw [form_eq]
  rcases part_k h with h | h | h | h | h <;> rw [h]
  · rw [if_neg (by decide), if_neg (by decide), if_neg (by decide), if_neg (by decide)]
    by_cases hn : x.n = 1
    · rw [if_pos hn]; exact ⟨_, _, rfl, rfl⟩
    · rw [if_neg hn]; exact ⟨_, _, rfl, rfl⟩
  · rw [if_neg (by decide), if_neg (by decide), if_pos rfl]
    rcases itoa_ways x.n with ⟨s, e, _⟩ | ⟨c, s, e, hs⟩
    · exact ⟨_, _, e, rfl⟩
    · simp only [List.all_cons, Bool.and_eq_true] at hs
      exact ⟨_, _, e, kd_dig hs.1⟩
  · rw [if_neg (by decide), if_neg (by decide), if_neg (by decide), if_pos rfl]
    exact ⟨_, _, rfl, rfl⟩
  · rw [if_pos rfl]; exact ⟨_, _, rfl, rfl⟩
  · rw [if_neg (by decide), if_pos rfl]; exact ⟨_, _, rfl, rfl⟩
theorem Dst.cons {c : UInt8} (h : Nm.dig c = false) (r : List UInt8) : Dst (c :: r) := fun b hb => by
  obtain rfl : c = b := by simpa using hb
  exact h
theorem cat_dst (xs : List JV) {c : UInt8} (hc : Nm.dig c = false) (u : List UInt8) : Dst (cat true xs ++ c :: u) := by
  match xs with
  | [] => rw [cat]; exact .cons hc u
  | x :: xs => rw [cat]; exact .cons (by decide) _
theorem mem_dst (ns : List (List UInt8)) (xs : List JV) {c : UInt8} (hc : Nm.dig c = false) (u : List UInt8) : Dst (mem true ns xs ++ c :: u) := by
  match ns, xs with
  | ns, [] => rw [mem]; exact .cons hc u
  | [], x :: xs => rw [mem]; exact .cons hc u
  | n :: ns, x :: xs => rw [mem]; exact .cons (by decide) _
theorem part_bare {k : Nat} {n : Int} {t : List UInt8} {ns : List (List UInt8)} {is : List JV} (h : (JV.mk k n t ns is).part = true) :
    (k = 1 → (n = 0 ∨ n = 1) ∧ t = [] ∧ ns = [] ∧ is = []) ∧ (k = 2 → t = [] ∧ ns = [] ∧ is = []) ∧ (k = 3 → n = 0 ∧ ns = [] ∧ is = [] ∧ Jn.txt t = true) ∧
    (k = 4 → n = 0 ∧ t = [] ∧ ns = [] ∧ JV.parts is = true) ∧ (k = 5 → n = 0 ∧ t = [] ∧ ns.length = is.length ∧ Jn.rise ns = true ∧ JV.parts is = true ∧ ∀ m ∈ ns, Jn.txt m = true) := by
  rw [JV.part] at h
  refine ⟨fun e => ?_, fun e => ?_, fun e => ?_, fun e => ?_, fun e => ?_⟩ <;> subst e <;> simp at h <;> simp_all
theorem part_items {x : JV} (h : x.part = true) : JV.parts x.is = true := by
  obtain ⟨k, n, t, ns, is⟩ := x
  obtain ⟨p1, p2, p3, p4, p5⟩ := part_bare h
  show JV.parts is = true
  rcases part_k h with e | e | e | e | e
  · rw [(p1 e).2.2.2]; rfl
  · rw [(p2 e).2.2]; rfl
  · rw [(p3 e).2.2.1]; rfl
  · exact (p4 e).2.2.2
  · exact (p5 e).2.2.2.2.1
end Cn
end

section
open Go.RowKit
namespace Cn

theorem cat_cons (b : Bool) (x : JV) (xs : List JV) : cat b (x :: xs) = hd b ++ (form x ++ cat true xs) := by rw [cat]
theorem mem_cons (b : Bool) (n : List UInt8) (ns : List (List UInt8)) (x : JV) (xs : List JV) : mem b (n :: ns) (x :: xs) = hd b ++ (Qm.quo n ++ 58 :: (form x ++ mem true ns xs)) := by rw [mem]
/-- what ends a list is not what an Item begins with -/
theorem no_end {x : JV} (h : x.part = true) (b : Bool) {c : UInt8} (hc : c = 93 ∨ c = 125) {u v : List UInt8} : c :: u ≠ hd b ++ (form x ++ v) := by
  intro e
  cases b with
  | true =>
    have : c = 44 := by have := List.cons.inj e; exact this.1
    rcases hc with rfl | rfl <;> exact absurd this (by decide)
  | false =>
    obtain ⟨d, r, e1, k1⟩ := form_kd h
    rw [e1] at e
    have h2 : c = d := (List.cons.inj e).1
    subst h2
    have h3 := part_k h
    rw [← k1] at h3
    rcases hc with rfl | rfl <;> exact absurd h3 (by decide)
theorem no_end2 (n : List UInt8) (b : Bool) {c : UInt8} (hc : c = 93 ∨ c = 125) {u v : List UInt8} : c :: u ≠ hd b ++ (Qm.quo n ++ v) := by
  intro e
  cases b with
  | true =>
    have : c = 44 := (List.cons.inj e).1
    rcases hc with rfl | rfl <;> exact absurd this (by decide)
  | false =>
    have : c = 34 := (List.cons.inj e).1
    rcases hc with rfl | rfl <;> exact absurd this (by decide)
theorem form_1 (n : Int) (t : List UInt8) (ns : List (List UInt8)) (is : List JV) : form (.mk 1 n t ns is) = if n = 1 then TRUE else FALSE := by
  rw [form, if_neg (by decide), if_neg (by decide), if_neg (by decide), if_neg (by decide)]
theorem form_2 (n : Int) (t : List UInt8) (ns : List (List UInt8)) (is : List JV) : form (.mk 2 n t ns is) = Lib.itoa n := by
  rw [form, if_neg (by decide), if_neg (by decide), if_pos rfl]
theorem form_3 (n : Int) (t : List UInt8) (ns : List (List UInt8)) (is : List JV) : form (.mk 3 n t ns is) = Qm.quo t := by
  rw [form, if_neg (by decide), if_neg (by decide), if_neg (by decide), if_pos rfl]
theorem form_4 (n : Int) (t : List UInt8) (ns : List (List UInt8)) (is : List JV) : form (.mk 4 n t ns is) = 91 :: (cat false is ++ [93]) := by
  rw [form, if_pos rfl]
theorem form_5 (n : Int) (t : List UInt8) (ns : List (List UInt8)) (is : List JV) : form (.mk 5 n t ns is) = 123 :: (mem false ns is ++ [125]) := by
  rw [form, if_neg (by decide), if_pos rfl]
set_option maxHeartbeats 1000000 in
mutual
theorem form_free : ∀ (x y : JV), x.part = true → y.part = true → ∀ u v : List UInt8, form x ++ u = form y ++ v → (x.k = 2 → Dst u ∧ Dst v) → x = y ∧ u = v
  | .mk k n t ns is, .mk k' n' t' ns' is', hx, hy, u, v, h, hdst => by
    obtain ⟨c, r, e1, k1⟩ := form_kd hx
    obtain ⟨d, s, e2, k2⟩ := form_kd hy
    have hcd : c = d := by rw [e1, e2] at h; exact (List.cons.inj h).1
    have hk : k = k' := by
      have h3 : kd c = kd d := by rw [hcd]
      rw [k1, k2] at h3
      exact h3
    subst hk
    clear e1 e2 k1 k2 hcd
    obtain ⟨p1, p2, p3, p4, p5⟩ := part_bare hx
    obtain ⟨q1, q2, q3, q4, q5⟩ := part_bare hy
    have hk5 : k = 1 ∨ k = 2 ∨ k = 3 ∨ k = 4 ∨ k = 5 := part_k hx
    rcases hk5 with e | e | e | e | e
    · obtain ⟨a1, rfl, rfl, rfl⟩ := p1 e
      obtain ⟨b1, rfl, rfl, rfl⟩ := q1 e
      subst e
      rw [form_1, form_1] at h
      rcases a1 with rfl | rfl <;> rcases b1 with rfl | rfl
      · exact ⟨rfl, List.append_cancel_left h⟩
      · exact absurd (List.cons.inj h).1 (by decide)
      · exact absurd (List.cons.inj h).1 (by decide)
      · exact ⟨rfl, List.append_cancel_left h⟩
    · obtain ⟨rfl, rfl, rfl⟩ := p2 e
      obtain ⟨rfl, rfl, rfl⟩ := q2 e
      obtain ⟨hu, hv⟩ := hdst e
      subst e
      rw [form_2, form_2] at h
      obtain ⟨rfl, rfl⟩ := itoa_free hu hv h
      exact ⟨rfl, rfl⟩
    · obtain ⟨rfl, rfl, rfl, _⟩ := p3 e
      obtain ⟨rfl, rfl, rfl, _⟩ := q3 e
      subst e
      rw [form_3, form_3] at h
      obtain ⟨rfl, rfl⟩ := quo_free h
      exact ⟨rfl, rfl⟩
    · obtain ⟨rfl, rfl, rfl, g1⟩ := p4 e
      obtain ⟨rfl, rfl, rfl, g2⟩ := q4 e
      subst e
      rw [form_4, form_4] at h
      simp only [List.cons_append, List.append_assoc, List.cons.injEq, true_and, List.nil_append] at h
      obtain ⟨rfl, rfl⟩ := cat_free is is' g1 g2 false u v h
      exact ⟨rfl, rfl⟩
    · obtain ⟨rfl, rfl, l1, _, g1, _⟩ := p5 e
      obtain ⟨rfl, rfl, l2, _, g2, _⟩ := q5 e
      subst e
      rw [form_5, form_5] at h
      simp only [List.cons_append, List.append_assoc, List.cons.injEq, true_and, List.nil_append] at h
      obtain ⟨rfl, rfl, rfl⟩ := mem_free is is' g1 g2 false ns ns' l1 l2 u v h
      exact ⟨rfl, rfl⟩
theorem cat_free : ∀ (xs ys : List JV), JV.parts xs = true → JV.parts ys = true → ∀ (b : Bool) (u v : List UInt8), cat b xs ++ 93 :: u = cat b ys ++ 93 :: v → xs = ys ∧ u = v
  | [], [], _, _, b, u, v, h => by
    rw [cat] at h
    exact ⟨rfl, (List.cons.inj h).2⟩
  | [], y :: ys, _, hy, b, u, v, h => by
    rw [JV.parts, Bool.and_eq_true] at hy
    rw [cat, cat_cons, List.nil_append, List.append_assoc, List.append_assoc] at h
    exact absurd h (no_end hy.1 b (.inl rfl))
  | x :: xs, [], hx, _, b, u, v, h => by
    rw [JV.parts, Bool.and_eq_true] at hx
    rw [cat_cons, cat, List.nil_append, List.append_assoc, List.append_assoc] at h
    exact absurd h.symm (no_end hx.1 b (.inl rfl))
  | x :: xs, y :: ys, hx, hy, b, u, v, h => by
    rw [JV.parts, Bool.and_eq_true] at hx hy
    rw [cat_cons, cat_cons, List.append_assoc, List.append_assoc, List.append_assoc, List.append_assoc] at h
    obtain ⟨rfl, h2⟩ := form_free x y hx.1 hy.1 _ _ (List.append_cancel_left h) fun _ => ⟨cat_dst xs (by decide) u, cat_dst ys (by decide) v⟩
    obtain ⟨rfl, rfl⟩ := cat_free xs ys hx.2 hy.2 true u v h2
    exact ⟨rfl, rfl⟩
theorem mem_free : ∀ (xs ys : List JV), JV.parts xs = true → JV.parts ys = true → ∀ (b : Bool) (ns ms : List (List UInt8)), ns.length = xs.length → ms.length = ys.length → ∀ u v : List UInt8, mem b ns xs ++ 125 :: u = mem b ms ys ++ 125 :: v → ns = ms ∧ xs = ys ∧ u = v
  | [], [], _, _, b, [], [], _, _, u, v, h => by
    rw [mem] at h
    exact ⟨rfl, rfl, (List.cons.inj h).2⟩
  | [], y :: ys, _, hy, b, [], m :: ms, _, _, u, v, h => by
    rw [mem, mem_cons, List.nil_append, List.append_assoc, List.append_assoc] at h
    exact absurd h (no_end2 m b (.inr rfl))
  | x :: xs, [], hx, _, b, n :: ns, [], _, _, u, v, h => by
    rw [mem_cons, mem, List.nil_append, List.append_assoc, List.append_assoc] at h
    exact absurd h.symm (no_end2 n b (.inr rfl))
  | x :: xs, y :: ys, hx, hy, b, n :: ns, m :: ms, l1, l2, u, v, h => by
    rw [JV.parts, Bool.and_eq_true] at hx hy
    rw [mem_cons, mem_cons, List.append_assoc, List.append_assoc, List.append_assoc, List.append_assoc] at h
    obtain ⟨rfl, h1⟩ := quo_free (List.append_cancel_left h)
    simp only [List.cons_append, List.cons.injEq, true_and, List.append_assoc] at h1
    obtain ⟨rfl, h2⟩ := form_free x y hx.1 hy.1 _ _ h1 fun _ => ⟨mem_dst ns xs (by decide) u, mem_dst ms ys (by decide) v⟩
    obtain ⟨rfl, rfl, rfl⟩ := mem_free xs ys hx.2 hy.2 true ns ms (by simpa using l1) (by simpa using l2) u v h2
    exact ⟨rfl, rfl, rfl⟩
end
/-- P10.2: unlike values have unlike forms -/
theorem unlike {x y : JV} (hx : x.part = true) (hy : y.part = true) (h : form x = form y) : x = y :=
  (form_free x y hx hy [] [] (by rw [h]) fun _ => ⟨fun _ h => by simp at h, fun _ h => by simp at h⟩).1
/-- P10.6: none but a number's is the beginning of another -/
theorem ends {x y : JV} (hx : x.part = true) (hy : y.part = true) (hk : x.k ≠ 2) {n : Nat} (h : (form y).take n = form x) : form x = form y := by
  have h2 := List.take_append_drop n (form y)
  rw [h] at h2
  have := form_free x y hx hy ((form y).drop n) [] (by rw [h2, List.append_nil]) fun e => absurd e hk
  rw [this.1]
end Cn
end

section
section
open Go.RowKit

/-- block b is a builder that holds the bytes l; its rows are no older -/
def IsB (b : Nat) (l : List UInt8) (w : World) : Prop := Lib.IsBuilderF 78 5 b b (Lib.byteCells l) w
/-- nothing but the builder, and what is new, has changed -/
def KB (b : Nat) (w w' : World) : Prop := Below b w w' ∧ Lib.OthersKept 5 (some b) w w'
theorem KB.refl (b : Nat) (w : World) : KB b w w := ⟨Below.refl _ _, Lib.OthersKept.refl _ _ _⟩
theorem KB.trans {b : Nat} {u v w : World} (h : KB b u v) (g : KB b v w) : KB b u w := ⟨h.1.trans g.1, h.2.trans g.2⟩
theorem KB.of_below {b : Nat} {w w' : World} (hb : b ≤ w.heap.size) (h : Below w.heap.size w w') : KB b w w' :=
  ⟨h.mono hb, fun k _ hk _ _ => (h.block k (Array.getElem?_eq_some_iff.1 hk).1).trans hk⟩
/-- a block that is not the builder's, and no row of bytes -/
theorem KB.block {b k : Nat} {w w' : World} (h : KB b w w') {cs : Array Value} {t : TypeId} {fr : Nat × Nat} (hk : w.heap[k]? = some (.cells cs t fr)) (hne : k ≠ b) (ht : t ≠ 5) : w'.heap[k]? = some (.cells cs t fr) :=
  h.2 k _ hk (fun e => hne (Option.some.inj e)) (fun c fz e => by
    simp only [Obj.cells.injEq] at e
    exact ht e.2.1)
theorem IsB.lt {b : Nat} {l : List UInt8} {w : World} (h : IsB b l w) : b < w.heap.size := by
  rcases h with h | h
  · obtain ⟨_, v, hb, _⟩ := h
    exact (Array.getElem?_eq_some_iff.1 hb).1
  · obtain ⟨_, v, hb, _⟩ := h
    exact (Array.getElem?_eq_some_iff.1 hb).1
theorem ownF_below {w w' : World} {B : Nat} {e : TypeId} {sz : Nat} {v : Value} {n : Nat} {xs : List Value} (h : w.ownsRowF B e sz v n xs) (hb : Below w.heap.size w w') : w'.ownsRowF B e sz v n xs := by
  refine ⟨h.1, ?_⟩
  rcases h.2 with h2 | ⟨g, cap, cur, fz, h1, h2, h3, h4⟩
  · exact .inl h2
  · exact .inr ⟨g, cap, cur, fz, h1, h2, (hb.block g (Array.getElem?_eq_some_iff.1 h3).1).trans h3, h4⟩
theorem IsB.below {b : Nat} {l : List UInt8} {w w' : World} (h : IsB b l w) (hb : Below w.heap.size w w') : IsB b l w' := by
  have key : ∀ p, Lib.BuilderAtF 78 5 b b p (Lib.byteCells l) w → Lib.BuilderAtF 78 5 b b p (Lib.byteCells l) w' := fun p hp => by
    obtain ⟨h0, v, h1, h2, h3⟩ := hp
    exact ⟨h0, v, (hb.block b (Array.getElem?_eq_some_iff.1 h1).1).trans h1, ownF_below h2 hb, h3⟩
  exact h.elim (fun x => .inl (key _ x)) (fun x => .inr (key _ x))
/-- a builder that has just been laid -/
theorem IsB.new (w : World) : IsB w.heap.size [] (w.alloc (.cells #[.pointer none, .slice none 0 0] 78)) :=
  .inl ⟨Nat.le_refl _, .slice none 0 0, heap_alloc_new w _, ⟨rfl, .inl ⟨rfl, rfl⟩⟩, by simp [Value.ownBlock]⟩
theorem bSize : (Tryz.prog.info? 78).map (·.size) = some 2 := by kernel_rfl
theorem bLies : liesAt Tryz.prog Tryz.prog.depth 78 (2 / Tryz.prog.cellsOf 78) 0 78 1 = true := by kernel_rfl
set_option maxHeartbeats 1000000 in
set_option maxRecDepth 100000 in
/-- behind copyCheck the builder holds its own address -/
theorem bCheck_any (b : Nat) (bs : List Value) (w : World) (h : Lib.IsBuilderF 78 5 b b bs w) :
    Calls Tryz.prog 63 #[.pointer (some ⟨b, 0, none⟩)] w fun e w' => e = .returned (.tuple #[]) ∧ Lib.BuilderAtF 78 5 b b (.pointer (some ⟨b, 0, none⟩)) bs w' ∧ KB b w w' := by
  obtain ⟨j, hj, hjs⟩ := Option.map_eq_some_iff.1 bSize
  rcases h with h | h
  · have c0 := h.cell0
    have hsh := h.shape
    have hfz := h.frozen0
    have HH := Lib.hid h
    clear h
    go_enter Tryz.func63, Tryz.ntmps63
    go_wp2
    rw [Lib.run_to_unsafe w ⟨b, 0, none⟩ Tryz.underlying76 Tryz.underlying113 hj (by rw [hjs]; decide) hsh (Nat.zero_lt_succ 1)]
    simp only [Result.andThen]
    rw [Oper.upon_value]
    go_wp2
    rw [run_callFunc_extern Tryz.func78 (by kernel_rfl) (by kernel_rfl) (by kernel_rfl) (e := Extern.AbiNoEscape.same) (by kernel_rfl)]
    rw [Lib.run_noEscape]
    simp only [Result.andThen]
    rw [Oper.upon_value]
    go_wp2
    rw [Lib.run_from_unsafe w ⟨b, 0, none⟩ Tryz.underlying113 Tryz.underlying76 hj hsh bLies]
    simp only [Result.andThen]
    rw [Oper.upon_value]
    go_wp2
    go_end0
    exact ⟨rfl, HH.out.used _, (Below.refl b w).setCell (p := ⟨b, 0, none⟩) HH.out.1 _, (Lib.OthersKept.refl _ _ w).setCell ⟨b, 0, none⟩ rfl _⟩
  · have c0 := h.cell0
    have HH := Lib.hid h
    clear h
    go_enter Tryz.func63, Tryz.ntmps63
    go_wp2
    rw [Lib.run_neq_ptr_same w _ Tryz.underlying76 hj]
    go_wp2
    go_end0
    exact ⟨rfl, HH.out, KB.refl _ _⟩
set_option maxHeartbeats 2000000 in
set_option maxRecDepth 100000 in
theorem bWrite_any (b : Nat) (l r : List UInt8) (w : World) (h : IsB b l w) (hlen : l.length + r.length ≤ 1000000000) :
    Calls Tryz.prog 44 #[.pointer (some ⟨b, 0, none⟩), .string (S r)] w fun e w' => e = .returned (.tuple #[.int .i64 (r.length : Int), .nilIface]) ∧ IsB b (l ++ r) w' ∧ KB b w w' := by
  obtain ⟨i0, hi, hz0, hz1, hz2⟩ := info_parts info5
  obtain ⟨R, hR⟩ : ∃ R : Int, R = (r.length : Int) := ⟨_, rfl⟩
  have hsz : ((S r).size : Int) = R := by rw [S_size, hR]
  rw [← hR]
  have HR := Lib.hid hR
  have hbw : b ≤ w.heap.size := Nat.le_of_lt h.lt
  have HBW := Lib.hid hbw
  have cC := bCheck_any b (Lib.byteCells l) w h
  clear hR h hbw
  go_enter Tryz.func44, Tryz.ntmps44
  go_wp2_with fail
  refine cC.mono ?_
  rintro e w1 ⟨rfl, h1, hb1, hk1⟩
  obtain ⟨hB, v, hbk, hown, hne⟩ := h1
  rw [Lib.byteCells_length] at hown
  have c0 : w1.cell? ⟨b, 0, none⟩ = some (.pointer (some ⟨b, 0, none⟩)) := by rw [Lib.cell_of_heap hbk]; rfl
  have c1 : w1.cell? ⟨b, 1, none⟩ = some v := by rw [Lib.cell_of_heap hbk]; rfl
  have hlt : b < w1.heap.size := (Array.getElem?_eq_some_iff.1 hbk).1
  have hs1 := hb1.size
  have HS1 := Lib.hid hs1
  have HLT := Lib.hid hlt
  have HK := Lib.hid hk1
  have HB1 := Lib.hid hb1
  have HBK := Lib.hid hbk
  have hrs : (S r).size = r.length := S_size r
  clear cC hk1 hb1 hbk hs1 hlt
  go_wp2_with (at_builtin; refine Lib.wpList_append_own_stringF _ rfl _ _ 36 9 rfl b 5 i0 Tryz.underlying36 Tryz.underlying9 hi hz0 hz1 hz2 v l.length (Lib.byteCells l) rfl hown (S r) rfl ?c3 ?c4 ?c5 ?_)
  case c3 => unfold maxLen; omega
  case c4 => omega
  case c5 => exact Nat.le_of_lt HLT.out
  intro v' w2 hown' hgrow _
  have hb2 : w2.heap[b]? = some (.cells #[.pointer (some ⟨b, 0, none⟩), v] 78 (0, 0)) := by
    rw [hgrow.block b HLT.out (fun e => hne e.symm)]
    exact HBK.out
  have d0 : w2.cell? ⟨b, 0, none⟩ = some (.pointer (some ⟨b, 0, none⟩)) := by rw [Lib.cell_of_heap hb2]; rfl
  have d1 : w2.cell? ⟨b, 1, none⟩ = some v := by rw [Lib.cell_of_heap hb2]; rfl
  have f1 : w2.frozen? ⟨b, 1, none⟩ = false := Lib.frozen_of_heap hb2 1
  obtain ⟨ao, n', cap, rfl⟩ : ∃ ao n' cap, v' = .slice ao n' cap := by
    rcases hown'.2 with ⟨hv, _⟩ | ⟨g, cap, cur, fz, hv, _⟩
    · exact ⟨_, _, _, hv⟩
    · exact ⟨_, _, _, hv⟩
  have HO := Lib.hid hown
  have HO' := Lib.hid hown'
  have HG := Lib.hid hgrow
  have HB2 := Lib.hid hb2
  clear hown hown' hgrow hb2 c0 c1
  go_wp2_with fail
  go_ret2
  refine ⟨by rw [HR.out]; rfl, .inr ?_, ?_, ((HK.out.grown HG.out (Lib.ownsRowF_kind HO.out)).setCell ⟨b, 1, none⟩ rfl _)⟩
  · refine Lib.BuilderAtF.put (T := 78) (e := 5) hB HB2.out (bs' := Lib.byteCells (l ++ r)) ?_ (by decide)
    rw [Lib.byteCells_length, Lib.byteCells_append, List.length_append, ← hrs]
    exact HO'.out
  · exact (HB1.out.grown HG.out (by have := HS1.out; have := HBW.out; omega) (fun k hk => (HO.out.lt k hk).1)).setCell (p := ⟨b, 1, none⟩) hB _
end

section
open Go.RowKit Go.Shelf

theorem bExtra : Builder.Extra Tryz.prog lays169_ren := {
  sizeBuilder := by kernel_rfl
  liesBuilder := by kernel_rfl
  t5 := Tryz.underlying5
  a5 := Tryz.isAgg5
  z5 := Tryz.sizeOf5
  v5 := Tryz.zeroValue5
  infoByte := by kernel_rfl
  cellsByte := by kernel_rfl
  sizeByte := by kernel_rfl
  neB5 := by decide }
theorem bString_any (b : Nat) (l : List UInt8) (w : World) (h : IsB b l w) :
    Calls Tryz.prog 48 #[.pointer (some ⟨b, 0, none⟩)] w fun e w' => e = .returned (.string (S l)) ∧ Below b w w' :=
  (Any.Builder_String_any_k lays169 bExtra b b l w h (Nat.le_of_lt h.lt)).mono fun _ _ ⟨h1, _, h2, _⟩ => ⟨h1, h2⟩
end

section
open Go.RowKit

theorem comma_any (i : Nat) (w : World) : Calls Tryz.prog 45 #[.int .i64 (i : Int)] w fun e w' => e = .returned (.string (S (Cn.hd (decide (0 < i))))) ∧ w = w' := by
  obtain ⟨I, hI⟩ : ∃ I : Int, I = (i : Int) := ⟨_, rfl⟩
  rw [← hI]
  have HI := Lib.hid hI
  clear hI
  by_cases h : I = 0
  · subst h
    have h0 : i = 0 := by have := HI.out; omega
    subst h0
    go_enter Tryz.func45, Tryz.ntmps45
    go_wp2_with fail
    go_ret
    exact ⟨rfl, rfl⟩
  · have hb : (I == 0) = false := beq_eq_false_iff_ne.2 h
    have h0 : decide (0 < i) = true := decide_eq_true (by have := HI.out; omega)
    rw [h0]
    clear h0 h
    go_enter Tryz.func45, Tryz.ntmps45
    go_wp2_with fail
    go_ret
    exact ⟨rfl, rfl⟩
theorem txt_quo {l : List UInt8} (h : Jn.txt l = true) : QUO l = (Qm.quo l, 0) ∧ l.length ≤ 4096 := by
  unfold Jn.txt at h
  rw [Bool.and_eq_true, decide_eq_true_eq] at h
  exact ⟨QUO_ok h.2 h.1, h.2⟩
theorem canText_any (l : List UInt8) (w : World) (h : Jn.txt l = true) : Calls Tryz.prog 46 #[.string (S l)] w fun e w' => e = .returned (.string (S (Qm.quo l))) ∧ Below w.heap.size w w' := by
  obtain ⟨h1, h2⟩ := txt_quo h
  have cQ := Quote_any l w (by omega)
  rw [h1] at cQ
  clear h1 h2 h
  go_enter Tryz.func46, Tryz.ntmps46
  go_wp2_with fail
  refine cQ.mono ?_; rintro e w1 ⟨rfl, hb⟩
  go_wp2_with fail
  go_ret
  exact ⟨rfl, hb⟩
set_option maxHeartbeats 1000000 in
set_option maxRecDepth 3000 in
theorem canAlone_any (x : JV) (hp : x.part = true) (hk : x.k = 1 ∨ x.k = 2 ∨ x.k = 3) (w : World) (v : Value) (hv : HV w v x) (hT : TabN w) : Calls Tryz.prog 47 #[v] w fun e w' => e = .returned (.string (S (Cn.form x))) ∧ Below w.heap.size w w' := by
  obtain ⟨cs, rfl, hc⟩ := hv
  obtain ⟨a, c, ca, cc, rfl, hJB, _, _⟩ := hc.form
  clear hc
  obtain ⟨k, n, t, ns, is⟩ := x
  obtain ⟨p1, p2, p3, _, _⟩ := Cn.part_bare hp
  have hJ : (-9223372036854775808 ≤ n ∧ n ≤ 9223372036854775807) := hJB.2.1
  show Calls _ _ #[.agg #[.int .u8 (k : Int), .int .i64 n, .string (S t), .slice a ns.length ca, .slice c is.length cc]] w _
  have hk : k = 1 ∨ k = 2 ∨ k = 3 := hk
  clear hJB hp
  rcases hk with rfl | rfl | rfl
  · obtain ⟨hn, rfl, rfl, rfl⟩ := p1 rfl
    have e1 : Cn.form (.mk 1 n [] [] []) = if n = 1 then Cn.TRUE else Cn.FALSE := by
      rw [Cn.form, if_neg (by decide), if_neg (by decide), if_neg (by decide), if_neg (by decide)]
    rw [e1]
    clear p1 p2 p3 e1 hJ
    rcases hn with rfl | rfl
    · go_enter Tryz.func47, Tryz.ntmps47
      go_wp2_with fail
      go_ret
      exact ⟨rfl, (Below.refl _ _).alloc (Nat.le_refl _) _⟩
    · go_enter Tryz.func47, Tryz.ntmps47
      go_wp2_with fail
      go_ret
      exact ⟨rfl, (Below.refl _ _).alloc (Nat.le_refl _) _⟩
  · obtain ⟨rfl, rfl, rfl⟩ := p2 rfl
    have e1 : Cn.form (.mk 2 n [] [] []) = Lib.itoa n := by
      rw [Cn.form, if_neg (by decide), if_neg (by decide), if_pos rfl]
    obtain ⟨W1, hW1⟩ : ∃ W, W = w.alloc (.cells #[.int .u8 2, .int .i64 n, .string (S []), .slice a 0 ca, .slice c 0 cc] 26) := ⟨_, rfl⟩
    have g1 : Below w.heap.size w W1 := by rw [hW1]; exact (Below.refl _ _).alloc (Nat.le_refl _) _
    have HG1 := Lib.hid g1
    rw [e1]
    have cS := numShow_any n W1 (hT.below g1) hJ.1 hJ.2
    clear p1 p2 p3 e1 g1 hJ hT
    go_enter Tryz.func47, Tryz.ntmps47
    go_wp2_with fail
    rw [← hW1]
    refine cS.mono ?_; rintro e w2 ⟨rfl, b2⟩
    go_wp2_with fail
    go_ret
    exact ⟨rfl, HG1.out.trans (b2.mono HG1.out.size)⟩
  · obtain ⟨rfl, rfl, rfl, ht⟩ := p3 rfl
    have e1 : Cn.form (.mk 3 0 t [] []) = Qm.quo t := by
      rw [Cn.form, if_neg (by decide), if_neg (by decide), if_neg (by decide), if_pos rfl]
    obtain ⟨W1, hW1⟩ : ∃ W, W = w.alloc (.cells #[.int .u8 3, .int .i64 0, .string (S t), .slice a 0 ca, .slice c 0 cc] 26) := ⟨_, rfl⟩
    have g1 : Below w.heap.size w W1 := by rw [hW1]; exact (Below.refl _ _).alloc (Nat.le_refl _) _
    have HG1 := Lib.hid g1
    rw [e1]
    have cS := canText_any t W1 ht
    clear p1 p2 p3 e1 g1 hJ hT ht
    go_enter Tryz.func47, Tryz.ntmps47
    go_wp2_with fail
    rw [← hW1]
    refine cS.mono ?_; rintro e w2 ⟨rfl, b2⟩
    go_wp2_with fail
    go_ret
    exact ⟨rfl, HG1.out.trans (b2.mono HG1.out.size)⟩
end
end

section
section
open Go.RowKit

/-- the closure: its builder, its own variable -/
def CWf (b wb : Nat) : Value := .func (.func 43) #[] #[.pointer (some ⟨b, 0, none⟩), .pointer (some ⟨wb, 0, none⟩)]
def WfAt (b wb : Nat) (w : World) : Prop := w.heap[wb]? = some (.cells #[CWf b wb] 79 (0, 0))
theorem WfAt.cell {b wb : Nat} {w : World} (h : WfAt b wb w) : w.cell? ⟨wb, 0, none⟩ = some (.func (.func 43) #[] #[.pointer (some ⟨b, 0, none⟩), .pointer (some ⟨wb, 0, none⟩)]) := by
  rw [cell_of_row w wb 0 _ _ _ h]
  rfl
theorem WfAt.kb {b wb : Nat} {w w' : World} (h : WfAt b wb w) (k : KB b w w') (hne : wb ≠ b) : WfAt b wb w' := k.block h hne (by decide)
theorem VAt.kb {b q : Nat} {w w' : World} {a0 a1 a2 a3 a4 : Value} (h : VAt q w a0 a1 a2 a3 a4) (k : KB b w w') (hne : q ≠ b) : VAt q w' a0 a1 a2 a3 a4 := k.block h hne (by decide)
theorem bWrite_c (b : Nat) (l r : List UInt8) (c : ByteArray) (w : World) (hc : c = S r) (h : IsB b l w) (hlen : l.length + r.length ≤ 1000000000) :
    Calls Tryz.prog 44 #[.pointer (some ⟨b, 0, none⟩), .string c] w fun e w' => ∃ n : Int, e = .returned (.tuple #[.int .i64 n, .nilIface]) ∧ IsB b (l ++ r) w' ∧ KB b w w' := by
  subst hc
  exact (bWrite_any b l r w h hlen).mono fun _ _ ⟨h1, h2, h3⟩ => ⟨_, h1, h2, h3⟩
theorem nitems_at {w : World} {xs : List JV} {c : Option Addr} (hI : xs = [] ∨ ∃ blk off, c = some ⟨blk, off, none⟩ ∧ HI w blk off xs) {i : Nat} {y : JV} (hy : xs[i]? = some y) : ∃ blk off, c = some ⟨blk, off, none⟩ ∧ HI w blk off xs := by
  rcases hI with rfl | h
  · simp at hy
  · exact h
/-- what the closure is to do -/
def Wrs (w0 : World) (x : JV) : Prop := ∀ (w : World) (v : Value) (b wb : Nat) (l : List UInt8), HV w0 v x → Below w0.heap.size w0 w → w0.heap.size ≤ b → IsB b l w → WfAt b wb w → wb ≠ b → l.length + (Cn.form x).length ≤ 1000000000 →
    Calls Tryz.prog 43 #[v, .pointer (some ⟨b, 0, none⟩), .pointer (some ⟨wb, 0, none⟩)] w fun e w' => e = .returned (.tuple #[]) ∧ IsB b (l ++ Cn.form x) w' ∧ KB b w w'
set_option maxHeartbeats 4000000 in
set_option maxRecDepth 5000 in
/-- a value alone -/
theorem write_alone (w0 : World) (hT : TabN w0) (x : JV) (hp : x.part = true) (hk : x.k = 1 ∨ x.k = 2 ∨ x.k = 3) : Wrs w0 x := by
  intro w v b wb l hv hbel hb hB hW hne hlen
  have hvw := hv.below hbel
  obtain ⟨cs, rfl, hc⟩ := hvw
  obtain ⟨a, c, ca, cc, rfl, hJB, _, _⟩ := hc.form
  obtain ⟨m, hm⟩ : ∃ m, x.is.length = m := ⟨_, rfl⟩
  obtain ⟨s, hs⟩ : ∃ m, x.ns.length = m := ⟨_, rfl⟩
  obtain ⟨kI, hkI⟩ : ∃ z : Int, z = (x.k : Int) := ⟨_, rfl⟩
  obtain ⟨nI, hnI⟩ : ∃ z : Int, z = x.n := ⟨_, rfl⟩
  obtain ⟨tS, htS⟩ : ∃ z : ByteArray, z = S x.t := ⟨_, rfl⟩
  have hv' : HV w (.agg #[.int .u8 kI, .int .i64 nI, .string tS, .slice a s ca, .slice c m cc]) x := by rw [hkI, hnI, htS, ← hs, ← hm]; exact ⟨_, rfl, hc⟩
  rw [← hkI, ← hnI, ← htS, hs, hm]
  show Calls _ _ #[.agg #[.int .u8 kI, .int .i64 nI, .string tS, .slice a s ca, .slice c m cc], _, _] w _
  have h4 : (kI == 4) = false := beq_eq_false_iff_ne.2 (by omega)
  have h5 : (kI == 5) = false := beq_eq_false_iff_ne.2 (by omega)
  obtain ⟨W1, hW1⟩ : ∃ W, W = w.alloc (.cells #[.int .u8 kI, .int .i64 nI, .string tS, .slice a s ca, .slice c m cc] 26) := ⟨_, rfl⟩
  have g1 : Below w.heap.size w W1 := by rw [hW1]; exact (Below.refl _ _).alloc (Nat.le_refl _) _
  have k1 : KB b w W1 := KB.of_below (Nat.le_of_lt hB.lt) g1
  have hB1 := hB.below g1
  have b01 : Below w0.heap.size w0 W1 := hbel.trans (g1.mono hbel.size)
  have cA := canAlone_any x hp hk W1 _ (hv'.below g1) (hT.below b01)
  have HK1 := Lib.hid k1
  have HB1 := Lib.hid hB1
  have HL := Lib.hid hlen
  clear hv hc hJB hkI hnI htS hs hm hv' hB hW g1 k1 hB1 hk hp hbel b01 hlen
  go_enter Tryz.func43, Tryz.ntmps43
  go_wp2_with fail
  rw [← hW1]
  clear hW1
  refine cA.mono ?_; rintro e w2 ⟨rfl, b2⟩
  have cW := bWrite_c b l (Cn.form x) _ w2 rfl (HB1.out.below b2) HL.out
  have HK2 := Lib.hid (HK1.out.trans (KB.of_below (Nat.le_of_lt HB1.out.lt) b2))
  clear cA b2
  go_wp2_with fail
  refine cW.mono ?_; rintro e w3 ⟨n3, rfl, hB3, k3⟩
  have HB3 := Lib.hid hB3
  have HK3 := Lib.hid (HK2.out.trans k3)
  clear cW hB3 k3
  go_wp2_with fail
  go_end0
  exact ⟨rfl, HB3.out, HK3.out⟩
set_option maxHeartbeats 8000000 in
set_option maxRecDepth 5000 in
/-- a list -/
theorem write_list (w0 : World) (x : JV) (hk : x.k = 4) (hml : x.is.length ≤ 90000) (ih : ∀ (i : Nat) y, x.is[i]? = some y → Wrs w0 y) : Wrs w0 x := by
  intro w v b wb l hv hbel hb hB hW hne hlen
  obtain ⟨cs, rfl, hc⟩ := hv
  obtain ⟨a, c, ca, cc, rfl, hJB, _, hI⟩ := hc.form
  obtain ⟨m, hm⟩ : ∃ m, x.is.length = m := ⟨_, rfl⟩
  obtain ⟨s, hs⟩ : ∃ m, x.ns.length = m := ⟨_, rfl⟩
  obtain ⟨nI, hnI⟩ : ∃ z : Int, z = x.n := ⟨_, rfl⟩
  obtain ⟨tS, htS⟩ : ∃ z : ByteArray, z = S x.t := ⟨_, rfl⟩
  rw [hk, ← hnI, ← htS, hs, hm]
  show Calls _ _ #[.agg #[.int .u8 4, .int .i64 nI, .string tS, .slice a s ca, .slice c m cc], _, _] w _
  have hm2 : (m : Int) ≤ 90000 := by omega
  obtain ⟨q, hq⟩ : ∃ q, q = w.heap.size := ⟨_, rfl⟩
  obtain ⟨W1, hW1⟩ : ∃ W, W = w.alloc (.cells #[.int .u8 4, .int .i64 nI, .string tS, .slice a s ca, .slice c m cc] 26) := ⟨_, rfl⟩
  have g1 : Below w.heap.size w W1 := by rw [hW1]; exact (Below.refl _ _).alloc (Nat.le_refl _) _
  have V1 : VAt q W1 (.int .u8 4) (.int .i64 nI) (.string tS) (.slice a s ca) (.slice c m cc) := by rw [hW1, hq]; exact VAt.new ..
  have k1 : KB b w W1 := KB.of_below (Nat.le_of_lt hB.lt) g1
  have hB1 := hB.below g1
  have hqb : q ≠ b := by have := hB.lt; omega
  have F1 : WfAt b wb W1 := hW.kb k1 hne
  have b01 : Below w0.heap.size w0 W1 := hbel.trans (g1.mono hbel.size)
  have e4 : Cn.form x = 91 :: (Cn.cat false x.is ++ [93]) := by rw [Cn.form_eq, if_pos hk]
  rw [e4] at hlen
  have hlen' : l.length + (Cn.cat false x.is).length + 2 ≤ 1000000000 := by simp at hlen; omega
  have cW := bWrite_c b l [91] ⟨#[91]⟩ W1 rfl hB1 (by simp; omega)
  have HM := Lib.hid hm
  have HI0 := Lib.hid hI
  have HIH := Lib.hid ih
  have HK1 := Lib.hid k1
  have HV1 := Lib.hid V1
  have HF1 := Lib.hid F1
  have HB01 := Lib.hid b01
  have HL := Lib.hid hlen'
  have HQB := Lib.hid hqb
  have HNE := Lib.hid hne
  have HBB := Lib.hid hb
  rw [e4]
  clear hc hJB hnI htS hs hm hB hW g1 k1 hB1 hk hbel b01 hlen hlen' hI ih V1 F1 hqb hne hb e4 hml
  go_enter Tryz.func43, Tryz.ntmps43
  go_wp2_with fail
  rw [← hW1, ← hq]
  clear hW1 hq
  refine cW.mono ?_; rintro e w2 ⟨n2, rfl, hB2, k2⟩
  have V2 := HV1.out.kb k2 HQB.out
  obtain ⟨⟨p0, p1, p2, p3, p4⟩, pf⟩ := V2.cells
  have HB2 := Lib.hid hB2
  have HK2 := Lib.hid k2
  clear cW hB2 k2 V2
  go_wp2_with fail
  clear p0 p1 p2 p3 p4 pf
  go_loopw [19] (fun iv wr => ∃ (i : Nat) (o : List UInt8), iv = .int .i64 (i : Int) ∧ i ≤ m ∧ Hid (o = l ++ 91 :: Cn.cat false (x.is.take i)) ∧ IsB b o wr ∧ KB b W1 wr) (fun iv _ => m - (intOf iv).toNat)
  case atStart => exact ⟨0, l ++ [91], rfl, Nat.zero_le _, by show _ = _; rw [List.take_zero, Cn.cat], HB2.out, HK2.out⟩
  case round =>
    obtain ⟨i, o, rfl, hi, HO, hB, hk⟩ := hrel
    have hbr : Below w0.heap.size w0 wr := HB01.out.trans (hk.1.mono HBB.out)
    have HBR := Lib.hid hbr
    have HKr := Lib.hid hk
    have HBr := Lib.hid hB
    clear hbr hk hB
    by_cases hlt : (i : Int) < (m : Int)
    · obtain ⟨y, hy⟩ : ∃ y, x.is[i]? = some y := ⟨x.is[i]'(by have := HM.out; omega), List.getElem?_eq_getElem _⟩
      obtain ⟨blk, off, rfl, hII⟩ := nitems_at HI0.out hy
      obtain ⟨c0, c1, c2, c3, c4, d0, d1, d2, d3, d4, hcy⟩ := hII.get hy
      have lift : ∀ {o : Nat} {z : Value}, w0.cell? ⟨blk, o, none⟩ = some z → wr.cell? ⟨blk, o, none⟩ = some z := fun h => (HBR.out.cell (World.block_lt_of_cell? w0 _ h)).trans h
      have g0 := lift d0
      have g1 := lift d1
      have g2 := lift d2
      have g3 := lift d3
      have g4 := lift d4
      obtain ⟨ya, yb, yca, ycb, rfl, rfl, rfl, rfl, rfl⟩ := five hcy
      have hvy : HV w0 (.agg #[.int .u8 (y.k : Int), .int .i64 y.n, .string (S y.t), .slice ya y.ns.length yca, .slice yb y.is.length ycb]) y := ⟨_, rfl, hcy⟩
      have cY := HIH.out i y hy
      obtain ⟨K, hK⟩ : ∃ z : Int, z = (y.k : Int) := ⟨_, rfl⟩
      obtain ⟨N, hN⟩ : ∃ z : Int, z = y.n := ⟨_, rfl⟩
      obtain ⟨T, hTT⟩ : ∃ z : ByteArray, z = S y.t := ⟨_, rfl⟩
      obtain ⟨p, hp⟩ : ∃ z : Nat, z = y.ns.length := ⟨_, rfl⟩
      obtain ⟨r, hr⟩ : ∃ z : Nat, z = y.is.length := ⟨_, rfl⟩
      rw [← hK, ← hN, ← hTT, ← hp, ← hr] at hvy
      rw [← hK] at g0
      rw [← hN] at g1
      rw [← hTT] at g2
      rw [← hp] at g3
      rw [← hr] at g4
      have hst := Cn.cat_step hy
      have htk := Cn.cat_take false x.is (i + 1)
      have HST := Lib.hid hst
      have HTK := Lib.hid htk
      obtain ⟨D, hD⟩ : ∃ D, D = Cn.hd (decide (0 < i)) := ⟨_, rfl⟩
      have HD := Lib.hid hD
      have cC := comma_any i
      rw [← hD] at cC
      have hDl : D.length ≤ 1 := by rw [hD]; exact Cn.hd_len _
      have hol : o.length = l.length + 1 + (Cn.cat false (x.is.take i)).length := by rw [HO.out]; simp; omega
      have hsum : (Cn.cat false (x.is.take i)).length + D.length + (Cn.form y).length ≤ (Cn.cat false x.is).length := by
        rw [hst, ← hD] at htk
        simp only [List.length_append] at htk
        omega
      have hl1 : o.length + D.length ≤ 1000000000 := by have := HL.out; omega
      have hl2 : (o ++ D).length + (Cn.form y).length ≤ 1000000000 := by rw [List.length_append]; have := HL.out; omega
      have HL1 := Lib.hid hl1
      have HL2 := Lib.hid hl2
      obtain ⟨z, hz⟩ : ∃ z, z = wr.heap.size := ⟨_, rfl⟩
      obtain ⟨W3, hW3⟩ : ∃ W, W = wr.alloc (.cells #[.int .u8 K, .int .i64 N, .string T, .slice ya p yca, .slice yb r ycb] 26) := ⟨_, rfl⟩
      have g9 : Below wr.heap.size wr W3 := by rw [hW3]; exact (Below.refl _ _).alloc (Nat.le_refl _) _
      have V3 : VAt z W3 (.int .u8 K) (.int .i64 N) (.string T) (.slice ya p yca) (.slice yb r ycb) := by rw [hW3, hz]; exact VAt.new ..
      have HZB : Hid (z ≠ b) := by have := HBr.out.lt; show z ≠ b; omega
      have HB3 := Lib.hid (HBr.out.below g9)
      have HK3 := Lib.hid (HKr.out.trans (KB.of_below (Nat.le_of_lt HBr.out.lt) g9))
      have HV3 := Lib.hid V3
      have HVY := Lib.hid hvy
      have HCY := Lib.hid cY
      clear d0 d1 d2 d3 d4 hcy hII hy hK hN hTT hp hr hst htk hD hDl hol hsum hl1 hl2 g9 V3 hvy cY
      go_wp2_with fail
      rw [← hW3, ← hz]
      clear hW3 hz
      refine (cC W3).mono ?_; rintro e w4 ⟨rfl, rfl⟩
      have cW := bWrite_any b o D W3 HB3.out HL1.out
      clear cC
      go_wp2_with fail
      refine cW.mono ?_; rintro e w5 ⟨rfl, hB5, k5⟩
      have V5 := HV3.out.kb k5 HZB.out
      obtain ⟨⟨q0, q1, q2, q3, q4⟩, qf⟩ := V5.cells
      have HK5 := Lib.hid (HK3.out.trans k5)
      have F5 := (HF1.out.kb HK5.out HNE.out).cell
      have cY := HCY.out w5 _ b wb (o ++ D) HVY.out (HB01.out.trans (HK5.out.1.mono HBB.out)) HBB.out hB5 (HF1.out.kb HK5.out HNE.out) HNE.out HL2.out
      clear cW k5 V5 hB5
      go_wp2_with fail
      refine cY.mono ?_; rintro e w6 ⟨rfl, hB6, k6⟩
      have HB6 := Lib.hid hB6
      have HK6 := Lib.hid (HK5.out.trans k6)
      clear cY hB6 k6 q0 q1 q2 q3 q4 qf F5
      go_wp2_with fail
      go_roundw
      case rel =>
        refine ⟨i + 1, _, by go_num, by omega, ?_, HB6.out, HK6.out⟩
        show _ = _
        rw [HST.out, HO.out, ← HD.out]
        simp
      case measure => simp [intOf]; omega
    · obtain rfl : i = m := by omega
      have HO2 : Hid (o = l ++ 91 :: Cn.cat false x.is) := by
        have := HO.out
        rw [← HM.out, List.take_length] at this
        exact this
      have cW := bWrite_c b o [93] ⟨#[93]⟩ wr rfl HBr.out (by rw [HO2.out]; have := HL.out; simp; omega)
      clear HO
      go_wp2_with fail
      refine cW.mono ?_; rintro e w4 ⟨n4, rfl, hB4, k4⟩
      have HB4 := Lib.hid hB4
      have HK4 := Lib.hid (HK1.out.trans (HKr.out.trans k4))
      clear cW hB4 k4
      go_wp2_with fail
      go_end0
      refine ⟨rfl, ?_, HK4.out⟩
      have h6 := HB4.out
      rw [HO2.out] at h6
      simpa using h6
end

section
open Go.RowKit

set_option maxHeartbeats 8000000 in
set_option maxRecDepth 5000 in
/-- an object -/
theorem write_obj (w0 : World) (x : JV) (hk : x.k = 5) (hml : x.is.length ≤ 90000) (hnl : x.ns.length = x.is.length) (htx : ∀ n ∈ x.ns, Jn.txt n = true) (ih : ∀ (i : Nat) y, x.is[i]? = some y → Wrs w0 y) : Wrs w0 x := by
  intro w v b wb l hv hbel hb hB hW hne hlen
  obtain ⟨cs, rfl, hc⟩ := hv
  obtain ⟨a, c, ca, cc, rfl, hJB, hN0, hI⟩ := hc.form
  obtain ⟨m, hm⟩ : ∃ m, x.is.length = m := ⟨_, rfl⟩
  have hs : x.ns.length = m := by rw [hnl, hm]
  obtain ⟨nI, hnI⟩ : ∃ z : Int, z = x.n := ⟨_, rfl⟩
  obtain ⟨tS, htS⟩ : ∃ z : ByteArray, z = S x.t := ⟨_, rfl⟩
  rw [hk, ← hnI, ← htS, hs, hm]
  show Calls _ _ #[.agg #[.int .u8 5, .int .i64 nI, .string tS, .slice a m ca, .slice c m cc], _, _] w _
  have hm2 : (m : Int) ≤ 90000 := by omega
  obtain ⟨q, hq⟩ : ∃ q, q = w.heap.size := ⟨_, rfl⟩
  obtain ⟨W1, hW1⟩ : ∃ W, W = w.alloc (.cells #[.int .u8 5, .int .i64 nI, .string tS, .slice a m ca, .slice c m cc] 26) := ⟨_, rfl⟩
  have g1 : Below w.heap.size w W1 := by rw [hW1]; exact (Below.refl _ _).alloc (Nat.le_refl _) _
  have V1 : VAt q W1 (.int .u8 5) (.int .i64 nI) (.string tS) (.slice a m ca) (.slice c m cc) := by rw [hW1, hq]; exact VAt.new ..
  have k1 : KB b w W1 := KB.of_below (Nat.le_of_lt hB.lt) g1
  have hB1 := hB.below g1
  have hqb : q ≠ b := by have := hB.lt; omega
  have F1 : WfAt b wb W1 := hW.kb k1 hne
  have b01 : Below w0.heap.size w0 W1 := hbel.trans (g1.mono hbel.size)
  have e4 : Cn.form x = 123 :: (Cn.mem false x.ns x.is ++ [125]) := by rw [Cn.form_eq, if_neg (by omega), if_pos hk]
  rw [e4] at hlen
  have hlen' : l.length + (Cn.mem false x.ns x.is).length + 2 ≤ 1000000000 := by simp at hlen; omega
  have cW := bWrite_c b l [123] ⟨#[123]⟩ W1 rfl hB1 (by simp; omega)
  have HNN := Lib.hid hN0
  have HNL := Lib.hid hnl
  have HTX := Lib.hid htx
  have HS := Lib.hid hs
  clear hN0 hnl htx
  have HM := Lib.hid hm
  have HI0 := Lib.hid hI
  have HIH := Lib.hid ih
  have HK1 := Lib.hid k1
  have HV1 := Lib.hid V1
  have HF1 := Lib.hid F1
  have HB01 := Lib.hid b01
  have HL := Lib.hid hlen'
  have HQB := Lib.hid hqb
  have HNE := Lib.hid hne
  have HBB := Lib.hid hb
  rw [e4]
  clear hc hJB hnI htS hs hm hB hW g1 k1 hB1 hk hbel b01 hlen hlen' hI ih V1 F1 hqb hne hb e4 hml
  go_enter Tryz.func43, Tryz.ntmps43
  go_wp2_with fail
  rw [← hW1, ← hq]
  clear hW1 hq
  refine cW.mono ?_; rintro e w2 ⟨n2, rfl, hB2, k2⟩
  have V2 := HV1.out.kb k2 HQB.out
  obtain ⟨⟨p0, p1, p2, p3, p4⟩, pf⟩ := V2.cells
  have HB2 := Lib.hid hB2
  have HK2 := Lib.hid k2
  clear cW hB2 k2 V2
  go_wp2_with fail
  clear p0 p1 p2 p3 p4 pf
  go_loopw [38] (fun iv wr => ∃ (i : Nat) (o : List UInt8), iv = .int .i64 (i : Int) ∧ i ≤ m ∧ Hid (o = l ++ 123 :: Cn.mem false (x.ns.take i) (x.is.take i)) ∧ IsB b o wr ∧ KB b W1 wr) (fun iv _ => m - (intOf iv).toNat)
  case atStart => exact ⟨0, l ++ [123], rfl, Nat.zero_le _, by show _ = _; rw [List.take_zero, List.take_zero, Cn.mem], HB2.out, HK2.out⟩
  case round =>
    obtain ⟨i, o, rfl, hi, HO, hB, hk⟩ := hrel
    have hbr : Below w0.heap.size w0 wr := HB01.out.trans (hk.1.mono HBB.out)
    have HBR := Lib.hid hbr
    have HKr := Lib.hid hk
    have HBr := Lib.hid hB
    clear hbr hk hB
    by_cases hlt : (i : Int) < (m : Int)
    · obtain ⟨y, hy⟩ : ∃ y, x.is[i]? = some y := ⟨x.is[i]'(by have := HM.out; omega), List.getElem?_eq_getElem _⟩
      obtain ⟨blk, off, rfl, hII⟩ := nitems_at HI0.out hy
      obtain ⟨c0, c1, c2, c3, c4, d0, d1, d2, d3, d4, hcy⟩ := hII.get hy
      have lift : ∀ {o : Nat} {z : Value}, w0.cell? ⟨blk, o, none⟩ = some z → wr.cell? ⟨blk, o, none⟩ = some z := fun h => (HBR.out.cell (World.block_lt_of_cell? w0 _ h)).trans h
      have g0 := lift d0
      have g1 := lift d1
      have g2 := lift d2
      have g3 := lift d3
      have g4 := lift d4
      obtain ⟨ya, yb, yca, ycb, rfl, rfl, rfl, rfl, rfl⟩ := five hcy
      have hvy : HV w0 (.agg #[.int .u8 (y.k : Int), .int .i64 y.n, .string (S y.t), .slice ya y.ns.length yca, .slice yb y.is.length ycb]) y := ⟨_, rfl, hcy⟩
      have cY := HIH.out i y hy
      obtain ⟨K, hK⟩ : ∃ z : Int, z = (y.k : Int) := ⟨_, rfl⟩
      obtain ⟨N, hN⟩ : ∃ z : Int, z = y.n := ⟨_, rfl⟩
      obtain ⟨T, hTT⟩ : ∃ z : ByteArray, z = S y.t := ⟨_, rfl⟩
      obtain ⟨p, hp⟩ : ∃ z : Nat, z = y.ns.length := ⟨_, rfl⟩
      obtain ⟨r, hr⟩ : ∃ z : Nat, z = y.is.length := ⟨_, rfl⟩
      rw [← hK, ← hN, ← hTT, ← hp, ← hr] at hvy
      rw [← hK] at g0
      rw [← hN] at g1
      rw [← hTT] at g2
      rw [← hp] at g3
      rw [← hr] at g4
      obtain ⟨nm, hnm⟩ : ∃ nm, x.ns[i]? = some nm := ⟨x.ns[i]'(by have := HS.out; omega), List.getElem?_eq_getElem _⟩
      have hst := Cn.mem_step HNL.out hnm hy
      have htk := Cn.mem_take false x.ns x.is (i + 1)
      obtain ⟨nb, no, rfl, dn⟩ := HNN.out i nm hnm
      have gn := (HBR.out.cell (World.block_lt_of_cell? w0 _ dn)).trans dn
      have htn := HTX.out nm (List.mem_of_getElem? hnm)
      have cT := fun w => canText_any nm w htn
      have HST := Lib.hid hst
      have HTK := Lib.hid htk
      obtain ⟨D, hD⟩ : ∃ D, D = Cn.hd (decide (0 < i)) := ⟨_, rfl⟩
      have HD := Lib.hid hD
      have cC := comma_any i
      rw [← hD] at cC
      have hDl : D.length ≤ 1 := by rw [hD]; exact Cn.hd_len _
      have hol : o.length = l.length + 1 + (Cn.mem false (x.ns.take i) (x.is.take i)).length := by rw [HO.out]; simp; omega
      have hsum : (Cn.mem false (x.ns.take i) (x.is.take i)).length + D.length + (Qm.quo nm).length + 1 + (Cn.form y).length ≤ (Cn.mem false x.ns x.is).length := by
        rw [hst, ← hD] at htk
        simp only [List.length_append, List.length_cons] at htk
        omega
      have hl1 : o.length + D.length ≤ 1000000000 := by have := HL.out; omega
      have hl2 : (o ++ D ++ Qm.quo nm ++ [58]).length + (Cn.form y).length ≤ 1000000000 := by simp only [List.length_append, List.length_cons, List.length_nil]; have := HL.out; omega
      have hl3 : (o ++ D).length + (Qm.quo nm).length ≤ 1000000000 := by simp only [List.length_append]; have := HL.out; omega
      have hl4 : (o ++ D ++ Qm.quo nm).length + 1 ≤ 1000000000 := by simp only [List.length_append]; have := HL.out; omega
      have HL3 := Lib.hid hl3
      have HL4 := Lib.hid hl4
      have HL1 := Lib.hid hl1
      have HL2 := Lib.hid hl2
      obtain ⟨z, hz⟩ : ∃ z, z = wr.heap.size := ⟨_, rfl⟩
      obtain ⟨W3, hW3⟩ : ∃ W, W = wr.alloc (.cells #[.int .u8 K, .int .i64 N, .string T, .slice ya p yca, .slice yb r ycb] 26) := ⟨_, rfl⟩
      have g9 : Below wr.heap.size wr W3 := by rw [hW3]; exact (Below.refl _ _).alloc (Nat.le_refl _) _
      have V3 : VAt z W3 (.int .u8 K) (.int .i64 N) (.string T) (.slice ya p yca) (.slice yb r ycb) := by rw [hW3, hz]; exact VAt.new ..
      have HZB : Hid (z ≠ b) := by have := HBr.out.lt; show z ≠ b; omega
      have HB3 := Lib.hid (HBr.out.below g9)
      have HK3 := Lib.hid (HKr.out.trans (KB.of_below (Nat.le_of_lt HBr.out.lt) g9))
      have HV3 := Lib.hid V3
      have HVY := Lib.hid hvy
      have HCY := Lib.hid cY
      obtain ⟨Q, hQ⟩ : ∃ Q, Q = Qm.quo nm := ⟨_, rfl⟩
      have HQ := Lib.hid hQ
      obtain ⟨NM, hNM⟩ : ∃ N : ByteArray, N = S nm := ⟨_, rfl⟩
      rw [← hNM] at gn cT
      rw [← hQ] at cT HL2 HL3 HL4
      have HGN : Hid (w0.cell? ⟨nb, no + i, none⟩ = some (.string NM)) := by rw [hNM]; exact dn
      clear d0 d1 d2 d3 d4 hcy hII hy hK hN hTT hp hr hst htk hD hDl hol hsum hl1 hl2 g9 V3 hvy cY hnm hQ hNM dn hl3 hl4 htn gn
      go_wp2_with fail
      rw [← hW3, ← hz]
      clear hW3 hz
      refine (cC W3).mono ?_; rintro e w4 ⟨rfl, rfl⟩
      have cW := bWrite_any b o D W3 HB3.out HL1.out
      clear cC
      go_wp2_with fail
      refine cW.mono ?_; rintro e w5 ⟨rfl, hB5, k5⟩
      have HK5 := Lib.hid (HK3.out.trans k5)
      have HV5 := Lib.hid (HV3.out.kb k5 HZB.out)
      have HB5 := Lib.hid hB5
      have gn := (((HB01.out.trans (HK5.out.1.mono HBB.out)).cell (World.block_lt_of_cell? w0 _ HGN.out)).trans HGN.out)
      obtain ⟨⟨p0, p1, p2, p3, p4⟩, pf⟩ := (HV1.out.kb HK5.out HQB.out).cells
      clear cW k5 hB5
      go_wp2_with fail
      refine (cT w5).mono ?_; rintro e w7 ⟨rfl, b7⟩
      have cW2 := bWrite_any b (o ++ D) Q w7 (HB5.out.below b7) HL3.out
      have HK7 := Lib.hid (HK5.out.trans (KB.of_below (Nat.le_of_lt HB5.out.lt) b7))
      have HV7 := Lib.hid (HV5.out.below b7)
      clear b7 cT p0 p1 p2 p3 p4 pf gn
      go_wp2_with fail
      refine cW2.mono ?_; rintro e w8 ⟨rfl, hB8, k8⟩
      have cW3 := bWrite_c b (o ++ D ++ Q) [58] ⟨#[58]⟩ w8 rfl hB8 HL4.out
      have HK8 := Lib.hid (HK7.out.trans k8)
      have HV8 := Lib.hid (HV7.out.kb k8 HZB.out)
      clear cW2 hB8 k8
      go_wp2_with fail
      refine cW3.mono ?_; rintro e w9 ⟨n9, rfl, hB9, k9⟩
      have HK9 := Lib.hid (HK8.out.trans k9)
      obtain ⟨⟨q0, q1, q2, q3, q4⟩, qf⟩ := (HV8.out.kb k9 HZB.out).cells
      have F5 := (HF1.out.kb HK9.out HNE.out).cell
      have cY := HCY.out w9 _ b wb (o ++ D ++ Q ++ [58]) HVY.out (HB01.out.trans (HK9.out.1.mono HBB.out)) HBB.out hB9 (HF1.out.kb HK9.out HNE.out) HNE.out HL2.out
      clear cW3 hB9 k9
      go_wp2_with fail
      refine cY.mono ?_; rintro e w6 ⟨rfl, hB6, k6⟩
      have HB6 := Lib.hid hB6
      have HK6 := Lib.hid (HK9.out.trans k6)
      clear cY hB6 k6 q0 q1 q2 q3 q4 qf F5
      go_wp2_with fail
      go_roundw
      case rel =>
        refine ⟨i + 1, _, by go_num, by omega, ?_, HB6.out, HK6.out⟩
        show _ = _
        rw [HST.out, HO.out, ← HD.out, ← HQ.out]
        simp
      case measure => simp [intOf]; omega
    · obtain rfl : i = m := by omega
      have HO2 : Hid (o = l ++ 123 :: Cn.mem false x.ns x.is) := by
        have := HO.out
        rw [← HM.out, List.take_length, ← HNL.out, List.take_length] at this
        exact this
      have cW := bWrite_c b o [125] ⟨#[125]⟩ wr rfl HBr.out (by rw [HO2.out]; have := HL.out; simp; omega)
      clear HO
      go_wp2_with fail
      refine cW.mono ?_; rintro e w4 ⟨n4, rfl, hB4, k4⟩
      have HB4 := Lib.hid hB4
      have HK4 := Lib.hid (HK1.out.trans (HKr.out.trans k4))
      clear cW hB4 k4
      go_wp2_with fail
      go_end0
      refine ⟨rfl, ?_, HK4.out⟩
      have h6 := HB4.out
      rw [HO2.out] at h6
      simpa using h6
theorem write_any (w0 : World) (hT : TabN w0) : ∀ (K : Nat) (x : JV), x.cnt ≤ K → x.wt ≤ 90000 → x.part = true → Wrs w0 x := by
  intro K
  induction K with
  | zero => intro x h; have := x.cnt_pos; omega
  | succ K ih =>
    intro x hK hwt hp
    have hml : x.is.length ≤ 90000 := by have := JV.len_le x.is; have := x.cnt_eq; have := x.cnt_wt; omega
    have hit : ∀ (i : Nat) y, x.is[i]? = some y → Wrs w0 y := fun i y hy => by
      have h1 := JV.wts_get hy
      have h2 := JV.cnt_item hy
      have h3 := x.wt_eq
      exact ih y (by omega) (by omega) (JV.parts_get (Cn.part_items hp) hy)
    rcases Cn.part_k hp with h | h | h | h | h
    · exact write_alone w0 hT x hp (.inl h)
    · exact write_alone w0 hT x hp (.inr (.inl h))
    · exact write_alone w0 hT x hp (.inr (.inr h))
    · exact write_list w0 x h hml hit
    · obtain ⟨k, n, t, ns, is⟩ := x
      obtain ⟨_, _, _, _, p5⟩ := Cn.part_bare hp
      obtain ⟨_, _, q1, _, _, q2⟩ := p5 h
      exact write_obj w0 _ h hml q1 q2 hit
/-- what Encode tells -/
def ENC (x : JV) : List UInt8 × Nat := if x.may = true then (Cn.form x, 0) else ([], 3)
theorem ENC_ok {x : JV} (h : x.may = true) : ENC x = (Cn.form x, 0) := if_pos h
theorem ENC_no {x : JV} (h : x.may = false) : ENC x = ([], 3) := if_neg (by rw [h]; decide)
theorem store_wf (W : World) (n : Nat) (hn : n = W.heap.size) (f : Fn) (cap : Array Value) (t : TypeId) : (store ⟨n, 0, none⟩ (.func f #[] cap)).run Tryz.prog (W.alloc (.cells #[.nilFunc] t)) = .ok () (W.alloc (.cells #[.func f #[] cap] t)) := by
  subst hn
  have hc : (W.alloc (.cells #[.nilFunc] t)).cell? ⟨W.heap.size, 0, none⟩ = some .nilFunc := by rw [cell_of_row _ _ 0 _ _ _ (heap_alloc_new W _)]; rfl
  have hf : (W.alloc (.cells #[.nilFunc] t)).frozen? ⟨W.heap.size, 0, none⟩ = false := Lib.frozen_of_heap (heap_alloc_new W _) 0
  rw [run_store _ _ _ _ _ rfl, hc]
  simp only [hf, Bool.false_eq_true, ↓reduceIte]
  rw [World.setCell_alloc_new]
  rfl
set_option maxHeartbeats 8000000 in
set_option maxRecDepth 5000 in
theorem Encode_any (x : JV) (v : Value) (w : World) (hwt : x.wt ≤ 90000) (hv : HV w v x) (hT : TabN w) :
    Calls Tryz.prog 25 #[v] w fun e w' => e = .returned (.tuple #[.string (S (ENC x).1), .int .i64 ((ENC x).2 : Int)]) ∧ Below w.heap.size w w' := by
  have hmf : ∀ (fn : Fn) (first cap : Array Value) (w : World), (Instr.makeFunc fn first cap).run Tryz.prog w = .ok (.func fn first cap) w := fun _ _ _ _ => rfl
  obtain ⟨cs, rfl, hc⟩ := hv
  obtain ⟨a, c, ca, cb, rfl, _, _, _⟩ := hc.form
  obtain ⟨K, hK⟩ : ∃ z : Int, z = (x.k : Int) := ⟨_, rfl⟩
  obtain ⟨N, hNN⟩ : ∃ z : Int, z = x.n := ⟨_, rfl⟩
  obtain ⟨T, hTT⟩ : ∃ z : ByteArray, z = S x.t := ⟨_, rfl⟩
  obtain ⟨p, hp⟩ : ∃ z : Nat, z = x.ns.length := ⟨_, rfl⟩
  obtain ⟨r, hr⟩ : ∃ z : Nat, z = x.is.length := ⟨_, rfl⟩
  have hv : HV w (.agg #[.int .u8 K, .int .i64 N, .string T, .slice a p ca, .slice c r cb]) x := by rw [hK, hNN, hTT, hp, hr]; exact ⟨_, rfl, hc⟩
  rw [← hK, ← hNN, ← hTT, ← hp, ← hr]
  show Calls _ _ #[.agg #[.int .u8 K, .int .i64 N, .string T, .slice a p ca, .slice c r cb]] w _
  clear hc hK hNN hTT hp hr
  obtain ⟨q, hq⟩ : ∃ q, q = w.heap.size := ⟨_, rfl⟩
  obtain ⟨W1, hW1⟩ : ∃ W, W = w.alloc (.cells #[.int .u8 K, .int .i64 N, .string T, .slice a p ca, .slice c r cb] 26) := ⟨_, rfl⟩
  have g1 : Below w.heap.size w W1 := by rw [hW1]; exact (Below.refl _ _).alloc (Nat.le_refl _) _
  have V1 : VAt q W1 (.int .u8 K) (.int .i64 N) (.string T) (.slice a p ca) (.slice c r cb) := by rw [hW1, hq]; exact VAt.new ..
  cases hm : x.may with
  | false =>
    have cM := may_any x W1 _ hwt (hv.below g1) hm
    rw [ENC_no hm]
    have HG := Lib.hid g1
    clear hv hm g1 V1
    go_enter Tryz.func25, Tryz.ntmps25
    go_wp2_with fail
    rw [← hW1]
    clear hW1
    refine cM.mono ?_; rintro e w2 ⟨rfl, b2⟩
    go_wp2_with fail
    go_ret2
    exact ⟨rfl, HG.out.trans (b2.mono HG.out.size)⟩
  | true =>
    have cM := may_any x W1 _ hwt (hv.below g1) hm
    rw [ENC_ok hm]
    have hpt : x.part = true := by
      unfold JV.may at hm
      simp only [Bool.and_eq_true] at hm
      exact hm.1
    have hlen : (Cn.form x).length ≤ 1000000000 := by
      obtain ⟨cs, _, hc⟩ := hv
      have := Cn.form_len x (Cn.inr_of x cs hc)
      omega
    have cWr := write_any w hT _ x (Nat.le_refl _) hwt hpt
    have HG := Lib.hid g1
    have HV0 := Lib.hid hv
    have HV1 := Lib.hid V1
    have HCW := Lib.hid cWr
    have HLN := Lib.hid hlen
    clear hv hm g1 V1 cWr hlen hpt
    go_enter Tryz.func25, Tryz.ntmps25
    go_wp2_with fail
    rw [← hW1, ← hq]
    refine cM.mono ?_; rintro e w2 ⟨rfl, b2⟩
    obtain ⟨b, hb⟩ : ∃ b, b = w2.heap.size := ⟨_, rfl⟩
    obtain ⟨W3, hW3⟩ : ∃ W, W = w2.alloc (.cells #[.pointer none, .slice none 0 0] 78) := ⟨_, rfl⟩
    obtain ⟨W4, hW4⟩ : ∃ W, W = W3.alloc (.cells #[CWf b (b + 1)] 79) := ⟨_, rfl⟩
    have g3 : Below w2.heap.size w2 W3 := by rw [hW3]; exact (Below.refl _ _).alloc (Nat.le_refl _) _
    have g4 : Below W3.heap.size W3 W4 := by rw [hW4]; exact (Below.refl _ _).alloc (Nat.le_refl _) _
    have s3 : W3.heap.size = b + 1 := by rw [hW3, hb]; simp
    have hB3 : IsB b [] W3 := by rw [hW3, hb]; exact IsB.new w2
    have hB4 := hB3.below g4
    have hF4 : WfAt b (b + 1) W4 := by rw [hW4, ← s3]; exact heap_alloc_new W3 _
    have h02 : Below w.heap.size w w2 := HG.out.trans (b2.mono HG.out.size)
    have h03 : Below w.heap.size w W3 := h02.trans (g3.mono h02.size)
    have h04 : Below w.heap.size w W4 := h03.trans (g4.mono h03.size)
    have hbw : w.heap.size ≤ b := by rw [hb]; exact h02.size
    have V4 := ((HV1.out.below b2).below g3).below g4
    have cW := HCW.out W4 _ b (b + 1) [] HV0.out h04 hbw hB4 hF4 (by omega) (by have := HLN.out; simp; omega)
    rw [List.nil_append] at cW
    obtain ⟨⟨p0, p1, p2, p3, p4⟩, pf⟩ := V4.cells
    have f4 := hF4.cell
    have HB4 := Lib.hid hB4
    have H04 := Lib.hid h04
    have HBW := Lib.hid hbw
    have hst : (store ⟨w2.heap.size + 1, 0, none⟩ (.func (.func 43) #[] #[.pointer (some ⟨w2.heap.size, 0, none⟩), .pointer (some ⟨w2.heap.size + 1, 0, none⟩)])).run Tryz.prog ((w2.alloc (.cells #[.pointer none, .slice none 0 0] 78)).alloc (.cells #[.nilFunc] 79)) = .ok () W4 := by
      rw [hW4, hW3, hb]
      exact store_wf _ _ (by simp) _ _ _
    clear cM b2 hW1 g3 g4 s3 hB3 hB4 hF4 h02 h03 h04 V4 hq hbw hW3 hW4
    subst hb
    go_wp2_with fail
    refine cW.mono ?_; rintro e w5 ⟨rfl, hB5, k5⟩
    have cS := bString_any _ _ w5 hB5
    have HB5 := Lib.hid hB5
    have HK5 := Lib.hid k5
    clear cW hB5 k5 p0 p1 p2 p3 p4 pf f4 hst
    go_wp2_with fail
    refine cS.mono ?_; rintro e w6 ⟨rfl, b6⟩
    go_wp2_with fail
    go_ret2
    exact ⟨rfl, (H04.out.trans (HK5.out.1.mono HBW.out)).trans (b6.mono HBW.out)⟩
end
end

section
open Go.RowKit

def keyG (o : Oper) : Option Tmp × Op × Option (Nat × Bool) × List Nat := (o.dst, o.op, o.guard, (o.after.toList.filter (Region.binds .any)).map (·.on))
/-- is operation k carried out, if the guards yield what G says? -/
def wantG (G : Nat → Option Bool) (g : Option (Nat × Bool)) : Bool := match g with | none => true | some (j, b) => G j == some b
theorem wp_region_grow {P : Program} {ops : Array Oper} {Q : Exit → Act → World → Prop} {A : Act} {id : Nat} {w : World} (hm : P.follows .mixedOrders = true) (T : List (Option Tmp × Op × Option (Nat × Bool) × List Nat))
    (hkey : ops.toList.map keyG = T) (hlow : (List.range ops.size).all (fun i => match ops[i]? with | some o => o.after.all (fun e => !Region.binds .any e || decide (e.on < i)) | none => true) = true)
    (p : Nat → Bool) (D : Nat → Nat) (hD : ∀ k x, T[k]? = some x → x.1 = some (D k) ∧ p (D k) = true ∧ D k < A.tmps.size) (hinj : ∀ i, i < T.length → ∀ j, j < T.length → D i = D j → i = j)
    (F : Nat → World → Value → Prop) (hF : ∀ k u u' v, Below u.heap.size u u' → F k u v → F k u' v)
    (G : Nat → Option Bool) (hG : ∀ k c u v, G k = some c → F k u v → v = .bool c)
    (hgd : ∀ (k : Nat) (x : Option Tmp × Op × Option (Nat × Bool) × List Nat) (g : Nat) (b : Bool), T[k]? = some x → x.2.2.1 = some (g, b) → g ∈ x.2.2.2 ∧ ∃ c, G g = some c)
    (skip : ∀ (k : Nat) (x : Option Tmp × Op × Option (Nat × Bool) × List Nat) (u : World), T[k]? = some x → wantG G x.2.2.1 = false → F k u undef)
    (step : ∀ (k : Nat) (x : Option Tmp × Op × Option (Nat × Bool) × List Nat) (a : Act) (u : World), T[k]? = some x → wantG G x.2.2.1 = true → Below w.heap.size w u → (∀ j, p j = false → a.eval (.tmp j) = A.eval (.tmp j)) → (∀ n, n ∈ x.2.2.2 → F n u (a.eval (.tmp (D n)))) → ∀ o : Oper, o.dst = x.1 → o.op = x.2.1 →
      o.wp P a u (fun a' u' => ∃ v, a' = a.put o.dst v ∧ F k u' v ∧ Below u.heap.size u u') Q)
    (fin : ∀ f u, (∀ k, k < T.length → F k u (f (D k))) → Below w.heap.size w u → Q .normal (putR A p f) u) : (Code.region id ops true).wp P Q A w := by
  have hlen : ops.size = T.length := by have := congrArg List.length hkey; simpa using this
  refine wp_region_inv hm p (fun listed f u => (∀ k, listed.getD k false = true → k < T.length ∧ F k u (f (D k))) ∧ Below w.heap.size w u) ?_ (fun listed f u i o hs hI hi hun hdep => ?_) (fun listed f u hs hI hr => ?_)
  · refine ⟨fun k h => ?_, (Below.refl _ _).drew⟩
    have hk := lt_of_listed h
    simp at hk
    simp [hk] at h
  · obtain ⟨hV, hb⟩ := hI
    have hl : ops.toList[i]? = some o := by rw [Array.getElem?_toList]; exact hi
    have hx : T[i]? = some (keyG o) := by rw [← hkey, List.getElem?_map, hl]; rfl
    have hil : i < T.length := (List.getElem?_eq_some_iff.1 hx).1
    obtain ⟨hd1, hd2, hd3⟩ := hD i _ hx
    have hd1 : o.dst = some (D i) := hd1
    have hdeps : ∀ n, n ∈ (keyG o).2.2.2 → F n u ((putR A p f).eval (.tmp (D n))) := fun n hn => by
      obtain ⟨e, he, rfl⟩ := List.mem_map.1 hn
      have hm := List.mem_filter.1 he
      obtain ⟨h1, h2⟩ := hV _ (hdep e (by simpa using hm.1) hm.2)
      obtain ⟨_, h3, h4⟩ := hD e.on T[e.on] (List.getElem?_eq_getElem h1)
      rw [putR_in A p f (D e.on) h3 h4]
      exact h2
    -- what is known behind it
    have next : ∀ (v : Value) (u' : World), F i u' v → Below u.heap.size u u' → ∃ f', (putR A p f).put o.dst v = putR A p f' ∧ (∀ k, (listed.setIfInBounds i true).getD k false = true → k < T.length ∧ F k u' (f' (D k))) ∧ Below w.heap.size w u' := fun v u' hv hb' => by
      refine ⟨fun j => if j = D i then v else f j, ?_, fun k hk => ?_, hb.trans (hb'.mono hb.size)⟩
      · rw [hd1]
        exact putR_put _ _ _ _ _ hd2
      · by_cases e : k = i
        · subst e
          simp only [if_true]
          exact ⟨hil, hv⟩
        · have hk2 : listed.getD k false = true := by rwa [getD_set_other e] at hk
          obtain ⟨hk3, hk4⟩ := hV k hk2
          have hne : ¬ D k = D i := fun h => e (hinj k hk3 i hil h)
          simp only [hne, if_false]
          exact ⟨hk3, hF k u u' _ hb' hk4⟩
    -- the guard
    have hw : Region.wanted o (yielded ops (putR A p f).tmps) = wantG G o.guard := by
      unfold Region.wanted wantG
      rcases hg : o.guard with _ | ⟨g, b⟩
      · rfl
      · obtain ⟨h1, c, h2⟩ := hgd i _ g b hx hg
        have h3 := hG g c u _ h2 (hdeps g h1)
        obtain ⟨e, he, hge⟩ := List.mem_map.1 h1
        have hm := List.mem_filter.1 he
        have h4 := (hV _ (hdep e (by simpa using hm.1) hm.2)).1
        rw [hge] at h4
        obtain ⟨h5, h6, h7⟩ := hD g T[g] (List.getElem?_eq_getElem h4)
        have hog : ∃ og, ops[g]? = some og ∧ og.dst = some (D g) := by
          have hg2 : g < ops.size := by omega
          refine ⟨ops[g], Array.getElem?_eq_getElem hg2, ?_⟩
          have hTg : T[g]? = some (keyG ops[g]) := by rw [← hkey, List.getElem?_map, Array.getElem?_toList, Array.getElem?_eq_getElem hg2]; rfl
          have := hD g _ hTg
          exact this.1
        obtain ⟨og, ho1, ho2⟩ := hog
        have hy : yielded ops (putR A p f).tmps g = some c := by
          unfold yielded
          rw [ho1]
          have h8 : (putR A p f).eval (.tmp (D g)) = .bool c := h3
          have h9 : (putR A p f).tmps[D g]? = some (.bool c) := by
            have hsz : D g < (putR A p f).tmps.size := by simp [putR]; exact h7
            rw [Array.getElem?_eq_getElem hsz]
            simp [Act.eval, hsz] at h8
            rw [h8]
          simp [ho2, h9]
        show (yielded ops (putR A p f).tmps g == some b) = (G g == some b)
        rw [hy, h2]
    unfold wpOp
    simp only [hi]
    cases hc : wantG G o.guard with
    | true =>
      rw [hw, hc]
      simp only [if_true]
      refine .inl (Oper.wp_mono (fun a' u' ⟨v, ha, hv, hb'⟩ => ?_) (step i _ (putR A p f) u hx hc hb (fun j hj => putR_out _ _ _ j hj) hdeps o rfl rfl))
      rw [ha]
      exact next v u' hv hb'
    | false =>
      rw [hw, hc]
      simp only [Bool.false_eq_true, if_false]
      exact next undef u (skip i _ u hx hc) (Below.refl _ _)
  · obtain ⟨hV, hb⟩ := hI
    exact fin f u (fun k hk => (hV k (all_of_ready hs hr hlow (k + 1) k (Nat.lt_succ_self k) (by omega))).2) hb
end

section
section
open Go.RowKit

theorem fd_add (b o j : Nat) : (⟨b, o, none⟩ : Addr).add j = ⟨b, o + j, none⟩ := by unfold Addr.add; split <;> simp_all
/-- n zero bytes -/
def Zs (n : Nat) : List UInt8 := List.replicate n 0
def ZA (n : Nat) : Array Value := (V (Zs n)).toArray
theorem Zs_length (n : Nat) : (Zs n).length = n := by simp [Zs]
theorem cnt_zeros : ∀ n : Nat, Um.cnt (Zs n) = some n
  | 0 => rfl
  | n + 1 => by
    have h : Um.nx (Zs (n + 1)) = (0, 1, 0) := by
      unfold Um.nx
      rw [show Um.bt (Zs (n + 1)) 0 = 0 from rfl]
      unfold Um.nxN
      rw [if_neg (by rw [Zs_length]; omega), if_pos (by omega)]
    rw [Um.cnt_ok h]
    show (Um.cnt (Zs n)).map (· + 1) = _
    rw [cnt_zeros n]
    rfl
theorem txt_zeros (n : Nat) : Jn.txt (Zs n) = decide (n ≤ 4096) := by
  unfold Jn.txt
  rw [LEN_some (cnt_zeros n), Zs_length]
  rfl
theorem made_zs (n : Nat) : madeCells (Value.int .u8 0).cells (n * 1) = ZA n := by
  rw [Nat.mul_one]
  apply Array.ext
  · rw [size_madeCells]
    simp [ZA, V, Zs]
  · intro i h1 h2
    simp [madeCells, ZA, V, Zs, Value.cells, Nat.mod_one]
theorem run_make_zs (n : Nat) (c : Int) (hc : c = (n : Int)) (hn : n ≤ 100000000) (w : World) :
    (Instr.makeSlice 36 (.int .i64 c) (.int .i64 c)).run Tryz.prog w = .ok (.slice (some ⟨w.heap.size, 0, none⟩) n n) (w.alloc (.cells (ZA n) 5)) := by
  subst hc
  obtain ⟨i0, hi, hz, hs, hb⟩ := info_parts info5
  have h := run_make (P := Tryz.prog) w 36 5 i0 _ Tryz.underlying36 hi hz .i64 .i64 (n : Int) (n : Int) (by omega) (by omega) (by rw [hb]; omega) (by omega)
  rw [h, Int.toNat_natCast, hs, made_zs]
theorem conv_zs (w : World) (b n : Nat) (h : w.heap[b]? = some (.cells (ZA n) 5 (0, 0))) :
    (convert 36 9 (.slice (some ⟨b, 0, none⟩) n n)).run Tryz.prog w = .ok (.string (S (Zs n))) w := by
  have := run_convert_bytes_back (P := Tryz.prog) w 36 9 5 ⟨b, 0, none⟩ n (Zs n) Tryz.underlying36 Tryz.underlying5 Tryz.underlying9 (by
    intro j hj
    rw [fd_add, Nat.zero_add, cell_of_row w b j _ _ _ h]
    simp [ZA, V, List.getElem?_eq_getElem hj])
  rwa [Zs_length] at this
end

section
open Go.RowKit

/-- kinds of what an operation leaves -/
inductive Fd where
  | val (v : Value)
  | jv (x : JV)
  | names (ns : List (List UInt8))
  | items (is : List JV)
  | zs (n : Nat)
def FD : Fd → World → Value → Prop
  | .val x, _, v => v = x
  | .jv x, u, v => HV u v x
  | .names ns, u, v => ∃ b, v = .slice (some ⟨b, 0, none⟩) ns.length ns.length ∧ u.heap[b]? = some (.cells (NC ns).toArray 9 (0, 0))
  | .items is, u, v => ∃ b cs, v = .slice (some ⟨b, 0, none⟩) is.length is.length ∧ u.heap[b]? = some (.cells (cs : List Value).toArray 26 (0, 0)) ∧ HCS u cs is
  | .zs n, u, v => ∃ b, v = .slice (some ⟨b, 0, none⟩) n n ∧ u.heap[b]? = some (.cells (ZA n) 5 (0, 0))
theorem FD.below {u u' : World} (hb : Below u.heap.size u u') : ∀ {d : Fd} {v : Value}, FD d u v → FD d u' v
  | .val _, _, h => h
  | .jv _, _, h => HV.below h hb
  | .names _, _, ⟨b, h1, h2⟩ => ⟨b, h1, (hb.block b (Array.getElem?_eq_some_iff.1 h2).1).trans h2⟩
  | .items _, _, ⟨b, cs, h1, h2, h3⟩ => ⟨b, cs, h1, (hb.block b (Array.getElem?_eq_some_iff.1 h2).1).trans h2, HCS.below hb _ _ h3⟩
  | .zs _, _, ⟨b, h1, h2⟩ => ⟨b, h1, (hb.block b (Array.getElem?_eq_some_iff.1 h2).1).trans h2⟩
def Fl (l : List Fd) (k : Nat) (u : World) (v : Value) : Prop := match l[k]? with | some d => FD d u v | none => True
theorem Fl.below (l : List Fd) (k : Nat) (u u' : World) (v : Value) (hb : Below u.heap.size u u') (h : Fl l k u v) : Fl l k u' v := by
  unfold Fl at *
  split
  · rename_i d hd
    rw [hd] at h
    exact FD.below hb h
  · trivial
def Gl (l : List Fd) (k : Nat) : Option Bool := match l[k]? with | some (.val (.bool b)) => some b | _ => none
theorem Gl.val (l : List Fd) (k : Nat) (c : Bool) (u : World) (v : Value) (h : Gl l k = some c) (h2 : Fl l k u v) : v = .bool c := by
  unfold Gl at h
  unfold Fl at h2
  split at h
  · rename_i b hb
    rw [hb] at h2
    simp only [Option.some.injEq] at h
    rw [← h]
    exact h2
  · cases h
section
variable {Q : Exit → Act → World → Prop} {a : Act} {u : World} {o : Oper} {d : Fd}
abbrev Gw (o : Oper) (a : Act) (u : World) (Q : Exit → Act → World → Prop) (d : Fd) : Prop := o.wp Tryz.prog a u (fun a' u' => ∃ v, a' = a.put o.dst v ∧ FD d u' v ∧ Below u.heap.size u u') Q
theorem gl_val {v : Value} (h : (execOp a.eval o).run Tryz.prog u = .ok (.value v) u) : Gw o a u Q (.val v) := wp_val h ⟨v, rfl, rfl, Below.refl _ _⟩
theorem eval_c (v : Value) : a.eval (.const v) = v := rfl
theorem gl_move {x : Operand} (ho : o.op = .move x) (hx : FD d u (a.eval x)) : Gw o a u Q d := wp_val (by simp only [execOp, ho]; rfl) ⟨_, rfl, hx, Below.refl _ _⟩
theorem gl_assign {x : Operand} (ho : o.op = .assign x) (hx : FD d u (a.eval x)) : Gw o a u Q d := wp_val (by simp only [execOp, ho]; rfl) ⟨_, rfl, hx, Below.refl _ _⟩
theorem ld_box {b : Nat} {c0 c1 c2 c3 c4 : Value} (h : VAt b u c0 c1 c2 c3 c4) : (Instr.loadAt 26 (.pointer (some ⟨b, 0, none⟩))).run Tryz.prog u = .ok (.agg #[c0, c1, c2, c3, c4]) u := ld_val _ fun j z hj => by
  obtain ⟨⟨p0, p1, p2, p3, p4⟩, _⟩ := h.cells
  rw [Nat.zero_add]
  rcases j with _ | _ | _ | _ | _ | j
  all_goals simp only [List.getElem?_cons_zero, List.getElem?_cons_succ, List.getElem?_nil, Option.some.injEq, reduceCtorEq] at hj
  all_goals subst hj
  all_goals assumption
theorem gl_load {x : Operand} {b : Nat} {c0 c1 c2 c3 c4 : Value} {X : JV} (ho : o.op = .load 26 x) (hx : a.eval x = .pointer (some ⟨b, 0, none⟩)) (h : VAt b u c0 c1 c2 c3 c4) (hh : HV u (.agg #[c0, c1, c2, c3, c4]) X) : Gw o a u Q (.jv X) :=
  wp_val (by simp [execOp, ho, hx, ld_box h]) ⟨_, rfl, hh, Below.refl _ _⟩
/-- a call of a function by its name -/
theorem gl_call (f : FuncId) {xs : Array Operand} {ts : Array TypeId} {args : Array Value} (ho : o.op = .call { callee := .value (.func f), args := xs, argTypes := ts }) (hx : xs.map a.eval = args)
    (hf : ∀ args w, (callFunc f args).run Tryz.prog w = .ok (.enter f args) w) (hc : Calls Tryz.prog f args u fun e w' => ∃ v, e = .returned v ∧ FD d w' v ∧ Below u.heap.size u w') : Gw o a u Q d := by
  unfold Gw Oper.wp
  rw [exec_call f ho hx hf, Oper.upon_enter]
  refine hc.mono fun e w' ⟨v, he, hr⟩ => ?_
  subst he
  exact ⟨v, rfl, hr⟩
theorem gl_ret {f : FuncId} {args : Array Value} {v : Value} (h : Calls Tryz.prog f args u fun e w' => e = .returned v ∧ Below u.heap.size u w') : Calls Tryz.prog f args u fun e w' => ∃ z, e = .returned z ∧ FD (.val v) w' z ∧ Below u.heap.size u w' :=
  h.mono fun _ _ ⟨h1, h2⟩ => ⟨v, h1, rfl, h2⟩
theorem gl_not {x : Operand} {c : Bool} (ho : o.op = .unOp .not 4 x) (hx : a.eval x = .bool c) : Gw o a u Q (.val (.bool (!c))) := gl_val (by simp [execOp, ho, hx]; simp [go_sem])
theorem gl_eqi {t : TypeId} {x : Operand} {y z : Int} {r : Bool} (ho : o.op = .binOp .eql t x (.const (.int .i64 z)) t) (hx : a.eval x = .int .i64 y) (hr : (y == z) = r) : Gw o a u Q (.val (.bool r)) := gl_val (by
  subst hr
  have hc : a.eval (.const (.int .i64 z)) = .int .i64 z := rfl
  simp [execOp, ho, hx, hc, eqGuard]
  simp [go_sem, binOp])
theorem gl_eqb {x y : Operand} {b c : Bool} (ho : o.op = .binOp .eql 4 x y 4) (hx : a.eval x = .bool b) (hy : a.eval y = .bool c) : Gw o a u Q (.val (.bool (b == c))) := gl_val (by
  have he := run_equal_bool u 4 b c Tryz.underlying4
  simp [execOp, ho, hx, hy, eqGuard]
  simp [binOp, he])
theorem gl_neb {x y : Operand} {b c : Bool} (ho : o.op = .binOp .neq 4 x y 4) (hx : a.eval x = .bool b) (hy : a.eval y = .bool c) : Gw o a u Q (.val (.bool (b != c))) := gl_val (by
  have he := run_equal_bool u 4 b c Tryz.underlying4
  simp [execOp, ho, hx, hy, eqGuard]
  simp [binOp, he]
  cases b <;> cases c <;> rfl)
theorem gl_eqii {x y : Operand} {b c : Int} (ho : o.op = .binOp .eql 3 x y 3) (hx : a.eval x = .int .i64 b) (hy : a.eval y = .int .i64 c) : Gw o a u Q (.val (.bool (b == c))) := gl_val (by simp [execOp, ho, hx, hy, eqGuard]; simp [go_sem, binOp])
/-- '&&' behind what is true: what stands on the right; behind what is false: false -/
theorem gl_and {x y : Operand} {b c r : Bool} (ho : o.op = .pick x y (.const (.bool false))) (hx : a.eval x = .bool b) (hy : b = true → a.eval y = .bool c) (hr : r = (b && c)) : Gw o a u Q (.val (.bool r)) := by
  subst hr
  have hc : a.eval (.const (.bool false)) = .bool false := rfl
  cases b with
  | true => exact gl_val (by simp [execOp, ho, hx, hy rfl]; first | done | simp [go_sem])
  | false => exact gl_val (by simp [execOp, ho, hx, hc]; first | done | simp [go_sem])
/-- '||' -/
theorem gl_or {x y : Operand} {b c r : Bool} (ho : o.op = .pick x (.const (.bool true)) y) (hx : a.eval x = .bool b) (hy : b = false → a.eval y = .bool c) (hr : r = (b || c)) : Gw o a u Q (.val (.bool r)) := by
  subst hr
  have hc : a.eval (.const (.bool true)) = .bool true := rfl
  cases b with
  | false => exact gl_val (by simp [execOp, ho, hx, hy rfl]; first | done | simp [go_sem])
  | true => exact gl_val (by simp [execOp, ho, hx, hc]; first | done | simp [go_sem])
theorem gl_names1 {l : List UInt8} (t : ByteArray) (ho : o.op = .buildSlice 23 1 #[(0, .const (.string t))]) (ht : t = S l) : Gw o a u Q (.names [l]) := by
  subst ht
  obtain ⟨i0, hi0, hz0, hz1, hz2⟩ := info_parts info_name
  refine wp_buildSlice 23 9 1 _ ho #[.string (S l)] i0 _ Tryz.underlying23 hi0 hz0 (by rw [hz1]; decide) (by rw [hz1]; decide) ?_ ⟨_, rfl, ⟨_, rfl, heap_alloc_new u _⟩, (Below.refl _ _).alloc (Nat.le_refl _) _⟩
  rw [hz1, show (#[(0, Operand.const (.string (S l)))].map fun y : Nat × Operand => (y.1, a.eval y.2)).toList = [(0, Value.string (S l))] by simp [Act.eval]]
  exact fill_str (S l)
theorem fill_str2 (t t' : ByteArray) : Instr.fill (fun i => some (i * 1, 1)) ((Array.range (2 * 1)).map ((Value.string ⟨#[]⟩).cells[· % (Value.string ⟨#[]⟩).cells.size]!)) [(0, .string t), (1, .string t')] = some #[.string t, .string t'] := by kernel_rfl
theorem gl_names2 {l l' : List UInt8} (t t' : ByteArray) (ho : o.op = .buildSlice 23 2 #[(0, .const (.string t)), (1, .const (.string t'))]) (ht : t = S l) (ht' : t' = S l') : Gw o a u Q (.names [l, l']) := by
  subst ht ht'
  obtain ⟨i0, hi0, hz0, hz1, hz2⟩ := info_parts info_name
  refine wp_buildSlice 23 9 2 _ ho #[.string (S l), .string (S l')] i0 _ Tryz.underlying23 hi0 hz0 (by rw [hz1]; decide) (by rw [hz1]; decide) ?_ ⟨_, rfl, ⟨_, rfl, heap_alloc_new u _⟩, (Below.refl _ _).alloc (Nat.le_refl _) _⟩
  rw [hz1, show (#[(0, Operand.const (.string (S l))), (1, Operand.const (.string (S l')))].map fun y : Nat × Operand => (y.1, a.eval y.2)).toList = [(0, Value.string (S l)), (1, Value.string (S l'))] by simp [Act.eval]]
  exact fill_str2 (S l) (S l')
theorem gl_items1 {x : Operand} {X : JV} (ho : o.op = .buildSlice 24 1 #[(0, x)]) (hx : HV u (a.eval x) X) : Gw o a u Q (.items [X]) := by
  obtain ⟨i0, hi0, hz0, hz1, hz2⟩ := info_parts info_val
  obtain ⟨cs, he, hc⟩ := hx
  obtain ⟨ya, yb, yca, ycb, rfl, _⟩ := hc.form
  have ba : Below u.heap.size u (u.alloc (.cells #[.int .u8 (X.k : Int), .int .i64 X.n, .string (S X.t), .slice ya X.ns.length yca, .slice yb X.is.length ycb] 26)) := (Below.refl _ _).alloc (Nat.le_refl _) _
  refine wp_buildSlice 24 26 1 _ ho #[.int .u8 (X.k : Int), .int .i64 X.n, .string (S X.t), .slice ya X.ns.length yca, .slice yb X.is.length ycb] i0 _ Tryz.underlying24 hi0 hz0 (by rw [hz1]; decide) (by rw [hz1]; decide) ?_ ⟨_, rfl, ⟨u.heap.size, _, rfl, heap_alloc_new u _, HCS.one (HC.below ba _ _ hc)⟩, ba⟩
  rw [hz1, show (#[(0, x)].map fun y : Nat × Operand => (y.1, a.eval y.2)).toList = [(0, Value.agg #[.int .u8 (X.k : Int), .int .i64 X.n, .string (S X.t), .slice ya X.ns.length yca, .slice yb X.is.length ycb])] by simp [he]]
  exact fill_val _ _ _ _ _
theorem fill_val2 (c0 c1 c2 c3 c4 d0 d1 d2 d3 d4 : Value) : Instr.fill (fun i => some (i * 5, 5)) ((Array.range (2 * 5)).map ((Value.agg V5).cells[· % (Value.agg V5).cells.size]!)) [(0, .agg #[c0, c1, c2, c3, c4]), (1, .agg #[d0, d1, d2, d3, d4])] = some #[c0, c1, c2, c3, c4, d0, d1, d2, d3, d4] := by kernel_rfl
theorem gl_items2 {x y : Operand} {X Y : JV} (ho : o.op = .buildSlice 24 2 #[(0, x), (1, y)]) (hx : HV u (a.eval x) X) (hy : HV u (a.eval y) Y) : Gw o a u Q (.items [X, Y]) := by
  obtain ⟨i0, hi0, hz0, hz1, hz2⟩ := info_parts info_val
  obtain ⟨cs, he, hc⟩ := hx
  obtain ⟨ya, yb, yca, ycb, rfl, _⟩ := hc.form
  obtain ⟨cs, he', hc'⟩ := hy
  obtain ⟨za, zb, zca, zcb, rfl, _⟩ := hc'.form
  have ba : Below u.heap.size u (u.alloc (.cells #[.int .u8 (X.k : Int), .int .i64 X.n, .string (S X.t), .slice ya X.ns.length yca, .slice yb X.is.length ycb, .int .u8 (Y.k : Int), .int .i64 Y.n, .string (S Y.t), .slice za Y.ns.length zca, .slice zb Y.is.length zcb] 26)) := (Below.refl _ _).alloc (Nat.le_refl _) _
  refine wp_buildSlice 24 26 2 _ ho #[.int .u8 (X.k : Int), .int .i64 X.n, .string (S X.t), .slice ya X.ns.length yca, .slice yb X.is.length ycb, .int .u8 (Y.k : Int), .int .i64 Y.n, .string (S Y.t), .slice za Y.ns.length zca, .slice zb Y.is.length zcb] i0 _ Tryz.underlying24 hi0 hz0 (by rw [hz1]; decide) (by rw [hz1]; decide) ?_ ⟨_, rfl, ⟨u.heap.size, _, rfl, heap_alloc_new u _, HCS.snoc (HC.below ba _ _ hc') (HCS.one (HC.below ba _ _ hc))⟩, ba⟩
  rw [hz1, show (#[(0, x), (1, y)].map fun y : Nat × Operand => (y.1, a.eval y.2)).toList = [(0, Value.agg #[.int .u8 (X.k : Int), .int .i64 X.n, .string (S X.t), .slice ya X.ns.length yca, .slice yb X.is.length ycb]), (1, Value.agg #[.int .u8 (Y.k : Int), .int .i64 Y.n, .string (S Y.t), .slice za Y.ns.length zca, .slice zb Y.is.length zcb])] by simp [he, he']]
  exact fill_val2 _ _ _ _ _ _ _ _ _ _
theorem gl_mk {n : Nat} (ho : o.op = .makeSlice 36 (.const (.int .i64 (n : Int))) (.const (.int .i64 (n : Int)))) (hn : n ≤ 100000000) : Gw o a u Q (.zs n) := by
  have hc : a.eval (.const (.int .i64 (n : Int))) = .int .i64 (n : Int) := rfl
  exact wp_val (by simp only [execOp, ho, hc]; rw [Sem.run_bind, run_make_zs n n rfl hn u]; rfl) ⟨_, rfl, ⟨_, rfl, heap_alloc_new u _⟩, (Below.refl _ _).alloc (Nat.le_refl _) _⟩
theorem gl_conv {x : Operand} {n : Nat} (ho : o.op = .convert 36 9 x) (hx : FD (.zs n) u (a.eval x)) : Gw o a u Q (.val (.string (S (Zs n)))) := by
  obtain ⟨b, h1, h2⟩ := hx
  have := conv_zs u b n h2
  exact gl_val (by simp only [execOp, ho, h1]; rw [Sem.run_bind, this]; rfl)
end
end
end

section
open Go.RowKit

set_option maxHeartbeats 1000000 in
theorem text10_any (t : List UInt8) (w : World) (ht : t.length ≤ maxLen) :
    Calls Tryz.prog 41 #[.string (S t)] w fun e w' => ∃ v, e = .returned v ∧ HV w' v (JV.text t) ∧ Below w.heap.size w w' := by
  have a := VAt.new w (.int .u8 3) (.int .i64 0) (.string (S t)) (.slice none 0 0) (.slice none 0 0)
  go_enter Tryz.func41, Tryz.ntmps41
  go_wp2_with fail
  refine bodyPost_ret (results_one (fn := Tryz.f41) (t := 2) rfl _ _ rfl a rfl) rfl ?_
  exact ⟨_, rfl, HV.of _ 3 0 t [] [] none none 0 0 ⟨by omega, by omega, ht, Nat.zero_le _, Nat.zero_le _, fun x h => by simp at h⟩ (NS.nil _ _) (.inl rfl), (Below.refl _ _).alloc (Nat.le_refl _) _⟩
theorem text10_fd (t : List UInt8) {u : World} {v : Value} (ht : t.length ≤ 1000) (h : v = .string (S t)) :
    Calls Tryz.prog 41 #[v] u fun e w' => ∃ v, e = .returned v ∧ FD (.jv (JV.text t)) w' v ∧ Below u.heap.size u w' := by
  subst h
  exact text10_any t u (by unfold maxLen; omega)
/-- Encode of a value of which it is known what it is to tell -/
theorem enc_call {x : JV} {t : List UInt8} {z : Nat} (hE : ENC x = (t, z)) (v : Value) (w : World) (hwt : x.wt ≤ 90000) (hv : HV w v x) (hT : TabN w) :
    Calls Tryz.prog 25 #[v] w fun e w' => e = .returned (.tuple #[.string (S t), .int .i64 (z : Int)]) ∧ Below w.heap.size w w' := by
  have := Encode_any x v w hwt hv hT
  rw [hE] at this
  exact this
set_option maxHeartbeats 1000000 in
set_option maxRecDepth 3000 in
theorem is_any {x : JV} {t : List UInt8} (hE : ENC x = (t, 0)) (v : Value) (w : World) (hwt : x.wt ≤ 90000) (hv : HV w v x) (hT : TabN w) :
    Calls Tryz.prog 40 #[v, .string (S t)] w fun e w' => e = .returned (.bool true) ∧ Below w.heap.size w w' := by
  obtain ⟨cs, rfl, hc⟩ := hv
  obtain ⟨a, c, ca, cb, rfl, _, _, _⟩ := hc.form
  obtain ⟨K, hK⟩ : ∃ z : Int, z = (x.k : Int) := ⟨_, rfl⟩
  obtain ⟨N, hNN⟩ : ∃ z : Int, z = x.n := ⟨_, rfl⟩
  obtain ⟨T, hTT⟩ : ∃ z : ByteArray, z = S x.t := ⟨_, rfl⟩
  obtain ⟨p, hp⟩ : ∃ z : Nat, z = x.ns.length := ⟨_, rfl⟩
  obtain ⟨r, hr⟩ : ∃ z : Nat, z = x.is.length := ⟨_, rfl⟩
  have hv : HV w (.agg #[.int .u8 K, .int .i64 N, .string T, .slice a p ca, .slice c r cb]) x := by rw [hK, hNN, hTT, hp, hr]; exact ⟨_, rfl, hc⟩
  rw [← hK, ← hNN, ← hTT, ← hp, ← hr]
  show Calls _ _ #[.agg #[.int .u8 K, .int .i64 N, .string T, .slice a p ca, .slice c r cb], _] w _
  clear hc hK hNN hTT hp hr
  obtain ⟨W1, hW1⟩ : ∃ W, W = w.alloc (.cells #[.int .u8 K, .int .i64 N, .string T, .slice a p ca, .slice c r cb] 26) := ⟨_, rfl⟩
  have g1 : Below w.heap.size w W1 := by rw [hW1]; exact (Below.refl _ _).alloc (Nat.le_refl _) _
  have cE := enc_call hE _ W1 hwt (hv.below g1) (hT.below g1)
  have s1 := S_toList t
  have HG := Lib.hid g1
  clear hE hv hT g1
  go_enter Tryz.func40, Tryz.ntmps40
  go_wp2_with fail
  rw [← hW1]
  clear hW1
  refine cE.mono ?_; rintro e w2 ⟨rfl, b2⟩
  go_wp2_with fail
  go_ret
  exact ⟨rfl, HG.out.trans (b2.mono HG.out.size)⟩
theorem is_fd {X : JV} (t : List UInt8) (hE : ENC X = (t, 0)) {u : World} {v : Value} {c : ByteArray} (hwt : X.wt ≤ 90000) (hv : FD (.jv X) u v) (hT : TabN u) (hc : c = S t) :
    Calls Tryz.prog 40 #[v, .string c] u fun e w' => ∃ z, e = .returned z ∧ FD (.val (.bool true)) w' z ∧ Below u.heap.size u w' := by
  subst hc
  exact gl_ret (is_any hE v u hwt hv hT)
section
variable {Q : Exit → Act → World → Prop} {a : Act} {u : World} {o : Oper}
/-- a literal of a value: no field, but its Kind -/
theorem gl_bk {k : Nat} (hk : k < 256) (ho : o.op = .build 26 #[(0, .const (.int .u8 (k : Int)))]) : Gw o a u Q (.jv (.mk k 0 [] [] [])) := by
  refine wp_val (v := .agg #[.int .u8 (k : Int), .int .i64 0, .string ⟨#[]⟩, .slice none 0 0, .slice none 0 0]) ?_ ⟨_, rfl, HV.of _ k 0 [] [] [] none none 0 0 ⟨hk, by omega, Nat.zero_le _, Nat.zero_le _, Nat.zero_le _, fun x h => by simp at h⟩ (NS.nil _ _) (.inl rfl), Below.refl _ _⟩
  simp only [execOp, ho]
  kernel_rfl
/-- .. its Kind and N -/
theorem gl_bn {k : Nat} {n : Int} (hk : k < 256) (hn : -9223372036854775808 ≤ n ∧ n ≤ 9223372036854775807) (ho : o.op = .build 26 #[(0, .const (.int .u8 (k : Int))), (1, .const (.int .i64 n))]) : Gw o a u Q (.jv (.mk k n [] [] [])) := by
  refine wp_val (v := .agg #[.int .u8 (k : Int), .int .i64 n, .string ⟨#[]⟩, .slice none 0 0, .slice none 0 0]) ?_ ⟨_, rfl, HV.of _ k n [] [] [] none none 0 0 ⟨hk, hn, Nat.zero_le _, Nat.zero_le _, Nat.zero_le _, fun x h => by simp at h⟩ (NS.nil _ _) (.inl rfl), Below.refl _ _⟩
  simp only [execOp, ho]
  kernel_rfl
/-- .. its Kind and Items -/
theorem gl_bi {k : Nat} {x : Operand} {is : List JV} (hk : k < 256) (ho : o.op = .build 26 #[(0, .const (.int .u8 (k : Int))), (4, x)]) (hx : FD (.items is) u (a.eval x)) (hl : is.length ≤ 100) : Gw o a u Q (.jv (.mk k 0 [] [] is)) := by
  obtain ⟨b, cs, h1, h2, h3⟩ := hx
  refine wp_val (v := .agg #[.int .u8 (k : Int), .int .i64 0, .string ⟨#[]⟩, .slice none 0 0, .slice (some ⟨b, 0, none⟩) is.length is.length]) ?_ ⟨_, rfl, HV.of _ k 0 [] [] is none (some ⟨b, 0, none⟩) 0 is.length ⟨hk, by omega, Nat.zero_le _, Nat.zero_le _, by unfold maxLen; omega, fun x h => by simp at h⟩ (NS.nil _ _) (.inr ⟨b, 0, rfl, HI.of_block h2 h3⟩), Below.refl _ _⟩
  simp only [execOp, ho, List.map_toArray, List.map_cons, List.map_nil, h1]
  kernel_rfl
/-- .. its Kind, Names and Items -/
theorem gl_bo {k : Nat} {x y : Operand} {ns : List (List UInt8)} {is : List JV} (hk : k < 256) (ho : o.op = .build 26 #[(0, .const (.int .u8 (k : Int))), (3, x), (4, y)]) (hx : FD (.names ns) u (a.eval x)) (hy : FD (.items is) u (a.eval y)) (hl : is.length ≤ 100) (hn : ns.length ≤ 100) (hns : ∀ x ∈ ns, x.length ≤ 100) : Gw o a u Q (.jv (.mk k 0 [] ns is)) := by
  obtain ⟨b, cs, h1, h2, h3⟩ := hy
  obtain ⟨d, n1, n2⟩ := hx
  refine wp_val (v := .agg #[.int .u8 (k : Int), .int .i64 0, .string ⟨#[]⟩, .slice (some ⟨d, 0, none⟩) ns.length ns.length, .slice (some ⟨b, 0, none⟩) is.length is.length]) ?_ ⟨_, rfl, HV.of _ k 0 [] ns is (some ⟨d, 0, none⟩) (some ⟨b, 0, none⟩) ns.length is.length ⟨hk, by omega, Nat.zero_le _, by unfold maxLen; omega, by unfold maxLen; omega, fun x h => by have := hns x h; unfold maxLen; omega⟩ (NS.of_block n2) (.inr ⟨b, 0, rfl, HI.of_block h2 h3⟩), Below.refl _ _⟩
  simp only [execOp, ho, List.map_toArray, List.map_cons, List.map_nil, h1, n1]
  kernel_rfl
end
end

section
open Go.RowKit

/-- the chapter's example -/
def Jw : JV := .mk 5 0 [] [[97], [98]] [.mk 4 0 [] [] [JV.num 1, JV.yes], JV.text [120, 34, 121]]
theorem itoa_1 : Lib.itoa 1 = [49] := (Nm.itoa_is (by decide) 1).2 (by decide)
theorem enc_Jw : ENC Jw = ([123, 34, 97, 34, 58, 91, 49, 44, 116, 114, 117, 101, 93, 44, 34, 98, 34, 58, 34, 120, 92, 34, 121, 34, 125], 0) := by
  rw [ENC_ok (by decide)]
  unfold Jw JV.num JV.yes JV.text
  simp only [Cn.form, Cn.cat, Cn.mem, Cn.hd, itoa_1]
  rfl
theorem enc_nl : ENC (JV.text [10]) = ([34, 10, 34], 0) := by rw [ENC_ok (by decide)]; rfl
theorem enc_no : ENC (.mk 5 0 [] [] []) = ([123, 125], 0) := by rw [ENC_ok (by decide)]; rfl
theorem enc_b2 : ENC (.mk 1 2 [] [] []) = ([], 3) := ENC_no (by decide)
def Tcw : List (Option Tmp × Op × Option (Nat × Bool) × List Nat) :=
  [(some 12, Op.buildSlice 23 2 #[(0, Operand.const (Value.string { data := #[97] })), (1, Operand.const (Value.string { data := #[98] }))], none, []),
   (some 13, Op.load 26 (Operand.tmp 1), none, []),
   (some 14, Op.load 26 (Operand.tmp 2), none, []),
   (some 15, Op.buildSlice 24 2 #[(0, Operand.tmp 13), (1, Operand.tmp 14)], none, [1, 2]),
   (some 16, Op.build 26 #[(0, Operand.const (Value.int IntKind.u8 4)), (4, Operand.tmp 15)], none, [3]),
   (some 17, Op.call { callee := Callee.value (Operand.func 41), args := #[Operand.const (Value.string { data := #[120, 34, 121] })], argTypes := #[9] }, none, []),
   (some 18, Op.buildSlice 24 2 #[(0, Operand.tmp 16), (1, Operand.tmp 17)], none, [4, 5]),
   (some 19, Op.build 26 #[(0, Operand.const (Value.int IntKind.u8 5)), (3, Operand.tmp 12), (4, Operand.tmp 18)], none, [0, 6]),
   (some 20, Op.call { callee := Callee.value (Operand.func 40), args := #[Operand.tmp 19, Operand.const (Value.string { data := #[123, 34, 97, 34, 58, 91, 49, 44, 116, 114, 117, 101, 93, 44, 34, 98, 34, 58, 34, 120, 92, 34, 121, 34, 125] })], argTypes := #[26, 9] }, none, [7, 5]),
   (some 21, Op.move (Operand.tmp 20), none, [8, 8]),
   (some 22, Op.call { callee := Callee.value (Operand.func 41), args := #[Operand.const (Value.string { data := #[10] })], argTypes := #[9] }, some (9, true), [9, 9]),
   (some 23, Op.call { callee := Callee.value (Operand.func 40), args := #[Operand.tmp 22, Operand.const (Value.string { data := #[34, 10, 34] })], argTypes := #[26, 9] }, some (9, true), [10, 10, 9]),
   (some 24, Op.pick (Operand.tmp 21) (Operand.tmp 23) (Operand.const (Value.bool false)), none, [9, 11]),
   (some 25, Op.move (Operand.tmp 24), none, [12, 11]),
   (some 26, Op.build 26 #[(0, Operand.const (Value.int IntKind.u8 5))], some (13, true), [13]),
   (some 27, Op.call { callee := Callee.value (Operand.func 40), args := #[Operand.tmp 26, Operand.const (Value.string { data := #[123, 125] })], argTypes := #[26, 9] }, some (13, true), [14, 13, 13]),
   (some 28, Op.pick (Operand.tmp 25) (Operand.tmp 27) (Operand.const (Value.bool false)), none, [13, 15]),
   (some 29, Op.move (Operand.tmp 28), none, [16, 15]),
   (some 30, Op.move (Operand.tmp 4), some (17, true), [17]),
   (some 31, Op.binOp BinOp.eql 27 (Operand.tmp 30) (Operand.const (Value.int IntKind.i64 3)) 27, some (17, true), [18, 17]),
   (some 32, Op.pick (Operand.tmp 29) (Operand.tmp 31) (Operand.const (Value.bool false)), none, [17, 19]),
   (some 0, Op.assign (Operand.tmp 32), none, [20, 17, 0, 1, 2, 3, 4, 5, 6, 7, 8, 9, 10, 11, 12, 13, 14, 15, 16, 17, 18, 19, 20])]
def Scw : List Nat := [12, 13, 14, 15, 16, 17, 18, 19, 20, 21, 22, 23, 24, 25, 26, 27, 28, 29, 30, 31, 32, 0]
def Dcw (k : Nat) : Nat := Scw.getD k 0
def pcw (i : Nat) : Bool := Scw.contains i
set_option maxRecDepth 100000 in
theorem injcw : ∀ i, i < 22 → ∀ j, j < 22 → Dcw i = Dcw j → i = j := by decide +kernel
set_option maxHeartbeats 8000000 in
set_option maxRecDepth 100000 in
theorem region_cw {ops : Array Oper} {Q : Exit → Act → World → Prop} {A : Act} {id : Nat} {w1 : World}
    (hkey : ops.toList.map keyG = Tcw) (hlow : (List.range ops.size).all (fun i => match ops[i]? with | some o => o.after.all (fun e => !Region.binds .any e || decide (e.on < i)) | none => true) = true)
    (hsz : 32 < A.tmps.size) {ab bb : Nat} {a0 a1 a2 a3 a4 b0 b1 b2 b3 b4 : Value} (e1 : A.eval (.tmp 1) = .pointer (some ⟨ab, 0, none⟩)) (e2 : A.eval (.tmp 2) = .pointer (some ⟨bb, 0, none⟩)) (e4 : A.eval (.tmp 4) = .int .i64 3)
    (V1 : VAt ab w1 a0 a1 a2 a3 a4) (V2 : VAt bb w1 b0 b1 b2 b3 b4) (H1 : HV w1 (.agg #[a0, a1, a2, a3, a4]) (JV.num 1)) (H2 : HV w1 (.agg #[b0, b1, b2, b3, b4]) JV.yes) (hT : TabN w1)
    (fin : ∀ (f : Nat → Value) u, FD (.val (.bool true)) u (f 0) → Below w1.heap.size w1 u → Q .normal (putR A pcw f) u) : (Code.region id ops true).wp Tryz.prog Q A w1 := by
  refine wp_region_grow (by kernel_rfl) Tcw hkey hlow pcw Dcw ?_ injcw (Fl [(.names [[97], [98]]), (.jv (JV.num 1)), (.jv JV.yes), (.items [(JV.num 1), JV.yes]), (.jv (.mk 4 0 [] [] [JV.num 1, JV.yes])), (.jv (JV.text [120, 34, 121])), (.items [(.mk 4 0 [] [] [JV.num 1, JV.yes]), (JV.text [120, 34, 121])]), (.jv Jw), (.val (.bool true)), (.val (.bool true)), (.jv (JV.text [10])), (.val (.bool true)), (.val (.bool true)), (.val (.bool true)), (.jv (.mk 5 0 [] [] [])), (.val (.bool true)), (.val (.bool true)), (.val (.bool true)), (.val (.int .i64 3)), (.val (.bool true)), (.val (.bool true)), (.val (.bool true))]) (fun k u u2 v hb h => Fl.below _ k u u2 v hb h) (Gl [(.names [[97], [98]]), (.jv (JV.num 1)), (.jv JV.yes), (.items [(JV.num 1), JV.yes]), (.jv (.mk 4 0 [] [] [JV.num 1, JV.yes])), (.jv (JV.text [120, 34, 121])), (.items [(.mk 4 0 [] [] [JV.num 1, JV.yes]), (JV.text [120, 34, 121])]), (.jv Jw), (.val (.bool true)), (.val (.bool true)), (.jv (JV.text [10])), (.val (.bool true)), (.val (.bool true)), (.val (.bool true)), (.jv (.mk 5 0 [] [] [])), (.val (.bool true)), (.val (.bool true)), (.val (.bool true)), (.val (.int .i64 3)), (.val (.bool true)), (.val (.bool true)), (.val (.bool true))]) (fun k c u v h1 h2 => Gl.val _ k c u v h1 h2) ?_ ?_ ?_ ?_
  · intro k y hy
    rcases k with _ | _ | _ | _ | _ | _ | _ | _ | _ | _ | _ | _ | _ | _ | _ | _ | _ | _ | _ | _ | _ | _ | k
    all_goals simp only [Tcw, List.getElem?_cons_zero, List.getElem?_cons_succ, List.getElem?_nil, Option.some.injEq, reduceCtorEq] at hy
    all_goals subst hy
    all_goals exact ⟨rfl, rfl, Nat.lt_of_le_of_lt (by show (_ : Nat) ≤ 32; decide) hsz⟩
  · intro k y g b hy hg
    rcases k with _ | _ | _ | _ | _ | _ | _ | _ | _ | _ | _ | _ | _ | _ | _ | _ | _ | _ | _ | _ | _ | _ | k
    all_goals simp only [Tcw, List.getElem?_cons_zero, List.getElem?_cons_succ, List.getElem?_nil, Option.some.injEq, reduceCtorEq] at hy
    all_goals subst hy
    all_goals first | (cases hg; done) | (have h2 := Prod.mk.inj (Option.some.inj hg); obtain ⟨rfl, rfl⟩ := h2; exact ⟨by simp, _, rfl⟩)
  · intro k y u hy hw
    rcases k with _ | _ | _ | _ | _ | _ | _ | _ | _ | _ | _ | _ | _ | _ | _ | _ | _ | _ | _ | _ | _ | _ | k
    all_goals simp only [Tcw, List.getElem?_cons_zero, List.getElem?_cons_succ, List.getElem?_nil, Option.some.injEq, reduceCtorEq] at hy
    all_goals subst hy
    all_goals first | exact rfl | exact Bool.noConfusion (show true = false from hw)
  · intro k y a u hy hw hb hout hdep o hd hop
    rcases k with _ | _ | _ | _ | _ | _ | _ | _ | _ | _ | _ | _ | _ | _ | _ | _ | _ | _ | _ | _ | _ | _ | k
    all_goals simp only [Tcw, List.getElem?_cons_zero, List.getElem?_cons_succ, List.getElem?_nil, Option.some.injEq, reduceCtorEq] at hy
    all_goals subst hy
    · exact gl_names2 (l := [97]) (l' := [98]) _ _ hop rfl rfl
    · exact gl_load hop ((hout 1 rfl).trans e1) (V1.below hb) (H1.below hb)
    · exact gl_load hop ((hout 2 rfl).trans e2) (V2.below hb) (H2.below hb)
    · exact gl_items2 hop (show FD (.jv (JV.num 1)) u (a.eval (.tmp 13)) from hdep 1 (by simp)) (show FD (.jv JV.yes) u (a.eval (.tmp 14)) from hdep 2 (by simp))
    · exact gl_bi (k := 4) (by decide) hop (show FD (.items [(JV.num 1), JV.yes]) u (a.eval (.tmp 15)) from hdep 3 (by simp)) (by decide)
    · exact gl_call (d := (.jv (JV.text [120, 34, 121]))) 41 (args := #[(Value.string { data := #[120, 34, 121] })]) hop (by simp only [List.map_toArray, List.map_cons, List.map_nil] <;> rfl) (fun args w => by kernel_rfl) (text10_fd [120, 34, 121] (by decide) rfl)
    · exact gl_items2 hop (show FD (.jv (.mk 4 0 [] [] [JV.num 1, JV.yes])) u (a.eval (.tmp 16)) from hdep 4 (by simp)) (show FD (.jv (JV.text [120, 34, 121])) u (a.eval (.tmp 17)) from hdep 5 (by simp))
    · exact gl_bo (k := 5) (by decide) hop (show FD (.names [[97], [98]]) u (a.eval (.tmp 12)) from hdep 0 (by simp)) (show FD (.items [(.mk 4 0 [] [] [JV.num 1, JV.yes]), (JV.text [120, 34, 121])]) u (a.eval (.tmp 18)) from hdep 6 (by simp)) (by decide) (by decide) (by decide)
    · exact gl_call (d := (.val (.bool true))) 40 (args := #[a.eval (.tmp 19), (Value.string { data := #[123, 34, 97, 34, 58, 91, 49, 44, 116, 114, 117, 101, 93, 44, 34, 98, 34, 58, 34, 120, 92, 34, 121, 34, 125] })]) hop (by simp only [List.map_toArray, List.map_cons, List.map_nil] <;> rfl) (fun args w => by kernel_rfl) (is_fd [123, 34, 97, 34, 58, 91, 49, 44, 116, 114, 117, 101, 93, 44, 34, 98, 34, 58, 34, 120, 92, 34, 121, 34, 125] enc_Jw (by decide) (show FD (.jv Jw) u (a.eval (.tmp 19)) from hdep 7 (by simp)) (hT.below hb) rfl)
    · exact gl_move (d := (.val (.bool true))) hop (show FD (.val (.bool true)) u (a.eval (.tmp 20)) from hdep 8 (by simp))
    · exact gl_call (d := (.jv (JV.text [10]))) 41 (args := #[(Value.string { data := #[10] })]) hop (by simp only [List.map_toArray, List.map_cons, List.map_nil] <;> rfl) (fun args w => by kernel_rfl) (text10_fd [10] (by decide) rfl)
    · exact gl_call (d := (.val (.bool true))) 40 (args := #[a.eval (.tmp 22), (Value.string { data := #[34, 10, 34] })]) hop (by simp only [List.map_toArray, List.map_cons, List.map_nil] <;> rfl) (fun args w => by kernel_rfl) (is_fd [34, 10, 34] enc_nl (by decide) (show FD (.jv (JV.text [10])) u (a.eval (.tmp 22)) from hdep 10 (by simp)) (hT.below hb) rfl)
    · exact gl_and hop (show FD (.val (.bool true)) u (a.eval (.tmp 21)) from hdep 9 (by simp)) (fun _ => (show FD (.val (.bool true)) u (a.eval (.tmp 23)) from hdep 11 (by simp))) rfl
    · exact gl_move (d := (.val (.bool true))) hop (show FD (.val (.bool true)) u (a.eval (.tmp 24)) from hdep 12 (by simp))
    · exact gl_bk (k := 5) (by decide) hop
    · exact gl_call (d := (.val (.bool true))) 40 (args := #[a.eval (.tmp 26), (Value.string { data := #[123, 125] })]) hop (by simp only [List.map_toArray, List.map_cons, List.map_nil] <;> rfl) (fun args w => by kernel_rfl) (is_fd [123, 125] enc_no (by decide) (show FD (.jv (.mk 5 0 [] [] [])) u (a.eval (.tmp 26)) from hdep 14 (by simp)) (hT.below hb) rfl)
    · exact gl_and hop (show FD (.val (.bool true)) u (a.eval (.tmp 25)) from hdep 13 (by simp)) (fun _ => (show FD (.val (.bool true)) u (a.eval (.tmp 27)) from hdep 15 (by simp))) rfl
    · exact gl_move (d := (.val (.bool true))) hop (show FD (.val (.bool true)) u (a.eval (.tmp 28)) from hdep 16 (by simp))
    · exact gl_move (d := (.val (.int .i64 3))) hop ((hout 4 rfl).trans e4)
    · exact gl_eqi hop (show FD (.val (.int .i64 3)) u (a.eval (.tmp 30)) from hdep 18 (by simp)) rfl
    · exact gl_and hop (show FD (.val (.bool true)) u (a.eval (.tmp 29)) from hdep 17 (by simp)) (fun _ => (show FD (.val (.bool true)) u (a.eval (.tmp 31)) from hdep 19 (by simp))) rfl
    · exact gl_assign (d := (.val (.bool true))) hop (show FD (.val (.bool true)) u (a.eval (.tmp 32)) from hdep 20 (by simp))
  · intro f u hall hb
    exact fin f u (hall 21 (by decide)) hb
end

section
open Go.RowKit

set_option maxHeartbeats 4000000 in
set_option maxRecDepth 4000 in
theorem awake10_any (w : World) (hT : TabN w) : Calls Tryz.prog 24 #[] w fun e w' => e = .returned (.bool true) ∧ Below w.heap.size w w' := by
  obtain ⟨W1, hW1⟩ : ∃ W, W = w.alloc (.cells #[.int .u8 2, .int .i64 1, .string ⟨#[]⟩, .slice none 0 0, .slice none 0 0] 26) := ⟨_, rfl⟩
  obtain ⟨W2, hW2⟩ : ∃ W, W = W1.alloc (.cells #[.int .u8 1, .int .i64 1, .string ⟨#[]⟩, .slice none 0 0, .slice none 0 0] 26) := ⟨_, rfl⟩
  obtain ⟨q, hq⟩ : ∃ q, q = w.heap.size := ⟨_, rfl⟩
  have s1 : W1.heap.size = q + 1 := by rw [hW1, hq]; simp
  have b1 : Below w.heap.size w W1 := by rw [hW1]; exact (Below.refl _ _).alloc (Nat.le_refl _) _
  have b2 : Below W1.heap.size W1 W2 := by rw [hW2]; exact (Below.refl _ _).alloc (Nat.le_refl _) _
  have B2 : Below w.heap.size w W2 := b1.trans (b2.mono b1.size)
  have V1 : VAt q W1 (.int .u8 2) (.int .i64 1) (.string ⟨#[]⟩) (.slice none 0 0) (.slice none 0 0) := by rw [hW1, hq]; exact VAt.new ..
  have V2 : VAt (q + 1) W2 (.int .u8 1) (.int .i64 1) (.string ⟨#[]⟩) (.slice none 0 0) (.slice none 0 0) := by rw [hW2, ← s1]; exact VAt.new ..
  have V1' := V1.below b2
  have bare : ∀ (W : World) (k : Nat) (n : Int), k < 256 → (-9223372036854775808 ≤ n ∧ n ≤ 9223372036854775807) → HV W (.agg #[.int .u8 (k : Int), .int .i64 n, .string ⟨#[]⟩, .slice none 0 0, .slice none 0 0]) (.mk k n [] [] []) := fun W k n h1 h2 =>
    HV.of W k n [] [] [] none none 0 0 ⟨h1, h2, Nat.zero_le _, Nat.zero_le _, Nat.zero_le _, fun x h => by simp at h⟩ (NS.nil _ _) (.inl rfl)
  have cE := enc_call enc_b2 (.agg #[.int .u8 1, .int .i64 2, .string ⟨#[]⟩, .slice none 0 0, .slice none 0 0]) W2 (by decide) (bare W2 1 2 (by omega) (by omega)) (hT.below B2)
  have hS : S [] = (⟨#[]⟩ : ByteArray) := rfl
  rw [hS] at cE
  have HB2 := Lib.hid B2
  have HV1 := Lib.hid V1'
  have HV2 := Lib.hid V2
  have HBR := Lib.hid bare
  clear s1 b1 b2 B2 V1 V2 V1' bare hS
  go_enter Tryz.func24, Tryz.ntmps24
  go_wp2_with fail
  rw [← hW1, ← hW2, ← hq]
  clear hW1 hW2 hq
  refine cE.mono ?_; rintro e w3 ⟨rfl, b3⟩
  have H1 := HBR.out w3 2 1 (by omega) (by omega)
  have H2 := HBR.out w3 1 1 (by omega) (by omega)
  have V1 := HV1.out.below b3
  have V2 := HV2.out.below b3
  have B3 := HB2.out.trans (b3.mono HB2.out.size)
  have HB3 := Lib.hid B3
  have T3 := hT.below B3
  clear cE b3 B3
  go_wp2_with fail
  refine region_cw (by kernel_rfl) (by kernel_rfl) (by simp) rfl rfl rfl V1 V2 H1 H2 T3 (fun f u f0 b4 => ?_)
  have f0 : f 0 = .bool true := f0
  rw [putR_lit]
  simp only [putL, show ∀ i, pcw i = (Scw.contains i) from fun _ => rfl, Scw]
  simp
  rw [f0]
  go_wp2_with fail
  go_ret
  exact ⟨rfl, HB3.out.trans (b4.mono HB3.out.size)⟩
end

section
open Go.RowKit
namespace Qm

theorem one_byte (c : UInt8) : (c ≠ 34 → ∀ z, z ≤ 1 → one [c] ≠ (34, z, 0)) ∧ ∀ z, z ≤ 1 → one [c] ≠ (92, z, 0) := by
  have key : ∀ k : Fin 256, (UInt8.ofNat k.val ≠ 34 → ∀ z : Fin 2, one [UInt8.ofNat k.val] ≠ (34, z.val, 0)) ∧ ∀ z : Fin 2, one [UInt8.ofNat k.val] ≠ (92, z.val, 0) := by decide +kernel
  have := key ⟨c.toNat, c.toNat_lt⟩
  rw [show UInt8.ofNat c.toNat = c from UInt8.toNat.inj (by simp)] at this
  exact ⟨fun h z hz => this.1 h ⟨z, by omega⟩, fun z hz => this.2 ⟨z, by omega⟩⟩
theorem esc_le (l : List UInt8) : (esc l).length ≤ 2 * l.length := (esc_len l).2
theorem one_short {l : List UInt8} {r z : Nat} (h34 : l.head? ≠ some 34) (h : one l = (r, z, 0)) : (esc (Um.enc r)).length ≤ z := by
  obtain ⟨hg, hz⟩ := one_good h
  by_cases h1 : r < 128
  · have hl := esc_le (Um.enc r)
    rw [enc_1 h1] at hl
    by_cases h2 : 2 ≤ z
    · omega
    match l, h34, h with
    | [], _, h => simp [one] at h
    | c :: t, h34, h =>
      have h34 : c ≠ 34 := fun e => h34 (by rw [e]; rfl)
      have ht := hg.take 1 (by omega)
      rw [show (c :: t).take 1 = [c] from rfl] at ht
      have he : Um.enc r = [UInt8.ofNat r] := by unfold Um.enc; rw [if_pos h1]
      have hk : ∀ k : Fin 128, (esc [UInt8.ofNat k.val]).length ≤ 1 ∨ k.val = 34 ∨ k.val = 92 := by decide +kernel
      rcases hk ⟨r, h1⟩ with hk | hk | hk
      · rw [he]
        exact Nat.le_trans hk hz
      · have hk : r = 34 := hk
        rw [hk] at ht
        exact absurd ht ((one_byte c).1 h34 z (by omega))
      · have hk : r = 92 := hk
        rw [hk] at ht
        exact absurd ht ((one_byte c).2 z (by omega))
  · rw [esc_high _ (enc_high hg.rn (by omega))]
    exact hg.few
theorem RDF_short : ∀ (f : Nat) (r : List UInt8) (n : Nat) (v : List UInt8) (k : Nat), r.length < f → RDF r n = (v, k, 0) → (esc v).length + 1 ≤ k
  | 0, _, _, _, _, h, _ => by omega
  | f + 1, r, n, v, k, hf, h => by
    rcases RDF_cases r n with ⟨_, h2⟩ | ⟨t, _, h2⟩ | ⟨h34, q, z, ho, _, h2⟩ | ⟨e, he, h2⟩
    · rw [h] at h2
      simp at h2
    · rw [h] at h2
      simp only [Prod.mk.injEq] at h2
      rw [h2.1, h2.2.1]
      simp [esc]
    · rw [h] at h2
      obtain ⟨v', k', e', hx⟩ : ∃ v' k' e', RDF (r.drop z) (n + (Um.enc q).length) = (v', k', e') := ⟨_, _, _, rfl⟩
      rw [hx] at h2
      have h1 := (one_good ho).2
      have hlen := (one_good ho).1.len
      by_cases he : e' = 0
      · subst he
        rw [cons_ok] at h2
        simp only [Prod.mk.injEq, and_true] at h2
        have ih := RDF_short f (r.drop z) _ v' k' (by rw [List.length_drop]; omega) hx
        have h5 := one_short h34 ho
        rw [h2.1, h2.2, esc_append, List.length_append]
        omega
      · unfold cons at h2
        rw [if_neg he] at h2
        simp only [Prod.mk.injEq] at h2
        exact absurd h2.2.2.symm he
    · rw [h] at h2
      simp only [Prod.mk.injEq] at h2
      exact absurd h2.2.2.symm he
end Qm
namespace Rd
def wd (m : Lm.Mark) : Nat := m.b - m.a
def WW : List Lm.Mark → Nat
  | [] => 0
  | m :: ms => wd m + WW ms
/-- a mark has as many bytes as the form of what it says, at least -/
def MG (m : Lm.Mark) : Prop := 1 ≤ wd m ∧ (m.k = 7 → 4 ≤ wd m) ∧ (m.k = 8 → 5 ≤ wd m) ∧ (m.k = 9 → (Lib.itoa m.n).length ≤ wd m) ∧ (m.k = 10 → (Qm.quo m.t).length ≤ wd m)
def L4 : List JV → Nat
  | [] => 0
  | x :: xs => (Cn.form x).length + 1 + L4 xs
def L5 : List (List UInt8) → List JV → Nat
  | n :: ns, x :: xs => (Qm.quo n).length + 1 + (Cn.form x).length + 1 + L5 ns xs
  | _, _ => 0
theorem L4_snoc (xs : List JV) (x : JV) : L4 (xs ++ [x]) = L4 xs + (Cn.form x).length + 1 := by
  induction xs with
  | nil => simp [L4]
  | cons y xs ih => rw [List.cons_append, L4, L4, ih]; omega
theorem cat_L4 : ∀ xs : List JV, (Cn.cat true xs).length = L4 xs
  | [] => by rw [Cn.cat, L4]; rfl
  | x :: xs => by rw [Cn.cat_cons, L4, ← cat_L4 xs]; simp [Cn.hd]; omega
theorem mem_L5 : ∀ (ns : List (List UInt8)) (xs : List JV), ns.length = xs.length → (Cn.mem true ns xs).length = L5 ns xs
  | [], [], _ => by rw [Cn.mem, L5]; rfl; all_goals (intros; simp_all)
  | n :: ns, x :: xs, h => by rw [Cn.mem_cons, L5, ← mem_L5 ns xs (by simpa using h)]; simp [Cn.hd]; omega
theorem form_L4 {xs : List JV} (h : xs ≠ []) : (Cn.form (.mk 4 0 [] [] xs)).length = 1 + L4 xs := by
  cases xs with
  | nil => exact absurd rfl h
  | cons x xs => rw [Cn.form_4, Cn.cat_cons, L4, ← cat_L4 xs]; simp [Cn.hd]; omega
theorem form_L5 {ns : List (List UInt8)} {xs : List JV} (h : xs ≠ []) (hl : ns.length = xs.length) : (Cn.form (.mk 5 0 [] ns xs)).length = 1 + L5 ns xs := by
  match ns, xs, h, hl with
  | _, [], h, _ => exact absurd rfl h
  | n :: ns, x :: xs, _, hl => rw [Cn.form_5, Cn.mem_cons, L5, ← mem_L5 ns xs (by simpa using hl)]; simp [Cn.hd]; omega
theorem ins_L5 {l : List UInt8} {y : JV} : ∀ (ns : List (List UInt8)) (is : List JV), ns.length = is.length → L5 (insN l ns) (insI l y ns is) = L5 ns is + (Qm.quo l).length + (Cn.form y).length + 2
  | [], [], _ => by simp [insN, insI, L5]; omega
  | x :: xs, z :: zs, h => by
    rw [insN, insI]
    split
    · rw [L5, ins_L5 xs zs (by simpa using h), L5]; omega
    · rw [L5, L5]; omega
theorem atom_form {m : Lm.Mark} (hm : MG m) (h7 : 7 ≤ m.k) (h10 : m.k ≤ 10) : (Cn.form (atom m)).length ≤ wd m := by
  obtain ⟨_, g7, g8, g9, g10⟩ := hm
  unfold atom
  split
  · rename_i e; rw [Cn.form_1, if_pos rfl]; exact g7 e
  · split
    · rename_i e; rw [Cn.form_1, if_neg (by decide)]; exact g8 e
    · split
      · rename_i e; rw [Cn.form_2]; exact g9 e
      · rw [Cn.form_3]; exact g10 (by omega)
def FB : St → JV → List Lm.Mark → List Lm.Mark → Prop
  | .v, x, ms, r => (Cn.form x).length + WW r ≤ WW ms
  | .l acc, x, ms, r => (Cn.form x).length + WW r ≤ 1 + L4 acc + WW ms
  | .o ns is, x, ms, r => ns.length = is.length → (Cn.form x).length + WW r ≤ 1 + L5 ns is + WW ms
theorem P_short {E : Nat × Nat} : ∀ (f : Nat) (s : St) (ms : List Lm.Mark) (n d : Nat) (x : JV) (r : List Lm.Mark) (n' : Nat), P E f s ms n d = some (.ok x r n') → (∀ m ∈ ms, MG m) → FB s x ms r
  | 0, _, _, _, _, _, _, _, h, _ => by cases h
  | f + 1, .v, ms, n, d, x, r, n', h, hm => by
    have ih := P_short (E := E) f
    have hw := P_v h
    cases hw with
    | @atom m _ _ _ hb hn hk =>
      unfold begins at hb
      simp at hb
      have := atom_form (hm m List.mem_cons_self) (by omega) (by omega)
      show _ + _ ≤ _
      rw [WW]
      omega
    | @nolist m m1 _ _ _ h hn hd h1 =>
      have g1 := (hm m List.mem_cons_self).1
      have g2 := (hm m1 (List.mem_cons_of_mem _ List.mem_cons_self)).1
      show _ + _ ≤ _
      rw [Cn.form_4, Cn.cat, WW, WW]
      simp
      omega
    | @list m _ _ _ _ _ h hn hd h1 hr =>
      have g1 := (hm m List.mem_cons_self).1
      have := ih _ _ _ _ _ _ _ hr (fun z hz => hm z (List.mem_cons_of_mem _ hz))
      simp only [FB, L4] at this
      show _ + _ ≤ _
      rw [WW]
      omega
    | @noobj m m1 _ _ _ h hn hd h1 =>
      have g1 := (hm m List.mem_cons_self).1
      have g2 := (hm m1 (List.mem_cons_of_mem _ List.mem_cons_self)).1
      show _ + _ ≤ _
      rw [Cn.form_5, Cn.mem, WW, WW]
      simp
      omega
    | @obj m _ _ _ _ _ h hn hd h1 hr =>
      have g1 := (hm m List.mem_cons_self).1
      have := ih _ _ _ _ _ _ _ hr (fun z hz => hm z (List.mem_cons_of_mem _ hz)) rfl
      simp only [L5] at this
      show _ + _ ≤ _
      rw [WW]
      omega
  | f + 1, .l acc, ms, n, d, x, r, n', h, hm => by
    have ih := P_short (E := E) f
    have hw := P_l h
    cases hw with
    | @last y m1 ms2 n1 hv h1 =>
      have g1 := (hm m1 (P_rest hv _ List.mem_cons_self)).1
      have := ih _ _ _ _ _ _ _ hv hm
      simp only [FB, WW] at this
      show _ + _ ≤ _
      rw [form_L4 (by simp), L4_snoc]
      omega
    | @next y m1 ms2 n1 r hv h1 hr =>
      have g1 := (hm m1 (P_rest hv _ List.mem_cons_self)).1
      have k1 := ih _ _ _ _ _ _ _ hv hm
      have k2 := ih _ _ _ _ _ _ _ hr (fun z hz => hm z (P_rest hv z (List.mem_cons_of_mem _ hz)))
      simp only [FB, WW, L4_snoc] at k1 k2
      show _ + _ ≤ _
      omega
  | f + 1, .o ns is, ms, n, d, x, r, n', h, hm => by
    have ih := P_short (E := E) f
    have hw := P_o h
    intro hl
    cases hw with
    | @last m c ms n d y m3 ms4 n1 hk hnt hc hv h3 =>
      have hm2 : ∀ z ∈ ms, MG z := fun z hz => hm z (List.mem_cons_of_mem _ (List.mem_cons_of_mem _ hz))
      have gm := (hm m List.mem_cons_self).2.2.2.2 hk
      have gc := (hm c (List.mem_cons_of_mem _ List.mem_cons_self)).1
      have g3 := (hm2 m3 (P_rest hv _ List.mem_cons_self)).1
      have k1 := ih _ _ _ _ _ _ _ hv hm2
      simp only [FB, WW] at k1
      rw [form_L5 (by intro e; have := insI_len (l := m.t) (y := y) ns is hl; rw [e] at this; simp at this) (by rw [insN_len, insI_len _ _ hl, hl]), ins_L5 _ _ hl, WW, WW]
      omega
    | @next m c ms n d y m3 ms4 n1 r hk hnt hc hv h3 hr =>
      have hm2 : ∀ z ∈ ms, MG z := fun z hz => hm z (List.mem_cons_of_mem _ (List.mem_cons_of_mem _ hz))
      have gm := (hm m List.mem_cons_self).2.2.2.2 hk
      have gc := (hm c (List.mem_cons_of_mem _ List.mem_cons_self)).1
      have g3 := (hm2 m3 (P_rest hv _ List.mem_cons_self)).1
      have k1 := ih _ _ _ _ _ _ _ hv hm2
      have k2 := ih _ _ _ _ _ _ _ hr (fun z hz => hm2 z (P_rest hv z (List.mem_cons_of_mem _ hz))) (by rw [insN_len, insI_len _ _ hl, hl])
      rw [ins_L5 _ _ hl] at k2
      simp only [FB, WW] at k1
      rw [WW, WW]
      omega
end Rd
theorem punct_few (c : UInt8) : Lm.punct c ≤ 6 := by
  have key : ∀ k : Fin 256, Lm.punct (UInt8.ofNat k.val) ≤ 6 := by decide +kernel
  have := key ⟨c.toNat, c.toNat_lt⟩
  rw [show UInt8.ofNat c.toNat = c from UInt8.toNat.inj (by simp)] at this
  exact this
theorem tok_w {u : List UInt8} {m : Lm.Mark} (h : Lm.tok u = (m, 0)) (hk : m.k ≠ 11) : m.a = 0 ∧ Rd.MG m := by
  cases u with
  | nil =>
    rw [Lm.tok] at h
    simp only [Prod.mk.injEq, and_true] at h
    rw [← h] at hk
    exact absurd rfl hk
  | cons c r =>
    rw [Lm.tok] at h
    by_cases h1 : Lm.punct c ≠ 0
    · rw [if_pos h1] at h
      simp only [Prod.mk.injEq, and_true] at h
      rw [← h]
      have := punct_few c
      exact ⟨rfl, Nat.le_refl _, fun e => by (have e : Lm.punct c = 7 := e; omega), fun e => by (have e : Lm.punct c = 8 := e; omega), fun e => by (have e : Lm.punct c = 9 := e; omega), fun e => by (have e : Lm.punct c = 10 := e; omega)⟩
    rw [if_neg h1] at h
    by_cases h2 : c = 34
    · rw [if_pos h2] at h
      obtain ⟨v, k, e, hx⟩ : ∃ v k e, Qm.RDF r 0 = (v, k, e) := ⟨_, _, _, rfl⟩
      rw [hx] at h
      by_cases he : e = 0
      · subst he
        rw [if_pos rfl] at h
        simp only [Prod.mk.injEq, and_true] at h
        have g := Qm.RDF_short (r.length + 1) r 0 v k (by omega) hx
        rw [← h]
        refine ⟨rfl, show 1 ≤ 1 + k - 0 by omega, fun e => absurd e (show (10 : Nat) ≠ 7 by decide), fun e => absurd e (show (10 : Nat) ≠ 8 by decide), fun e => absurd e (show (10 : Nat) ≠ 9 by decide), fun _ => ?_⟩
        show (Qm.quo v).length ≤ 1 + k - 0
        unfold Qm.quo
        simp
        omega
      · rw [if_neg he] at h
        simp only [Prod.mk.injEq] at h
        exact absurd h.2 he
    rw [if_neg h2] at h
    by_cases h3 : Lm.numb c = true
    · rw [if_pos h3] at h
      unfold Lm.tokN at h
      obtain ⟨t, ht⟩ : ∃ t, t = (c :: r).takeWhile Nm.more := ⟨_, rfl⟩
      rw [← ht] at h
      by_cases hf : Nm.form t = true
      · rw [if_pos hf] at h
        split at h
        · simp only [Prod.mk.injEq, and_true] at h
          rw [← h]
          have hi := Nm.itoa_val hf
          have h1 : 1 ≤ t.length := by
            cases t with
            | nil => exact absurd hf (by decide)
            | cons => simp
          refine ⟨rfl, show 1 ≤ t.length - 0 by omega, fun e => absurd e (show (9 : Nat) ≠ 7 by decide), fun e => absurd e (show (9 : Nat) ≠ 8 by decide), fun _ => ?_, fun e => absurd e (show (9 : Nat) ≠ 10 by decide)⟩
          show (Lib.itoa (Nm.val t)).length ≤ t.length - 0
          rw [hi]
          omega
        · simp at h
      · rw [if_neg hf] at h
        simp at h
    rw [if_neg h3] at h
    split at h
    · simp only [Prod.mk.injEq, and_true] at h
      rw [← h]
      exact ⟨rfl, show 1 ≤ 4 - 0 by decide, fun _ => Nat.le_refl 4, fun e => absurd e (show (7 : Nat) ≠ 8 by decide), fun e => absurd e (show (7 : Nat) ≠ 9 by decide), fun e => absurd e (show (7 : Nat) ≠ 10 by decide)⟩
    · split at h
      · simp only [Prod.mk.injEq, and_true] at h
        rw [← h]
        exact ⟨rfl, show 1 ≤ 5 - 0 by decide, fun e => absurd e (show (8 : Nat) ≠ 7 by decide), fun _ => Nat.le_refl 5, fun e => absurd e (show (8 : Nat) ≠ 9 by decide), fun e => absurd e (show (8 : Nat) ≠ 10 by decide)⟩
      · simp at h
theorem mark_w {l : List UInt8} {p : Nat} {m : Lm.Mark} (hp : p ≤ l.length) (h : Lm.mark l p = (m, 0)) (hk : m.k ≠ 11) : Rd.MG m := by
  rw [Lm.mark_tok l p hp] at h
  obtain ⟨m0, e, hx⟩ : ∃ m0 e, Lm.tok (l.drop p) = (m0, e) := ⟨_, _, rfl⟩
  rw [hx] at h
  by_cases he : e = 0
  · subst he
    rw [Lm.put_ok] at h
    simp only [Prod.mk.injEq, and_true] at h
    have hk0 : m0.k ≠ 11 := by rw [← h] at hk; exact hk
    obtain ⟨h0, g⟩ := tok_w hx hk0
    have hw : Rd.wd m = Rd.wd m0 := by
      rw [← h]
      show p + m0.b - (p + m0.a) = m0.b - m0.a
      omega
    unfold Rd.MG at g ⊢
    rw [hw, ← h]
    exact g
  · rw [Lm.put_no _ _ he] at h
    simp only [Prod.mk.injEq] at h
    exact absurd h.2 he
theorem TS.short {l : List UInt8} {p : Nat} {ms : List Lm.Mark} {E : Nat × Nat} (h : TS l p ms E) : p ≤ l.length → Rd.WW ms + p ≤ l.length ∧ ∀ m ∈ ms, Rd.MG m := by
  induction h with
  | stop => intro hp; exact ⟨by simpa [Rd.WW] using hp, fun m hm => by cases hm⟩
  | bad => intro hp; exact ⟨by simpa [Rd.WW] using hp, fun m hm => by cases hm⟩
  | @more p m ms E h hk hs ih =>
    intro hp
    have hs := Lm.skip_le hp
    have hg := Lm.skip_ge l p
    have hw := mark_w hs h hk
    obtain ⟨ha, hb⟩ := mark_at hs h
    obtain ⟨i1, i2⟩ := ih hb
    refine ⟨?_, fun z hz => ?_⟩
    · have := hw.1
      unfold Rd.wd at this
      rw [Rd.WW]
      unfold Rd.wd
      omega
    · rcases List.mem_cons.1 hz with rfl | hz
      · exact hw
      · exact i2 z hz
/-- the form of what is read is no longer than its text -/
theorem form_short {s : List UInt8} {x : JV} {pl : Nat} (h : RdIs s x pl 0) : (Cn.form x).length ≤ s.length := by
  rcases h with ⟨_, _, _, h0⟩ | ⟨hl, ms, E, f, r, y, q, hT, hP, hR, h4, _⟩
  · omega
  obtain ⟨rfl, _⟩ := h4 rfl
  obtain ⟨k, n, rfl⟩ : ∃ k n, r = .ok x k n := by
    match r, hR with
    | .bad p e0, hR => exact absurd hR.1.symm hR.2.2
    | .ok z [] n, hR =>
      have h0 : E.2 = 0 := hR.1.symm
      exact ⟨[], n, by rw [hR.2.1 h0]⟩
    | .ok z (_ :: _) n, hR =>
      have : (0 : Nat) = 11 := hR.1
      omega
  obtain ⟨h1, h2⟩ := hT.short (Nat.zero_le _)
  have h3 : (Cn.form x).length + Rd.WW k ≤ Rd.WW ms := Rd.P_short _ _ _ _ _ _ _ _ hP h2
  omega
end

section
open Go.RowKit

/-- the operations -/
def TCp (s ot xt : Nat) : List (Option Tmp × Op × List Nat) :=
  [(some s, .fieldAddr 26 (.tmp ot) 4, []), (some (s + 1), .load 24 (.tmp s), [0]), (some (s + 2), .load 26 (.tmp xt), []),
  (some (s + 3), .call { callee := .value (.func 27), args := #[.tmp (s + 2)], argTypes := #[26] }, [2]),
  (some (s + 4), .buildSlice 24 1 #[(0, .tmp (s + 3))], [3]),
  (some (s + 5), .call { callee := .builtin .append, args := #[.tmp (s + 1), .tmp (s + 4)], argTypes := #[24, 24] }, [1, 4, 3]),
  (some (s + 6), .fieldAddr 26 (.tmp ot) 4, [0, 1, 2, 3, 4, 5]), (none, .store 24 (.tmp (s + 6)) (.tmp (s + 5)), [6, 5, 5, 0, 1, 2, 3, 4, 5])]
def VCp (fo vo xv u bs v' : Value) : Nat → Option Value
  | 0 => some fo | 1 => some vo | 2 => some xv | 3 => some u | 4 => some bs | 5 => some v' | 6 => some fo | _ => none
def pCp (s : Nat) : Nat → Bool := fun i => decide (s ≤ i) && decide (i ≤ s + 6)
/-- where the world stands -/
def WCp (w1 : World) (R : Value → World → Prop) (B2 : Value → World → World) (Post : Value → World → Value → World → Prop) (Fin : Value → World → Value → World → Prop) (u : Value) (w2 : World) (v' : Value) (listed : Array Bool) (w : World) : Prop :=
  (listed.getD 3 false = false → w = w1.drew) ∧ (listed.getD 3 false = true → R u w2 ∧ (listed.getD 4 false = false → w = w2)) ∧ (listed.getD 4 false = true → listed.getD 5 false = false → w = B2 u w2) ∧
  (listed.getD 5 false = true → listed.getD 7 false = false → Post u w2 v' w) ∧ (listed.getD 7 false = true → Fin u w2 v' w)
theorem WCp.keep {w1 : World} {R : Value → World → Prop} {B2 : Value → World → World} {Post Fin : Value → World → Value → World → Prop} {u : Value} {w2 : World} {v' : Value} {listed : Array Bool} {w : World} (h : WCp w1 R B2 Post Fin u w2 v' listed w)
    {k : Nat} (h3 : 3 ≠ k) (h4 : 4 ≠ k) (h5 : 5 ≠ k) (h7 : 7 ≠ k) : WCp w1 R B2 Post Fin u w2 v' (listed.setIfInBounds k true) w := by
  unfold WCp at *
  rw [getD_set_other h3, getD_set_other h4, getD_set_other h5, getD_set_other h7]
  exact h
section
variable {s ot xt : Nat} {listed : Array Bool}
theorem cp_4 (h : Closed (TCp s ot xt) listed) (h4 : listed.getD 4 false = true) : listed.getD 3 false = true ∧ listed.getD 2 false = true := by
  have h3 := h 4 _ rfl h4 3 (by simp)
  exact ⟨h3, h 3 _ rfl h3 2 (by simp)⟩
theorem cp_5 (h : Closed (TCp s ot xt) listed) (h5 : listed.getD 5 false = true) : listed.getD 4 false = true ∧ listed.getD 1 false = true ∧ listed.getD 0 false = true := by
  have h1 := h 5 _ rfl h5 1 (by simp)
  exact ⟨h 5 _ rfl h5 4 (by simp), h1, h 1 _ rfl h1 0 (by simp)⟩
theorem cp_7 (h : Closed (TCp s ot xt) listed) (h7 : listed.getD 7 false = true) : listed.getD 5 false = true := h 7 _ rfl h7 5 (by simp)
theorem unlisted {l : Array Bool} {k : Nat} (h : l.getD k true = false) : l.getD k false = false := by
  rcases e : l.getD k false with _ | _
  · rfl
  · exact (not_of_unlisted h e).elim
theorem not_t {b : Bool} (h : b = false) (h2 : b = true) : False := by rw [h] at h2; cases h2
theorem nt {b : Bool} (h : ¬ b = true) : b = false := Bool.eq_false_iff.2 h
end
set_option maxHeartbeats 2000000 in
set_option maxRecDepth 100000 in
theorem region_copy {ops : Array Oper} {Q : Exit → Act → World → Prop} {A : Act} {id : Nat} {w1 : World} (s ot xt : Nat)
    (hkey : ops.toList.map keyOf = (TCp s ot xt).map fun x => (x.1, x.2.1, true, x.2.2)) (hlow : (List.range ops.size).all (fun i => match ops[i]? with | some o => o.after.all (fun e => !Region.binds .any e || decide (e.on < i)) | none => true) = true)
    (hsz : s + 6 < A.tmps.size) (hot : ot < s) (hxt : xt < s)
    {B ob xb : Nat} {a0 a1 a2 a3 v c0 c1 c2 c3 c4 : Value} {n : Nat} {xs : List Value} {y : JV}
    (eo : A.eval (.tmp ot) = .pointer (some ⟨ob, 0, none⟩)) (ex : A.eval (.tmp xt) = .pointer (some ⟨xb, 0, none⟩))
    (hO : VAt ob w1 a0 a1 a2 a3 v) (hX : VAt xb w1 c0 c1 c2 c3 c4)
    (cC : Calls Tryz.prog 27 #[.agg #[c0, c1, c2, c3, c4]] w1.drew fun e w' => (∃ u, e = .returned u ∧ HO w1.heap.size w' u y) ∧ Below w1.heap.size w1 w')
    (hown : w1.ownsRow B 26 5 v n xs) (hB : B ≤ w1.heap.size) (hob : ob < B) (hn : n + 1 ≤ 90000)
    (fin : ∀ (f : Nat → Value) v' w' d0 d1 d2 d3 d4, VAt ob w' a0 a1 a2 a3 v' → w'.ownsRow B 26 5 v' (n + 1) (xs ++ [d0, d1, d2, d3, d4]) → HCp (fun b => w1.heap.size ≤ b ∧ some b ≠ v'.ownBlock) w' [d0, d1, d2, d3, d4] y → Kb ob v.ownBlock w1 w' →
      (v'.ownBlock = v.ownBlock ∨ ∃ g, v'.ownBlock = some g ∧ w1.heap.size ≤ g) → Q .normal (putR A (pCp s) f) w') :
    (Code.region id ops true).wp Tryz.prog Q A w1 := by
  obtain ⟨i0, hi0, hz0, hz1, hz2⟩ := info_parts info_val
  have b1 := below_drew w1
  have hlt : ob < w1.heap.size := (Array.getElem?_eq_some_iff.1 hO).1
  have hrow : ∀ k, v.ownBlock = some k → B ≤ k ∧ k < w1.heap.size := fun k e => hown.lt k e
  let R : Value → World → Prop := fun u w' => HO w1.heap.size w' u y ∧ Below w1.heap.size w1 w'
  let cs : Value → Array Value := fun u => match u with | .agg cs => cs | _ => #[]
  let B2 : Value → World → World := fun u w2 => w2.alloc (.cells (cs u) 26)
  let Post : Value → World → Value → World → Prop := fun u w2 v' w' => w'.ownsRow B 26 5 v' (n + 1) (xs ++ (cs u).toList) ∧ (B2 u w2).grownBy w' v.ownBlock ∧ (v'.ownBlock = v.ownBlock ∨ v'.ownBlock = some (B2 u w2).heap.size)
  let Fin : Value → World → Value → World → Prop := fun u w2 v' w' => VAt ob w' a0 a1 a2 a3 v' ∧ w'.ownsRow B 26 5 v' (n + 1) (xs ++ (cs u).toList) ∧ R u w2 ∧ Kb ob v.ownBlock w1 w' ∧ Kb ob v.ownBlock w2 w' ∧ (v'.ownBlock = v.ownBlock ∨ v'.ownBlock = some (B2 u w2).heap.size)
  have hRu : ∀ u w2, R u w2 → ∃ d0 d1 d2 d3 d4, u = .agg #[d0, d1, d2, d3, d4] ∧ HCp (fun b => w1.heap.size ≤ b) w2 [d0, d1, d2, d3, d4] y := fun u w2 h => by
    obtain ⟨cs, h1, h2⟩ := h.1.hcp
    obtain ⟨a, b, ca, cb, h3, _⟩ := h2.one
    subst h3
    exact ⟨_, _, _, _, _, h1, h2⟩
  have bB : ∀ u w2, R u w2 → Below w1.heap.size w1 (B2 u w2) := fun u w2 h => h.2.alloc h.2.size _
  have ldO : ∀ w, Below w1.heap.size w1 w → (Instr.loadAt 24 (.pointer (some ⟨ob, 4, none⟩))).run Tryz.prog w = .ok v w := fun w h => ld_one agg_items w ((hO.below h).cells.1.2.2.2.2)
  have ldX : (Instr.loadAt 26 (.pointer (some ⟨xb, 0, none⟩))).run Tryz.prog w1.drew = .ok (.agg #[c0, c1, c2, c3, c4]) w1.drew := ld_val _ fun j u hj => by
    obtain ⟨⟨p0, p1, p2, p3, p4⟩, _⟩ := (hX.below b1).cells
    rw [Nat.zero_add]
    rcases j with _ | _ | _ | _ | _ | j
    all_goals simp only [List.getElem?_cons_zero, List.getElem?_cons_succ, List.getElem?_nil, Option.some.injEq, reduceCtorEq] at hj
    all_goals subst hj
    all_goals assumption
  have hdr : w1.drew.heap.size = w1.heap.size := rfl
  refine wp_region_tab (by kernel_rfl) (TCp s ot xt) hkey hlow (pCp s) (fun listed f w => listed.size = 8 ∧ Closed (TCp s ot xt) listed ∧ ∃ u w2 v', Tbl s (VCp (.pointer (some ⟨ob, 4, none⟩)) v (.agg #[c0, c1, c2, c3, c4]) u (.slice (some ⟨w2.heap.size, 0, none⟩) 1 1) v') listed f ∧ WCp w1 R B2 Post Fin u w2 v' listed w) ?_ ?_ ?_
  · exact ⟨rfl, Closed.zero _ _, .int .i64 0, w1, .int .i64 0, Tbl.zero _ _ _ _, fun _ => rfl, fun h => (by simp [TCp] at h), fun h => (by simp [TCp] at h), fun h => (by simp [TCp] at h), fun h => (by simp [TCp] at h)⟩
  · intro listed f w i x hI hy hun hdep o hd hop
    obtain ⟨hs, hC, u, w2, v', hT, hW⟩ := hI
    have hC' := hC.set hy hdep
    have PO (j : Nat) (hj : j < s) : (putR A (pCp s) f).eval (.tmp j) = A.eval (.tmp j) := putR_out _ _ _ j (by unfold pCp; simp; omega)
    have EV (k : Nat) (z : Value) (hk : k ≤ 6) (hl : listed.getD k false = true) (hv : VCp (.pointer (some ⟨ob, 4, none⟩)) v (.agg #[c0, c1, c2, c3, c4]) u (.slice (some ⟨w2.heap.size, 0, none⟩) 1 1) v' k = some z) : (putR A (pCp s) f).eval (.tmp (s + k)) = z :=
      (putR_in A (pCp s) f (s + k) (by unfold pCp; simp; omega) (by omega)).trans (hT k z hl hv)
    have fin1 (k : Nat) (z : Value) (hk : k ≤ 6) (hC' : Closed (TCp s ot xt) (listed.setIfInBounds k true)) (hv : VCp (.pointer (some ⟨ob, 4, none⟩)) v (.agg #[c0, c1, c2, c3, c4]) u (.slice (some ⟨w2.heap.size, 0, none⟩) 1 1) v' k = some z) (ho : o.dst = some (s + k)) (w3 : World) (hW3 : WCp w1 R B2 Post Fin u w2 v' (listed.setIfInBounds k true) w3) :
        ∃ f', (putR A (pCp s) f).put o.dst z = putR A (pCp s) f' ∧ (listed.setIfInBounds k true).size = 8 ∧ Closed (TCp s ot xt) (listed.setIfInBounds k true) ∧ ∃ u w2 v', Tbl s (VCp (.pointer (some ⟨ob, 4, none⟩)) v (.agg #[c0, c1, c2, c3, c4]) u (.slice (some ⟨w2.heap.size, 0, none⟩) 1 1) v') (listed.setIfInBounds k true) f' ∧ WCp w1 R B2 Post Fin u w2 v' (listed.setIfInBounds k true) w3 :=
      ⟨_, by rw [ho]; exact putR_put _ _ _ (s + k) _ (by unfold pCp; simp; omega), by simpa using hs, hC', u, w2, v', hT.put hv, hW3⟩
    -- ahead of the append: nothing that was there has turned
    have AB (h5 : listed.getD 5 false = false) : Below w1.heap.size w1 w := by
      rcases e3 : listed.getD 3 false with _ | _
      · rw [hW.1 e3]; exact b1
      · obtain ⟨hR, h4⟩ := hW.2.1 e3
        rcases e4 : listed.getD 4 false with _ | _
        · rw [h4 e4]; exact hR.2
        · rw [hW.2.2.1 e4 h5]; exact bB _ _ hR
    rcases i with _ | _ | _ | _ | _ | _ | _ | _ | i
    all_goals simp only [TCp, List.getElem?_cons_zero, List.getElem?_cons_succ, List.getElem?_nil, Option.some.injEq, reduceCtorEq] at hy
    all_goals subst hy
    · exact op_field hop ((PO ot hot).trans eo) (fld4 ob w) (fin1 0 _ (by omega) hC' rfl hd w (hW.keep (by decide) (by decide) (by decide) (by decide)))
    · have h5 : listed.getD 5 false = false := nt fun h => not_of_unlisted hun (cp_5 hC h).2.1
      exact op_load hop (EV 0 _ (by omega) (hdep 0 (by simp)) rfl) (ldO w (AB h5)) (fin1 1 _ (by omega) hC' rfl hd w (hW.keep (by decide) (by decide) (by decide) (by decide)))
    · have h3 : listed.getD 3 false = false := nt fun h => not_of_unlisted hun (hC 3 _ rfl h 2 (by simp))
      obtain rfl := hW.1 h3
      exact op_load hop ((PO xt hxt).trans ex) ldX (fin1 2 _ (by omega) hC' rfl hd _ (hW.keep (by decide) (by decide) (by decide) (by decide)))
    · have h3 := unlisted hun
      obtain rfl := hW.1 h3
      have h4 : listed.getD 4 false = false := nt fun h => not_t h3 (cp_4 hC h).1
      have h5 : listed.getD 5 false = false := nt fun h => not_t h4 (cp_5 hC h).1
      have h7 : listed.getD 7 false = false := nt fun h => not_t h5 (cp_7 hC h)
      have hx2 := EV 2 _ (by omega) (hdep 2 (by simp)) rfl
      have hex := exec_call (P := Tryz.prog) (a := putR A (pCp s) f) (w := w1.drew) 27 (args := #[.agg #[c0, c1, c2, c3, c4]]) hop (by simp only [List.map_toArray, List.map_cons, List.map_nil, hx2]) (fun args w => by kernel_rfl)
      unfold Oper.wp
      rw [hex, Oper.upon_enter]
      refine cC.mono fun e w' ⟨⟨u2, he, h1⟩, h2⟩ => ?_
      subst he
      have hT2 : Tbl s (VCp (.pointer (some ⟨ob, 4, none⟩)) v (.agg #[c0, c1, c2, c3, c4]) u2 (.slice (some ⟨w'.heap.size, 0, none⟩) 1 1) v') listed f := fun k z hl hv => hT k z hl (by
        rcases k with _ | _ | _ | _ | _ | _ | _ | k
        all_goals first | exact hv | (exact (not_t h3 hl).elim) | (exact (not_t h4 hl).elim) | (exact (not_t h5 hl).elim))
      refine ⟨_, by rw [hd]; exact putR_put _ _ _ (s + 3) _ (by unfold pCp; simp), by simpa using hs, hC', u2, w', v', hT2.put rfl, fun h => ?_, fun _ => ⟨⟨h1, h2⟩, fun _ => rfl⟩, fun h => ?_, fun h => ?_, fun h => ?_⟩
      · rw [getD_set_self (by omega)] at h; cases h
      · rw [getD_set_other (by decide)] at h; exact (not_t h4 h).elim
      · rw [getD_set_other (by decide)] at h; exact (not_t h5 h).elim
      · rw [getD_set_other (by decide)] at h; exact (not_t h7 h).elim
    · have h4 := unlisted hun
      have h3 := hdep 3 (by simp)
      have h5 : listed.getD 5 false = false := nt fun h => not_t h4 (cp_5 hC h).1
      have h7 : listed.getD 7 false = false := nt fun h => not_t h5 (cp_7 hC h)
      obtain ⟨hR, hw⟩ := hW.2.1 h3
      obtain rfl := hw h4
      obtain ⟨d0, d1, d2, d3, d4, hu, hP⟩ := hRu u w hR
      subst hu
      have hx3 := EV 3 _ (by omega) h3 rfl
      refine wp_buildSlice 24 26 1 _ hop #[d0, d1, d2, d3, d4] i0 _ Tryz.underlying24 hi0 hz0 (by rw [hz1]; decide) (by rw [hz1]; decide) ?_ ?_
      · rw [hz1, show (#[(0, Operand.tmp (s + 3))].map fun x : Nat × Operand => (x.1, (putR A (pCp s) f).eval x.2)).toList = [(0, Value.agg #[d0, d1, d2, d3, d4])] by simp [hx3]]
        exact fill_val d0 d1 d2 d3 d4
      · refine fin1 4 _ (by omega) hC' rfl hd _ ⟨fun h => ?_, fun _ => ⟨hR, fun h => ?_⟩, fun _ _ => rfl, fun h => ?_, fun h => ?_⟩
        · rw [getD_set_other (by decide)] at h; exact (not_t h h3).elim
        · rw [getD_set_self (by omega)] at h; cases h
        · rw [getD_set_other (by decide)] at h; exact (not_t h5 h).elim
        · rw [getD_set_other (by decide)] at h; exact (not_t h7 h).elim
    · have h5 := unlisted hun
      have h4 := hdep 4 (by simp)
      have h3 := hdep 3 (by simp)
      have h7 : listed.getD 7 false = false := nt fun h => not_t h5 (cp_7 hC h)
      obtain ⟨hR, _⟩ := hW.2.1 h3
      obtain rfl := hW.2.2.1 h4 h5
      obtain ⟨d0, d1, d2, d3, d4, hu, hP⟩ := hRu u w2 hR
      subst hu
      have hown2 : (w2.alloc (.cells #[d0, d1, d2, d3, d4] 26)).ownsRow B 26 5 v n xs := (own_stay hown fun b hb => hR.2.block b (hrow b hb).2).alloc _
      obtain ⟨ya, yb, yca, ycb, hcs, _⟩ := hP.one
      simp only [List.cons.injEq, and_true] at hcs
      obtain ⟨e0, e1, e2, e3, e4⟩ := hcs
      have hone : ∀ u ∈ [d0, d1, d2, d3, d4], u.oneCell' = true := fun u hu => by
        simp only [List.mem_cons, List.not_mem_nil, or_false] at hu
        rcases hu with rfl | rfl | rfl | rfl | rfl
        · rw [e0]; rfl
        · rw [e1]; rfl
        · rw [e2]; rfl
        · rw [e3]; rfl
        · rw [e4]; rfl
      obtain ⟨v2, w', hr, g1, g2, _, g4⟩ := run_append_own_at (P := Tryz.prog) (w2.alloc (.cells #[d0, d1, d2, d3, d4] 26)) B 24 o.type 26 i0 (.agg V5) 5 80 Tryz.underlying24 hi0 hz0 hz1 hz2 rfl (by decide) v n xs hown2 ⟨w2.heap.size, 0, none⟩ 1 1 [d0, d1, d2, d3, d4] rfl
        (World.news_of_block (cs := #[d0, d1, d2, d3, d4]) (t := 26) (fr := (0, 0)) (heap_alloc_new w2 _)) hone (by unfold maxLen; omega) (by omega) (by have := hR.2.size; simp; omega)
      have hx1 := EV 1 _ (by omega) (hdep 1 (by simp)) rfl
      have hx4 := EV 4 _ (by omega) h4 rfl
      refine wp_val (v := v2) (w' := w') (by simp [execOp, hop, resolve, invoke, builtin, hx1, hx4, B2, cs, hr]) ?_
      have hT2 : Tbl s (VCp (.pointer (some ⟨ob, 4, none⟩)) v (.agg #[c0, c1, c2, c3, c4]) (.agg #[d0, d1, d2, d3, d4]) (.slice (some ⟨w2.heap.size, 0, none⟩) 1 1) v2) listed f := fun k z hl hv => hT k z hl (by
        rcases k with _ | _ | _ | _ | _ | _ | _ | k
        all_goals first | exact hv | (exact (not_t h5 hl).elim))
      refine ⟨_, by rw [hd]; exact putR_put _ _ _ (s + 5) _ (by unfold pCp; simp), by simpa using hs, hC', .agg #[d0, d1, d2, d3, d4], w2, v2, hT2.put rfl, fun h => ?_, fun _ => ⟨hR, fun h => ?_⟩, fun _ h => ?_, fun _ _ => ⟨g1, g2, g4⟩, fun h => ?_⟩
      · rw [getD_set_other (by decide)] at h; exact (not_t h h3).elim
      · rw [getD_set_other (by decide)] at h; exact (not_t h h4).elim
      · rw [getD_set_self (by omega)] at h; cases h
      · rw [getD_set_other (by decide)] at h; exact (not_t h7 h).elim
    · exact op_field hop ((PO ot hot).trans eo) (fld4 ob w) (fin1 6 _ (by omega) hC' rfl hd w (hW.keep (by decide) (by decide) (by decide) (by decide)))
    · have h5 := hdep 5 (by simp)
      have h7 := unlisted hun
      have h4 := hdep 4 (by simp)
      have h3 := hdep 3 (by simp)
      obtain ⟨hR, _⟩ := hW.2.1 h3
      obtain ⟨g1, g2, g4⟩ := hW.2.2.2.1 h5 h7
      have bb := bB u w2 hR
      have hO' : VAt ob w a0 a1 a2 a3 v := (g2.block ob (Nat.lt_of_lt_of_le hlt bb.size) (fun e => by have := (hrow ob e.symm).1; omega)).trans (hO.below bb)
      obtain ⟨⟨_, _, _, _, q4⟩, qf⟩ := hO'.cells
      obtain ⟨pp, ll, kk, rfl⟩ : ∃ pp ll kk, v' = .slice pp ll kk := by
        rcases g1.2 with ⟨rfl, _⟩ | ⟨g, cap, _, rfl, _⟩
        · exact ⟨_, _, _, rfl⟩
        · exact ⟨_, _, _, rfl⟩
      have hk2 : ∀ k, k < w2.heap.size → k ≠ ob → some k ≠ v.ownBlock → (w.setCell ⟨ob, 4, none⟩ (.slice pp ll kk)).heap[k]? = w2.heap[k]? := fun k hk hne hg => by
        rw [heap_setCell_other w ⟨ob, 4, none⟩ k _ hne, g2.block k (by simp [B2]; omega) hg]
        exact Below.heap_alloc w2 _ k hk
      refine op_store hop (EV 6 _ (by omega) (hdep 6 (by simp)) rfl) (EV 5 _ (by omega) h5 rfl) hd (st_slice (by kernel_rfl) w q4 (qf 4)) ⟨f, rfl, by simpa using hs, hC', u, w2, _, hT.skip rfl, fun h => ?_, fun _ => ⟨hR, fun h => ?_⟩, fun _ h => ?_, fun _ h => ?_, fun _ => ⟨hO'.set4 _, ownsRow_setCell_below g1 hob _, hR, ?_, ?_, g4⟩⟩
      · rw [getD_set_other (by decide)] at h; exact (not_t h h3).elim
      · rw [getD_set_other (by decide)] at h; exact (not_t h h4).elim
      · rw [getD_set_other (by decide)] at h; exact (not_t h h5).elim
      · rw [getD_set_self (by omega)] at h; cases h
      · exact ⟨g2.os.trans bb.os, g2.tape.trans bb.tape, g2.output.trans bb.output, Nat.le_trans bb.size (by have := g2.size; simpa using this), fun k hk hne hg => (hk2 k (Nat.lt_of_lt_of_le hk hR.2.size) hne hg).trans (hR.2.block k hk)⟩
      · exact ⟨g2.os, g2.tape, g2.output, Nat.le_trans (show w2.heap.size ≤ (w2.alloc (.cells (cs u) 26)).heap.size by simp) (Nat.le_trans g2.size (by simp)), hk2⟩
  · intro listed f w hI hall
    obtain ⟨hs, hC, u, w2, v', hT, hW⟩ := hI
    obtain ⟨f1, f2, f3, f4, f5, f6⟩ := hW.2.2.2.2 (hall 7 (by show 7 < 8; omega))
    obtain ⟨d0, d1, d2, d3, d4, hu, hP⟩ := hRu u w2 f3
    subst hu
    refine fin f v' w d0 d1 d2 d3 d4 f1 f2 ?_ f4 ?_
    · refine HCp.stay (fun b hb hl => ⟨⟨hb, ?_⟩, f5.block b hl (by omega) fun e => by have := (hrow b e.symm).2; omega⟩) _ _ hP
      rcases f6 with e | e
      · rw [e]
        intro e2
        have := (hrow b e2.symm).2
        omega
      · rw [e]
        intro e2
        simp [B2] at e2
        omega
    · rcases f6 with e | e
      · exact .inl e
      · exact .inr ⟨_, e, by have := f3.2.size; simp [B2]; omega⟩
end

section
open Go.RowKit

theorem own_set5 {w : World} {B b : Nat} {e : TypeId} {sz : Nat} {v : Value} {n : Nat} {xs : List Value} (h : w.ownsRow B e sz v n xs) (hb : b < B) (v0 v1 v2 v3 v4 : Value) :
    (((((w.setCell ⟨b, 0, none⟩ v0).setCell ⟨b, 1, none⟩ v1).setCell ⟨b, 2, none⟩ v2).setCell ⟨b, 3, none⟩ v3).setCell ⟨b, 4, none⟩ v4).ownsRow B e sz v n xs :=
  ownsRow_setCell_below (ownsRow_setCell_below (ownsRow_setCell_below (ownsRow_setCell_below (ownsRow_setCell_below h (a := ⟨b, 0, none⟩) hb v0) (a := ⟨b, 1, none⟩) hb v1) (a := ⟨b, 2, none⟩) hb v2) (a := ⟨b, 3, none⟩) hb v3) (a := ⟨b, 4, none⟩) hb v4
theorem ret_wo {u u' : Value} {a b : Bool} (h : u = u') (hb : a = b) : Ending.returned (.tuple #[u, .bool a]) = .returned (.tuple #[u', .bool b]) := by rw [h, hb]
end

section
open Go.RowKit

set_option maxHeartbeats 1000000 in
theorem bare_any (x : JV) (w : World) (v : Value) (hv : HV w v x) :
    Calls Tryz.prog 49 #[v] w fun e w' => e = .returned (.agg #[.int .u8 (x.k : Int), .int .i64 x.n, .string (S x.t), .slice none 0 0, .slice none 0 0]) ∧ Below w.heap.size w w' := by
  obtain ⟨cs, rfl, hc⟩ := hv
  obtain ⟨a, b, ca, cb, rfl, hB, hN, hI⟩ := hc.form
  have b1 : Below w.heap.size w ((w.alloc (.cells #[.int .u8 (x.k : Int), .int .i64 x.n, .string (S x.t), .slice a x.ns.length ca, .slice b x.is.length cb] 26)).alloc (.cells #[.int .u8 (x.k : Int), .int .i64 x.n, .string (S x.t), .slice none 0 0, .slice none 0 0] 26)) := ((Below.refl _ _).alloc (Nat.le_refl _) _).alloc (by simp) _
  have v1 := VAt.new (w.alloc (.cells #[.int .u8 (x.k : Int), .int .i64 x.n, .string (S x.t), .slice a x.ns.length ca, .slice b x.is.length cb] 26)) (.int .u8 (x.k : Int)) (.int .i64 x.n) (.string (S x.t)) (.slice none 0 0) (.slice none 0 0)
  rw [show (w.alloc (.cells #[.int .u8 (x.k : Int), .int .i64 x.n, .string (S x.t), .slice a x.ns.length ca, .slice b x.is.length cb] 26)).heap.size = w.heap.size + 1 by simp] at v1
  clear hc hB hN hI
  go_enter Tryz.func49, Tryz.ntmps49
  go_wp2_with fail
  refine bodyPost_ret (results_one (fn := Tryz.f49) (t := 2) rfl _ _ rfl v1 rfl) rfl ?_
  exact ⟨rfl, b1⟩
theorem run_append_none (W : World) (ty : TypeId) (c : Nat) : (Builtin.append_ #[23, 23] ty #[.slice none 0 0, .slice none 0 c]).run Tryz.prog W = .ok (.slice none 0 0) W := by
  have hu := Tryz.underlying23
  obtain ⟨i0, hi0, hz0, hz1, hz2⟩ := info_parts info_name
  simp [Builtin.append_, run_underlying hu, sizeOf, typeInfo, hi0, Builtin.lenOf, Builtin.firstCells]
/-- append(nil, names...) -/
theorem run_names (W : World) (ty : TypeId) (B : Nat) (hB : B ≤ W.heap.size) (a : Option Addr) (ca : Nat) (ns : List (List UInt8)) (hN : NS W a ns) (hl : ns.length ≤ 90000) :
    ∃ p l k w', (Builtin.append_ #[23, 23] ty #[.slice none 0 0, .slice a ns.length ca]).run Tryz.prog W = .ok (.slice p l k) w' ∧ w'.ownsRow B 9 1 (.slice p l k) ns.length (NC ns) ∧ W.grownBy w' none := by
  obtain ⟨i0, hi0, hz0, hz1, hz2⟩ := info_parts info_name
  cases a with
  | none =>
    have h0 : ns = [] := by
      rcases ns with _ | ⟨n, r⟩
      · rfl
      · obtain ⟨b, o, h, _⟩ := hN 0 n rfl
        cases h
    subst h0
    exact ⟨none, 0, 0, W, run_append_none W ty ca, World.ownsRow_nil _ _ _ _, ⟨rfl, rfl, rfl, Nat.le_refl _, fun _ _ _ => rfl⟩⟩
  | some ad =>
    obtain ⟨v', w', hr, g1, g2, _⟩ := run_append_own (P := Tryz.prog) W B 23 ty 9 i0 (.string ⟨#[]⟩) 1 16 Tryz.underlying23 hi0 hz0 hz1 hz2 rfl (by decide) _ 0 [] (World.ownsRow_nil _ _ _ _) ad ns.length ca (NC ns) (by simp [NC]) (fun j u hj => by
      have hx : ∃ x, ns[j]? = some x ∧ u = .string (S x) := by
        simp only [NC, List.getElem?_map, Option.map_eq_some_iff] at hj
        obtain ⟨x, h1, h2⟩ := hj
        exact ⟨x, h1, h2.symm⟩
      obtain ⟨x, h1, rfl⟩ := hx
      obtain ⟨b, o, h2, h3⟩ := hN j x h1
      obtain rfl : ad = ⟨b, o, none⟩ := by simpa using h2
      rw [show (⟨b, o, none⟩ : Addr).add j = ⟨b, o + j, none⟩ by unfold Addr.add; split <;> simp_all]
      exact h3) (fun u hu => by
      simp only [NC, List.mem_map] at hu
      obtain ⟨x, _, rfl⟩ := hu
      rfl) (by unfold maxLen; omega) (by omega) hB
    rw [Nat.zero_add, List.nil_append] at g1
    obtain ⟨p, l, k, rfl⟩ : ∃ pp ll kk, v' = .slice pp ll kk := by
      rcases g1.2 with ⟨rfl, _⟩ | ⟨g, cap, _, rfl, _⟩
      · exact ⟨_, _, _, rfl⟩
      · exact ⟨_, _, _, rfl⟩
    exact ⟨p, l, k, w', hr, g1, g2⟩
theorem own_mono {w : World} {B B' : Nat} {e : TypeId} {sz : Nat} {v : Value} {n : Nat} {xs : List Value} (h : w.ownsRow B e sz v n xs) (hb : B' ≤ B) : w.ownsRow B' e sz v n xs := by
  refine ⟨h.1, ?_⟩
  rcases h.2 with h1 | ⟨g, cap, cur, rfl, hg, r⟩
  · exact .inl h1
  · exact .inr ⟨g, cap, cur, rfl, by omega, r⟩
/-- what stands while a value is built up in block ob, its rows from B on -/
structure CpI (B ob : Nat) (w wr : World) (k0 n0 t0 : Value) (v0 v1 v2 v3 v4 : Value) (ns : List (List UInt8)) (is : List JV) : Prop where
  below : Below w.heap.size w wr
  hv : VAt w.heap.size wr v0 v1 v2 v3 v4
  hr : VAt (w.heap.size + 1) wr (.int .u8 0) (.int .i64 0) (.string ⟨#[]⟩) (.slice none 0 0) (.slice none 0 0)
  size : B ≤ wr.heap.size
  at1 : w.heap.size + 1 < ob
  at2 : ob < B
  own : ∃ pa la ka xv cs, VAt ob wr k0 n0 t0 (.slice pa la ka) xv ∧ wr.ownsRow B 9 1 (.slice pa la ka) ns.length (NC ns) ∧ wr.ownsRow B 26 5 xv is.length cs ∧
    HCSp (fun b => B ≤ b ∧ some b ≠ (Value.slice pa la ka).ownBlock ∧ some b ≠ xv.ownBlock) wr cs is
theorem CpI.mem {B ob : Nat} {w wr w' : World} {k0 n0 t0 v0 v1 v2 v3 v4 : Value} {ns : List (List UInt8)} {is : List JV} (h : CpI B ob w wr k0 n0 t0 v0 v1 v2 v3 v4 ns is) (hb : Below wr.heap.size wr w') : CpI B ob w w' k0 n0 t0 v0 v1 v2 v3 v4 ns is := by
  obtain ⟨h1, h2, h3, h4, h5, h6, pa, la, ka, xv, cs, g1, g2, g3, g4⟩ := h
  exact ⟨h1.trans (hb.mono h1.size), h2.below hb, h3.below hb, Nat.le_trans h4 hb.size, h5, h6, pa, la, ka, xv, cs, g1.below hb, own_stay g2 fun b e => hb.block b (g2.lt b e).2, own_stay g3 fun b e => hb.block b (g3.lt b e).2,
    HCSp.stay (fun b h hl => ⟨h, hb.block b hl⟩) _ _ g4⟩
/-- an Item more -/
theorem CpI.item {B ob : Nat} {w wr w' : World} {k0 n0 t0 v0 v1 v2 v3 v4 : Value} {ns : List (List UInt8)} {is : List JV} {y : JV} {pa : Option Addr} {la ka : Nat} {xv xv' : Value} {cs : List Value} {d0 d1 d2 d3 d4 : Value}
    (h1 : Below w.heap.size w wr) (h2 : VAt w.heap.size wr v0 v1 v2 v3 v4) (h3 : VAt (w.heap.size + 1) wr (.int .u8 0) (.int .i64 0) (.string ⟨#[]⟩) (.slice none 0 0) (.slice none 0 0)) (h4 : B ≤ wr.heap.size) (h5 : w.heap.size + 1 < ob) (h6 : ob < B)
    (g2 : wr.ownsRow B 9 1 (.slice pa la ka) ns.length (NC ns)) (g3 : wr.ownsRow B 26 5 xv is.length cs) (g4 : HCSp (fun b => B ≤ b ∧ some b ≠ (Value.slice pa la ka).ownBlock ∧ some b ≠ xv.ownBlock) wr cs is)
    (f1 : VAt ob w' k0 n0 t0 (.slice pa la ka) xv') (f2 : w'.ownsRow B 26 5 xv' (is.length + 1) (cs ++ [d0, d1, d2, d3, d4])) (f3 : HCp (fun b => wr.heap.size ≤ b ∧ some b ≠ xv'.ownBlock) w' [d0, d1, d2, d3, d4] y) (f4 : Kb ob xv.ownBlock wr w')
    (f5 : xv'.ownBlock = xv.ownBlock ∨ ∃ g, xv'.ownBlock = some g ∧ wr.heap.size ≤ g) : CpI B ob w w' k0 n0 t0 v0 v1 v2 v3 v4 ns (is ++ [y]) := by
  have hlt := fun k e => g3.lt k e
  have hN : w.heap.size + 1 < wr.heap.size := by omega
  refine ⟨f4.below h1 (by omega) (fun k e => by have := (hlt k e).1; omega), f4.vat h2 (by omega) (fun e => by have := (hlt _ e.symm).1; omega), f4.vat h3 (by omega) (fun e => by have := (hlt _ e.symm).1; omega), Nat.le_trans h4 f4.size, h5, h6, pa, la, ka, xv', _, f1,
    f4.own g2 h6 (own_apart g2 g3 (by decide)), ?_, HCSp.app (HCSp.stay (fun b hb hl => ⟨⟨hb.1, hb.2.1, ?_⟩, f4.block b hl (by have := hb.1; omega) hb.2.2⟩) _ _ g4) (HCSp.one (HCp.stay (fun b hb _ => ⟨⟨by omega, ?_, hb.2⟩, rfl⟩) _ _ f3))⟩
  · rw [List.length_append, List.length_singleton]
    exact f2
  · rcases f5 with e | ⟨g, e, hg⟩
    · rw [e]; exact hb.2.2
    · rw [e]
      intro e2
      simp only [Option.some.injEq] at e2
      omega
  · intro e
    have := (g2.lt b e.symm).2
    have := hb.1
    omega
set_option maxHeartbeats 4000000 in
set_option maxRecDepth 3000 in
theorem copy_any : ∀ (K : Nat) (x : JV), x.cnt ≤ K → x.wt ≤ 90000 → ∀ (w : World) (v : Value), HV w v x →
    Calls Tryz.prog 27 #[v] w fun e w' => (∃ u, e = .returned u ∧ HO w.heap.size w' u x) ∧ Below w.heap.size w w' := by
  intro K
  induction K with
  | zero => intro x h; have := x.cnt_pos; omega
  | succ K ih =>
  intro x hK hwt w v hv
  have hwe := x.wt_eq
  have hnl := JV.wn_len x.ns
  have hil := JV.len_le x.is
  have hic := JV.cnts_wt x.is
  obtain ⟨cs, rfl, hc⟩ := hv
  obtain ⟨a, b, ca, cb, rfl, hB, hN, hI⟩ := hc.form
  have hv1 : ∀ w', Below w.heap.size w w' → HV w' (.agg #[.int .u8 (x.k : Int), .int .i64 x.n, .string (S x.t), .slice a x.ns.length ca, .slice b x.is.length cb]) x := fun w' h => ⟨_, rfl, HC.below h x _ hc⟩
  obtain ⟨m, hm⟩ : ∃ m, x.is.length = m := ⟨_, rfl⟩
  have hm2 : (m : Int) ≤ 22500 := by omega
  have hr2 : x.ns.length ≤ 90000 := by omega
  have cB := fun w' h => bare_any x w' _ (hv1 w' h)
  have cN := fun W (h : Below w.heap.size w W) ty B hB => run_names W ty B hB a ca x.ns (hN.below h) hr2
  obtain ⟨r, hr⟩ : ∃ r, x.ns.length = r := ⟨_, rfl⟩
  rw [hm, hr] at cB
  rw [hr] at cN
  rw [hm, hr]
  obtain ⟨k0, hk0⟩ : ∃ z : Int, z = (x.k : Int) := ⟨_, rfl⟩
  obtain ⟨n0, hn0⟩ : ∃ z, z = x.n := ⟨_, rfl⟩
  obtain ⟨t0, ht0⟩ : ∃ z, z = x.t := ⟨_, rfl⟩
  rw [← hk0, ← hn0, ← ht0] at cB
  rw [← hk0, ← hn0, ← ht0]
  have HK := Lib.hid hk0
  have HNn := Lib.hid hn0
  have HTt := Lib.hid ht0
  have HM := Lib.hid hm
  have HR := Lib.hid hr
  have HJB := Lib.hid hB
  have HI1 := Lib.hid hI
  have HWT : Hid (∀ (i : Nat) y, x.is[i]? = some y → y.wt ≤ 90000 ∧ y.cnt ≤ K) := fun i y hy => by
    have := JV.wts_get hy
    have := JV.cnt_item hy
    omega
  obtain ⟨W1, hW1⟩ : ∃ W, W = w.alloc (.cells #[.int .u8 k0, .int .i64 n0, .string (S t0), .slice a r ca, .slice b m cb] 26) := ⟨_, rfl⟩
  obtain ⟨W2, hW2⟩ : ∃ W, W = W1.alloc (.cells #[.int .u8 0, .int .i64 0, .string ⟨#[]⟩, .slice none 0 0, .slice none 0 0] 26) := ⟨_, rfl⟩
  have b1 : Below w.heap.size w W1 := by rw [hW1]; exact (Below.refl _ _).alloc (Nat.le_refl _) _
  have b12 : Below W1.heap.size W1 W2 := by rw [hW2]; exact (Below.refl _ _).alloc (Nat.le_refl _) _
  have V1 : VAt w.heap.size W1 (.int .u8 k0) (.int .i64 n0) (.string (S t0)) (.slice a r ca) (.slice b m cb) := by rw [hW1]; exact VAt.new ..
  have V2 : VAt W1.heap.size W2 (.int .u8 0) (.int .i64 0) (.string ⟨#[]⟩) (.slice none 0 0) (.slice none 0 0) := by rw [hW2]; exact VAt.new ..
  have e1 : W1.heap.size = w.heap.size + 1 := by rw [hW1]; simp
  have e2 : W2.heap.size = w.heap.size + 2 := by rw [hW2]; simp [e1]
  rw [e1] at V2
  have V1 := V1.below b12
  have c2 := b1.trans (b12.mono b1.size)
  have CB := cB W2 c2
  have CN := Lib.hid cN
  obtain ⟨⟨p0, p1, p2, p3, p4⟩, _⟩ := V1.cells
  clear hwe hnl hil hic hB hN hI hc hv1 hm hr hk0 hn0 ht0 cB cN b1 b12 e1
  go_enter Tryz.func27, Tryz.ntmps27
  go_wp2_with fail
  rw [← hW1, ← hW2]
  clear hW1 hW2
  go_wp2_with fail
  refine CB.mono ?_; rintro e w3 ⟨rfl, b3⟩
  have V1 := V1.below b3
  have V2 := V2.below b3
  have c3 := c2.trans (b3.mono c2.size)
  have hs3 : w.heap.size + 2 ≤ w3.heap.size := by rw [← e2]; exact b3.size
  obtain ⟨W4, hW4⟩ : ∃ W, W = w3.alloc (.cells #[.int .u8 k0, .int .i64 n0, .string (S t0), .slice none 0 0, .slice none 0 0] 26) := ⟨_, rfl⟩
  have b34 : Below w3.heap.size w3 W4 := by rw [hW4]; exact (Below.refl _ _).alloc (Nat.le_refl _) _
  have V3 : VAt w3.heap.size W4 (.int .u8 k0) (.int .i64 n0) (.string (S t0)) (.slice none 0 0) (.slice none 0 0) := by rw [hW4]; exact VAt.new ..
  have e4 : W4.heap.size = w3.heap.size + 1 := by rw [hW4]; simp
  have V1 := V1.below b34
  have V2 := V2.below b34
  have c4 := c3.trans (b34.mono c3.size)
  clear p0 p1 p2 p3 p4
  obtain ⟨⟨p0, p1, p2, p3, p4⟩, _⟩ := V1.cells
  rw [hW4] at p3 p4
  clear p0 p1 p2 CB
  obtain ⟨pa, la, ka, w5, hr5, g1, g2⟩ := CN.out W4 c4 23 (w3.heap.size + 1) (by rw [e4]; exact Nat.le_refl _)
  have b45 : Below W4.heap.size W4 w5 := ⟨g2.os, g2.tape, g2.output, g2.size, fun k hk => g2.block k hk (by simp)⟩
  have V1' := V1.below b45
  have V2' := V2.below b45
  have V3' := V3.below b45
  have c5 := c4.trans (b45.mono c4.size)
  obtain ⟨⟨q0, q1, q2, q3, q4⟩, qf⟩ := V3'.cells
  obtain ⟨⟨z0, z1, z2, z3, z4⟩, _⟩ := V1'.cells
  rw [hW4] at hr5
  obtain ⟨ob, hob⟩ : ∃ ob, ob = w3.heap.size := ⟨_, rfl⟩
  have hs5 := b45.size
  have V1'' : VAt w.heap.size (w5.setCell ⟨ob, 3, none⟩ (.slice pa la ka)) (.int .u8 k0) (.int .i64 n0) (.string (S t0)) (.slice a r ca) (.slice b m cb) := by
    have := heap_setCell_other w5 ⟨ob, 3, none⟩ w.heap.size (.slice pa la ka) (show w.heap.size ≠ ob by omega)
    exact this.trans V1'
  have HC0 : Hid (CpI (ob + 1) ob w (w5.setCell ⟨ob, 3, none⟩ (.slice pa la ka)) (.int .u8 k0) (.int .i64 n0) (.string (S t0)) (.int .u8 k0) (.int .i64 n0) (.string (S t0)) (.slice a r ca) (.slice b m cb) x.ns []) := by
    refine ⟨c5.setCell (p := ⟨ob, 3, none⟩) (by show w.heap.size ≤ ob; omega) _, V1'', ?_, by simp; omega, by omega, by omega, pa, la, ka, .slice none 0 0, [], ?_, ?_, World.ownsRow_nil _ _ _ _, rfl⟩
    · exact (heap_setCell_other w5 ⟨ob, 3, none⟩ (w.heap.size + 1) (.slice pa la ka) (show w.heap.size + 1 ≠ ob by omega)).trans V2'
    · rw [hob]
      exact V3'.set3 _
    · rw [hob]
      have := ownsRow_setCell_below (a := ⟨w3.heap.size, 3, none⟩) g1 (show w3.heap.size < w3.heap.size + 1 by omega) (.slice pa la ka)
      rwa [HR.out]
  obtain ⟨⟨y0, y1, y2, y3, y4⟩, _⟩ := V1''.cells
  rw [hob] at y4
  clear V1 V2 V3 V1' V2' V3' V1'' c2 c3 c4 b3 b34 g1 y0 y1 y2 y3 z0 z1 z2 z3 z4
  go_wp2_with (at_builtin; refine Lib.wpList_append_run _ rfl _ _ _ _ rfl _ _ rfl rfl _ _ hr5 ?_)
  rw [← hob]
  obtain ⟨W6, hW6⟩ : ∃ W, W = w5.setCell ⟨ob, 3, none⟩ (.slice pa la ka) := ⟨_, rfl⟩
  rw [← hW6] at HC0
  rw [← hW6]
  clear hW6 hr5 g2 b45 q0 q1 q2 q3 q4 qf y4 p3 p4 c5 hs5 e4 hW4 hob
  go_loopw [17] (fun iv wr => ∃ i : Nat, iv = .int .i64 (i : Int) ∧ i ≤ m ∧ CpI (ob + 1) ob w wr (.int .u8 k0) (.int .i64 n0) (.string (S t0)) (.int .u8 k0) (.int .i64 n0) (.string (S t0)) (.slice a r ca) (.slice b m cb) x.ns (x.is.take i)) (fun iv _ => m - (intOf iv).toNat)
  case atStart => exact ⟨0, rfl, Nat.zero_le _, by rw [List.take_zero]; exact HC0.out⟩
  case round =>
    obtain ⟨i, rfl, hi, hW⟩ := hrel
    by_cases hlt : (i : Int) < (m : Int)
    · obtain ⟨y, hy⟩ : ∃ y, x.is[i]? = some y := ⟨x.is[i]'(by have := HM.out; omega), List.getElem?_eq_getElem _⟩
      obtain ⟨blk, off, rfl, hII⟩ := items_at HI1.out hy
      obtain ⟨c0, c1, c2, c3, c4, g0, g1, g2, g3, g4, hcy⟩ := (HI.below hW.below _ _ _ hII).get hy
      obtain ⟨ya, yb, yca, ycb, rfl, rfl, rfl, rfl, rfl⟩ := five hcy
      obtain ⟨hyw, hyc⟩ := HWT.out i y hy
      have hsn : Hid (x.is.take (i + 1) = x.is.take i ++ [y]) := JV.take_snoc hy
      have b9 : Below wr.heap.size wr (wr.alloc (.cells #[.int .u8 (y.k : Int), .int .i64 y.n, .string (S y.t), .slice ya y.ns.length yca, .slice yb y.is.length ycb] 26)) := (Below.refl _ _).alloc (Nat.le_refl _) _
      have X9 := VAt.new wr (.int .u8 (y.k : Int)) (.int .i64 y.n) (.string (S y.t)) (.slice ya y.ns.length yca) (.slice yb y.is.length ycb)
      have hW9 := hW.mem b9
      have hvy : HV (wr.alloc (.cells #[.int .u8 (y.k : Int), .int .i64 y.n, .string (S y.t), .slice ya y.ns.length yca, .slice yb y.is.length ycb] 26)).drew (.agg #[.int .u8 (y.k : Int), .int .i64 y.n, .string (S y.t), .slice ya y.ns.length yca, .slice yb y.is.length ycb]) y := ⟨_, rfl, HC.below b9.drew y _ hcy⟩
      have cY := (ih y hyc hyw _ _ hvy).mono (R' := fun e w' => (∃ u, e = .returned u ∧ HO (wr.alloc (.cells #[.int .u8 (y.k : Int), .int .i64 y.n, .string (S y.t), .slice ya y.ns.length yca, .slice yb y.is.length ycb] 26)).heap.size w' u y) ∧ Below (wr.alloc (.cells #[.int .u8 (y.k : Int), .int .i64 y.n, .string (S y.t), .slice ya y.ns.length yca, .slice yb y.is.length ycb] 26)).heap.size (wr.alloc (.cells #[.int .u8 (y.k : Int), .int .i64 y.n, .string (S y.t), .slice ya y.ns.length yca, .slice yb y.is.length ycb] 26)) w') fun e w' ⟨h1, h2⟩ => ⟨h1, (below_drew _).trans h2⟩
      have hl5 : (x.is.take i).length + 1 ≤ 90000 := by rw [List.length_take]; omega
      obtain ⟨h1, h2, h3, h4, h5, h6, pa, la, ka, xv, cs, f1, f2, f3, f4⟩ := hW9
      clear hW hcy hII hy hyw hyc hvy
      go_wp2_with fail
      clear g0 g1 g2 g3 g4
      obtain ⟨W9, hW9⟩ : ∃ W, W = wr.alloc (.cells #[.int .u8 (y.k : Int), .int .i64 y.n, .string (S y.t), .slice ya y.ns.length yca, .slice yb y.is.length ycb] 26) := ⟨_, rfl⟩
      rw [← hW9] at h1 h2 h3 h4 f1 f2 f3 f4 cY X9 b9
      rw [← hW9]
      clear hW9
      refine region_copy 21 3 5 (by kernel_rfl) (by kernel_rfl) (by simp) (by omega) (by omega) rfl rfl f1 X9 cY f3 h4 h6 hl5 (fun f v' w' d0 d1 d2 d3 d4 r1 r2 r3 r4 r5 => ?_)
      have HI2 : Hid (CpI (ob + 1) ob w w' (.int .u8 k0) (.int .i64 n0) (.string (S t0)) (.int .u8 k0) (.int .i64 n0) (.string (S t0)) (.slice a r ca) (.slice (some ⟨blk, off, none⟩) m cb) x.ns (x.is.take (i + 1))) := by
        rw [hsn.out]
        exact CpI.item h1 h2 h3 h4 h5 h6 f2 f3 f4 r1 r2 r3 r4 r5
      clear h1 h2 h3 h4 h5 h6 f1 f2 f3 f4 r1 r2 r3 r4 r5 cY X9 b9
      rw [putR_lit]
      simp only [putL, pCp, Nat.reduceAdd, Nat.reduceLeDiff, decide_true, decide_false, Bool.and_true, Bool.and_false, cond_true, cond_false, Nat.zero_add, Nat.le_refl]
      go_wp2_with fail
      go_roundw
      case rel => exact ⟨i + 1, by go_num, by omega, HI2.out⟩
      case measure => simp [intOf]; omega
    · obtain rfl : i = m := by omega
      have hall : x.is.take i = x.is := by rw [← HM.out]; exact List.take_length
      rw [hall] at hW
      obtain ⟨h1, h2, h3, h4, h5, h6, pa, la, ka, xv, cs, f1, f2, f3, f4⟩ := hW
      obtain ⟨xa, xl, xk, rfl⟩ : ∃ pp ll kk, xv = .slice pp ll kk := by
        rcases f3.2 with ⟨rfl, _⟩ | ⟨g, cap, _, rfl, _⟩
        · exact ⟨_, _, _, rfl⟩
        · exact ⟨_, _, _, rfl⟩
      obtain ⟨⟨q0, q1, q2, q3, q4⟩, qf⟩ := h3.cells
      obtain ⟨⟨y0, y1, y2, y3, y4⟩, yf⟩ := f1.cells
      have H1 := Lib.hid h1
      have H3 := Lib.hid h3
      have F2 := Lib.hid f2
      have F3 := Lib.hid f3
      have F4 := Lib.hid f4
      have H4 := Lib.hid h4
      clear h1 h2 h3 f1 f2 f3 f4 h4 hall
      go_wp2_with fail
      have HB5 := below_val (b := w.heap.size + 1) H1.out (by omega) (.int .u8 k0) (.int .i64 n0) (.string (S t0)) (.slice pa la ka) (.slice xa xl xk)
      refine bodyPost_ret (results_one (fn := Tryz.f27) (t := 2) rfl _ _ rfl (H3.out.set5 (.int .u8 k0) (.int .i64 n0) (.string (S t0)) (.slice pa la ka) (.slice xa xl xk)) rfl) rfl ?_
      have P1 := own_set5 F2.out (b := w.heap.size + 1) (by omega) (.int .u8 k0) (.int .i64 n0) (.string (S t0)) (.slice pa la ka) (.slice xa xl xk)
      have P2 := own_set5 F3.out (b := w.heap.size + 1) (by omega) (.int .u8 k0) (.int .i64 n0) (.string (S t0)) (.slice pa la ka) (.slice xa xl xk)
      refine ⟨⟨_, rfl, .slice pa la ka, .slice xa xl xk, cs, by rw [HK.out, HNn.out, HTt.out], HJB.out, own_mono P1 (by omega), own_mono P2 (by omega), HCSp.stay (fun b hb _ => ⟨⟨by have := hb.1; omega, hb.2⟩, ?_⟩) _ _ F4.out⟩, HB5⟩
      have hne : b ≠ w.heap.size + 1 := by have := hb.1; omega
      rw [heap_setCell_other _ ⟨w.heap.size + 1, 4, none⟩ b _ hne, heap_setCell_other _ ⟨w.heap.size + 1, 3, none⟩ b _ hne, heap_setCell_other _ ⟨w.heap.size + 1, 2, none⟩ b _ hne, heap_setCell_other _ ⟨w.heap.size + 1, 1, none⟩ b _ hne, heap_setCell_other _ ⟨w.heap.size + 1, 0, none⟩ b _ hne]
end
end Go.Proofs.YtpifbmcgadjhbaaGreatDoor
