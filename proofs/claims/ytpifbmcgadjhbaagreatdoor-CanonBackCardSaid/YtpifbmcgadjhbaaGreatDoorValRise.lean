/-
  Names that rise, texts that may be: what the document's rise and Text come to.
-/
import Derived.Test.YtpifbmcgadjhbaaGreatDoorValRefCnt
import Derived.Test.YtpifbmcgadjhbaaGreatDoorUtfRefNext
import Derived.BigQuiet
import Derived.Deep.QuietTactic
namespace Go.Proofs.YtpifbmcgadjhbaaGreatDoor
open Go.RowKit

namespace Jn
def lt (x y : List UInt8) : Bool := Op.bytesLess x y
theorem lt_irrefl : ∀ x : List UInt8, lt x x = false
  | [] => rfl
  | a :: x => by
    have := lt_irrefl x
    show (decide (a < a) || (a == a && Op.bytesLess x x)) = false
    have h : Op.bytesLess x x = false := this
    rw [h]
    simp
theorem lt_of_not : ∀ x y : List UInt8, (lt y x || y == x) = false → lt x y = true
  | [], [], h => by simp [lt, Op.bytesLess] at h
  | [], b :: y, _ => rfl
  | a :: x, [], h => by simp [lt, Op.bytesLess] at h
  | a :: x, b :: y, h => by
    unfold lt at h ⊢
    rw [Op.bytesLess] at h ⊢
    by_cases hab : a = b
    · subst hab
      have := lt_of_not x y
      unfold lt at this
      simp at h ⊢
      exact this (by simp [h])
    · by_cases h2 : a < b
      · simp [h2]
      · exfalso
        have h3 : b < a := by
          rw [UInt8.lt_iff_toNat_lt] at h2 ⊢
          have : a.toNat ≠ b.toNat := fun e => hab (UInt8.toNat.inj e)
          omega
        simp [h3] at h
theorem not_of_lt : ∀ x y : List UInt8, lt x y = true → (lt y x || y == x) = false
  | [], [], h => by simp [lt, Op.bytesLess] at h
  | [], b :: y, _ => by simp [lt, Op.bytesLess]
  | a :: x, [], h => by simp [lt, Op.bytesLess] at h
  | a :: x, b :: y, h => by
    unfold lt at h ⊢
    rw [Op.bytesLess] at h ⊢
    by_cases hab : a = b
    · subst hab
      have := not_of_lt x y
      unfold lt at this
      simp at h ⊢
      simpa using this h
    · have h2 : a < b := by simpa [hab] using h
      have h3 : ¬ b < a := by
        rw [UInt8.lt_iff_toNat_lt] at h2 ⊢
        omega
      simp [h3, Ne.symm hab]
/-- do names rise? -/
def rise : List (List UInt8) → Bool
  | [] => true
  | [_] => true
  | x :: y :: r => lt x y && rise (y :: r)
theorem rise_of : ∀ ns : List (List UInt8), (∀ j x y, ns[j]? = some x → ns[j + 1]? = some y → lt x y = true) → rise ns = true
  | [], _ => rfl
  | [_], _ => rfl
  | x :: y :: r, h => by
    unfold rise
    rw [h 0 x y rfl rfl, Bool.true_and]
    exact rise_of (y :: r) fun j a b ha hb => h (j + 1) a b ha hb
theorem rise_no : ∀ {ns : List (List UInt8)} {j : Nat} {x y : List UInt8}, ns[j]? = some x → ns[j + 1]? = some y → lt x y = false → rise ns = false
  | [], j, x, y, h, _, _ => by simp at h
  | [a], j, x, y, _, h, _ => by simp at h
  | a :: b :: r, 0, x, y, h1, h2, h3 => by
    obtain rfl : a = x := by simpa using h1
    obtain rfl : b = y := by simpa using h2
    unfold rise
    rw [h3, Bool.false_and]
  | a :: b :: r, j + 1, x, y, h1, h2, h3 => by
    unfold rise
    rw [rise_no (show (b :: r)[j]? = some x by simpa using h1) (show (b :: r)[j + 1]? = some y by simpa using h2) h3, Bool.and_false]
/-- may a text, or a name, be? -/
def txt (l : List UInt8) : Bool := (LEN l).2 && decide (l.length ≤ 4096)
end Jn
set_option maxHeartbeats 1000000 in
set_option maxRecDepth 3000 in
theorem refRise_any (ns : List (List UInt8)) (a : Option Addr) (ca : Nat) (w : World) (hN : NS w a ns) (hl : ns.length ≤ 9223372036854775806) :
    Calls Tryz.prog 58 #[.slice a ns.length ca] w fun e w' => e = .returned (.bool (Jn.rise ns)) ∧ Below w.heap.size w w' := by
  obtain ⟨m, hm⟩ : ∃ m, ns.length = m := ⟨_, rfl⟩
  rw [hm]
  have HM := Lib.hid hm
  have hm2 : (m : Int) ≤ 9223372036854775806 := by omega
  clear hm hl
  go_enter Tryz.func58, Tryz.ntmps58
  go_wp2_with fail
  go_loopw [3] (fun iv wr => ∃ i : Nat, iv = .int .i64 ((i : Int) + 1) ∧ i ≤ m ∧ Hid (∀ j x y, j < i → ns[j]? = some x → ns[j + 1]? = some y → Jn.lt x y = true) ∧ NS wr a ns ∧ Below w.heap.size w wr) (fun iv _ => m + 1 - (intOf iv).toNat)
  case atStart => exact ⟨0, rfl, Nat.zero_le _, fun j x y h => by omega, hN, Below.refl _ _⟩
  case round =>
    clear hN
    obtain ⟨i, rfl, hi, HI, hN, hb⟩ := hrel
    by_cases hlt : (i : Int) + 1 < (m : Int)
    · obtain ⟨x, hx⟩ : ∃ x, ns[i]? = some x := ⟨ns[i]'(by have := HM.out; omega), List.getElem?_eq_getElem _⟩
      obtain ⟨y, hy⟩ : ∃ y, ns[i + 1]? = some y := ⟨ns[i + 1]'(by have := HM.out; omega), List.getElem?_eq_getElem _⟩
      obtain ⟨b, o, rfl, g0⟩ := hN i x hx
      obtain ⟨b', o', e1, g1⟩ := hN (i + 1) y hy
      obtain ⟨rfl, rfl⟩ : b = b' ∧ o = o' := by simpa using e1
      obtain ⟨i1, hi1⟩ : ∃ i1 : Nat, i1 = i + 1 := ⟨_, rfl⟩
      rw [← hi1] at g1
      have hI1 : (i : Int) + 1 = (i1 : Int) := by omega
      have hI0 : (i1 : Int) - 1 = (i : Int) := by omega
      have hl1 : (i1 : Int) < (m : Int) := by omega
      have hl0 : (i : Int) < (m : Int) := by omega
      have HX := Lib.hid hx
      have HY := Lib.hid hy
      have H1 := Lib.hid hi1
      have s1 := S_toList x
      have s2 := S_toList y
      have a9 : ∀ n, Below wr.heap.size wr (wr.drewN n) := fun n => ⟨rfl, rfl, rfl, Nat.le_refl _, fun _ _ => rfl⟩
      clear hx hy hi1 e1
      rw [hI1]
      by_cases hle : (Op.bytesLess y x || y == x) = true
      · have HF : Hid (Jn.rise ns = false) := Jn.rise_no HX.out HY.out (by
          cases h : Jn.lt x y with
          | false => rfl
          | true =>
            have := Jn.not_of_lt x y h
            unfold Jn.lt at this
            rw [hle] at this
            cases this)
        go_wp2_with fail
        go_quiet (fail)
        go_wp2_with fail
        go_ret
        exact ⟨ret_bool HF.out.symm, hb.trans ((a9 _).mono hb.size)⟩
      · have hle' : (Op.bytesLess y x || y == x) = false := Bool.eq_false_iff.2 hle
        have HT : Hid (Jn.lt x y = true) := Jn.lt_of_not x y hle'
        clear hle
        go_wp2_with fail
        go_quiet (fail)
        go_wp2_with fail
        go_roundw
        case rel =>
          refine ⟨i + 1, by go_num, by omega, ?_, fun k z hz => ?_, hb.trans ((a9 _).mono hb.size)⟩
          · intro j p q hj hp hq
            by_cases hji : j < i
            · exact HI.out j p q hji hp hq
            · obtain rfl : j = i := by omega
              rw [HX.out] at hp
              rw [HY.out] at hq
              obtain rfl : x = p := by simpa using hp
              obtain rfl : y = q := by simpa using hq
              exact HT.out
          · exact (hN.below (a9 _)) k z hz
        case measure => simp [intOf]; omega
    · have HT : Hid (Jn.rise ns = true) := Jn.rise_of ns fun j x y hx hy => HI.out j x y (by have := (List.getElem?_eq_some_iff.1 hy).1; have := HM.out; omega) hx hy
      go_wp2_with fail
      go_ret
      exact ⟨ret_bool HT.out.symm, hb⟩
theorem refText_any (l : List UInt8) (w : World) (hl : l.length ≤ 100000000) :
    Calls Tryz.prog 57 #[.string (S l)] w fun e w' => e = .returned (.bool (Jn.txt l)) ∧ Below w.heap.size w w' := by
  have z1 := S_size l
  obtain ⟨c, b, hL⟩ : ∃ c b, LEN l = (c, b) := ⟨_, _, rfl⟩
  have cL := fun w => refLen_at (Below.refl _ w) l hl hL
  have HL : Hid (Jn.txt l = (b && decide (l.length ≤ 4096))) := by unfold Jn.txt Hid; rw [hL]
  clear hL
  cases b with
  | false =>
    go_enter Tryz.func57, Tryz.ntmps57
    go_wp2_with fail
    refine (cL _).mono ?_; rintro e w1 ⟨rfl, b1⟩
    go_wp2_with fail
    go_ret
    exact ⟨ret_bool HL.out.symm, b1⟩
  | true =>
    by_cases h4 : (l.length : Int) ≤ 4096
    · have HL : Hid (Jn.txt l = true) := by rw [Hid, HL.out]; simp; omega
      go_enter Tryz.func57, Tryz.ntmps57
      go_wp2_with fail
      refine (cL _).mono ?_; rintro e w1 ⟨rfl, b1⟩
      go_wp2_with fail
      go_ret
      exact ⟨ret_bool HL.out.symm, b1⟩
    · have HL : Hid (Jn.txt l = false) := by rw [Hid, HL.out]; simp; omega
      go_enter Tryz.func57, Tryz.ntmps57
      go_wp2_with fail
      refine (cL _).mono ?_; rintro e w1 ⟨rfl, b1⟩
      go_wp2_with fail
      go_ret
      exact ⟨ret_bool (by rw [HL.out, decide_eq_false_iff_not]; omega), b1⟩
end Go.Proofs.YtpifbmcgadjhbaaGreatDoor
