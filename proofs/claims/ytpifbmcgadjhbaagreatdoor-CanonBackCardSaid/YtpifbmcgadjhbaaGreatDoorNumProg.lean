/-
  What num.Show, isFormed, Read come to: the library's functions by their contracts.
-/
import Derived.Test.YtpifbmcgadjhbaaGreatDoorNumText
import Derived.Test.YtpifbmcgadjhbaaGreatDoorShelf
import Derived.Lib.LaidTab
import Derived.Lib.AtoiErrMem
import Derived.BigQuiet
import Derived.Deep.QuietTactic
namespace Go.Proofs.YtpifbmcgadjhbaaGreatDoor
open Go.RowKit

/-- what the program's own table and its error read as -/
def TabN (w : World) : Prop := Lib.TabIs Tryz.prog w "internal/strconv.uint64pow10" .u64 Lib.pow10Tab ∧ ∃ tp p, w.var? Tryz.prog "strconv.ErrRange" = some #[.iface tp p]
theorem gPow : Tryz.prog.globalNamed "internal/strconv.uint64pow10" = some 0 := by kernel_rfl
theorem gRng : Tryz.prog.globalNamed "strconv.ErrRange" = some 5 := by kernel_rfl
theorem var_below {w w' : World} {n : String} {g : Nat} {cs : Array Value} (h : w.var? Tryz.prog n = some cs) (hg : Tryz.prog.globalNamed n = some g) (hb : Below w.heap.size w w') : w'.var? Tryz.prog n = some cs := by
  unfold World.var? at h ⊢
  rw [hg] at h ⊢
  simp only [Option.bind_some] at h ⊢
  have hlt : g < w.heap.size := by
    refine Nat.lt_of_not_le fun hc => ?_
    rw [Array.getElem?_eq_none hc] at h
    cases h
  rw [hb.block g hlt]
  exact h
theorem TabN.below {w w' : World} (h : TabN w) (hb : Below w.heap.size w w') : TabN w' := by
  obtain ⟨h1, tp, p, h2⟩ := h
  exact ⟨var_below h1 gPow hb, tp, p, var_below h2 gRng hb⟩
theorem below_lib (w : World) (q : Nat) (os : Array Obj) : Below w.heap.size w (Go.Sort.grow (w.drewN q) os) :=
  ⟨rfl, rfl, rfl, by simp [Go.Sort.grow], fun i hi => by
    show ((w.drewN q).heap ++ os)[i]? = _
    rw [Array.getElem?_append_left (by show i < w.heap.size; omega)]
    rfl⟩

/-- ten digits -/
def D10 : List UInt8 := [48, 49, 50, 51, 52, 53, 54, 55, 56, 57]
theorem numFormat_any (n : Int) (w : World) (hT : TabN w) (h0 : -9223372036854775808 ≤ n) (h1 : n ≤ 9223372036854775807) :
    Calls Tryz.prog 79 #[.int .i64 n, .int .i64 10] w fun e w' => e = .returned (.string (S (Lib.itoa n))) ∧ Below w.heap.size w w' :=
  (Any.strconv_FormatInt_10 laysM173 n h0 h1 w hT.1).mono fun _ _ ⟨h1, q, os, h2⟩ => ⟨h1, h2 ▸ below_lib w q os⟩
theorem numShow_any (n : Int) (w : World) (hT : TabN w) (h0 : -9223372036854775808 ≤ n) (h1 : n ≤ 9223372036854775807) :
    Calls Tryz.prog 64 #[.int .i64 n] w fun e w' => e = .returned (.string (S (Lib.itoa n))) ∧ Below w.heap.size w w' := by
  have H0 := Lib.hid h0
  have H1 := Lib.hid h1
  clear h0 h1
  go_enter Tryz.func64, Tryz.ntmps64
  go_wp2_with fail
  refine (numFormat_any n w hT H0.out H1.out).mono ?_; rintro e w1 ⟨rfl, hb⟩
  go_wp2_with fail
  go_ret
  exact ⟨rfl, hb⟩
theorem num_pre_any (t : List UInt8) (w : World) :
    Calls Tryz.prog 159 #[.string (S t), .string ⟨#[45]⟩] w fun e w' => e = .returned (.string (S (Nm.body t))) ∧ w = w' := by
  refine (Any.strings_TrimPrefix lays101 (S t) ⟨#[45]⟩ w).mono fun _ _ ⟨h1, h2⟩ => ⟨?_, h2.symm⟩
  rw [h1]
  refine ret_str ?_
  show S (Lib.trimPrefix t [45]) = _
  congr 1
  unfold Lib.trimPrefix Lib.hasPrefix Nm.body
  have : List.isPrefixOf [45] t = Nm.neg t := by
    cases t with
    | nil => rfl
    | cons a r =>
      show ((45 == a) && true) = (a == 45)
      rw [Bool.and_true, Bool.eq_iff_iff, beq_iff_eq, beq_iff_eq]
      exact ⟨fun h => h.symm, fun h => h.symm⟩
  rw [this]
  rfl
theorem trim_nil (t : List UInt8) : (Lib.trimS t D10 == []) = t.all Nm.dig := by
  have hd : ∀ b : UInt8, D10.contains b = Nm.dig b := fun b => by
    have h256 : ∀ k : Fin 256, D10.contains (UInt8.ofNat k.val) = Nm.dig (UInt8.ofNat k.val) := by decide +kernel
    have := h256 ⟨b.toNat, b.toNat_lt⟩
    rw [show UInt8.ofNat b.toNat = b from UInt8.ofNat_toNat] at this
    exact this
  have hdl : ∀ l : List UInt8, (l.dropWhile (D10.contains ·) = [] ↔ l.all Nm.dig = true) := fun l => by
    induction l with
    | nil => simp
    | cons a r ih =>
      rw [List.dropWhile_cons, List.all_cons, hd a]
      cases Nm.dig a with
      | false => simp
      | true => simpa using ih
  rw [Bool.eq_iff_iff, beq_iff_eq]
  unfold Lib.trimS Lib.trimLeftS
  rw [hdl]
  unfold Lib.trimRightS
  rw [List.all_reverse]
  constructor
  · intro h
    -- what is left behind the trailing digits consists of digits: so nothing is left, or all are digits
    by_cases hn : t.reverse.dropWhile (D10.contains ·) = []
    · rw [hdl, List.all_reverse] at hn
      exact hn
    · exfalso
      have h1 := List.head_dropWhile_not (D10.contains ·) hn
      have h2 := List.all_eq_true.1 h _ (List.head_mem hn)
      rw [hd] at h1
      rw [h2] at h1
      cases h1
  · intro h
    have : t.reverse.dropWhile (D10.contains ·) = [] := by rw [hdl, List.all_reverse]; exact h
    rw [this]
    rfl
theorem trim_any (t : List UInt8) (w : World) (hl : t.length ≤ 100000000) :
    Calls Tryz.prog 160 #[.string (S t), .string ⟨#[48, 49, 50, 51, 52, 53, 54, 55, 56, 57]⟩] w fun e w' => e = .returned (.string (S (Lib.trimS t D10))) ∧ Below w.heap.size w w' :=
  Any.strings_Trim_laid lays160 (by kernel_rfl) (S t) ⟨#[48, 49, 50, 51, 52, 53, 54, 55, 56, 57]⟩ w (by rw [S_size]; omega) (by decide) (ascii_of_all (by decide))
end Go.Proofs.YtpifbmcgadjhbaaGreatDoor
