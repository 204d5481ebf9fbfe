/-
  Marks of bytes (no program): blanks, words, the mark at a place, all marks.
-/
import Derived.Test.YtpifbmcgadjhbaaGreatDoorQuoteRead
import Derived.Test.YtpifbmcgadjhbaaGreatDoorNumForm
import Derived.Test.YtpifbmcgadjhbaaGreatDoorText
namespace Go.Proofs.YtpifbmcgadjhbaaGreatDoor
open Go.RowKit
namespace Lm
structure Mark where
  k : Nat
  a : Nat
  b : Nat
  n : Int
  t : List UInt8
def zero : Mark := ⟨0, 0, 0, 0, []⟩
def MV (m : Mark) : Value := .agg #[.int .u8 (m.k : Int), .int .i64 (m.a : Int), .int .i64 (m.b : Int), .int .i64 m.n, .string (S m.t)]
def ws (b : UInt8) : Bool := b == 32 || b == 9 || b == 10 || b == 13
def az (b : UInt8) : Bool := decide (97 ≤ b.toNat) && decide (b.toNat ≤ 122)
/-- how many bytes of the kind f stand at p -/
def run (f : UInt8 → Bool) (l : List UInt8) (p : Nat) : Nat := ((l.drop p).takeWhile f).length
def skip (l : List UInt8) (p : Nat) : Nat := p + run ws l p
def punct (b : UInt8) : Nat := if b = 123 then 1 else if b = 125 then 2 else if b = 91 then 3 else if b = 93 then 4 else if b = 44 then 5 else if b = 58 then 6 else 0
def numb (b : UInt8) : Bool := Nm.dig b || b == 45 || b == 43 || b == 46
def word (l : List UInt8) (p : Nat) : List UInt8 := (l.drop p).takeWhile az
def TRUE : List UInt8 := [116, 114, 117, 101]
def FALSE : List UInt8 := [102, 97, 108, 115, 101]
/-- the mark at p, where no blank stands -/
def mark (l : List UInt8) (p : Nat) : Mark × Nat :=
  match l.drop p with
  | [] => (⟨11, p, p, 0, []⟩, 0)
  | c :: _ =>
    if punct c ≠ 0 then (⟨punct c, p, p + 1, 0, []⟩, 0)
    else if c = 34 then (if (Qm.RD l (p : Int)).2.2 = 0 then (⟨10, p, (Qm.RD l (p : Int)).2.1, 0, (Qm.RD l (p : Int)).1⟩, 0) else (zero, (Qm.RD l (p : Int)).2.2))
    else if numb c then (if (Nm.READ l (p : Int)).2.2 = 0 then (⟨9, p, (Nm.READ l (p : Int)).2.1.toNat, (Nm.READ l (p : Int)).1, []⟩, 0) else (zero, (Nm.READ l (p : Int)).2.2.toNat))
    else if word l p = TRUE then (⟨7, p, p + 4, 0, []⟩, 0)
    else if word l p = FALSE then (⟨8, p, p + 5, 0, []⟩, 0)
    else (zero, 3)
def NEXT (l : List UInt8) (a : Int) : Mark × Nat := if 0 ≤ a ∧ a ≤ (l.length : Int) then mark l (skip l a.toNat) else (zero, 1)

theorem run_cons {f : UInt8 → Bool} {l : List UInt8} {p : Nat} {d : UInt8} (h : l.drop p = d :: l.drop (p + 1)) (hf : f d = true) : run f l p = run f l (p + 1) + 1 := by
  unfold run
  rw [h, List.takeWhile_cons, if_pos hf, List.length_cons]
theorem run_stop {f : UInt8 → Bool} {l : List UInt8} {p : Nat} {d : UInt8} (h : l.drop p = d :: l.drop (p + 1)) (hf : f d = false) : run f l p = 0 := by
  unfold run
  rw [h, List.takeWhile_cons, if_neg (by rw [hf]; exact Bool.false_ne_true)]
  rfl
theorem run_end {f : UInt8 → Bool} {l : List UInt8} {p : Nat} (h : l.length ≤ p) : run f l p = 0 := by
  unfold run
  rw [List.drop_of_length_le h]
  rfl
theorem run_le (f : UInt8 → Bool) (l : List UInt8) (p : Nat) (h : p ≤ l.length) : p + run f l p ≤ l.length := by
  have := (List.takeWhile_prefix (l := l.drop p) f).length_le
  rw [List.length_drop] at this
  have h2 : run f l p ≤ l.length - p := this
  omega
theorem word_take (l : List UInt8) (p : Nat) : (l.drop p).take (run az l p) = word l p := (List.prefix_iff_eq_take.1 (List.takeWhile_prefix (l := l.drop p) az)).symm
/-- of a byte's number -/
def wsN (x : Int) : Bool := decide (x = 32) || decide (x = 9) || decide (x = 10) || decide (x = 13)
def azN (x : Int) : Bool := decide (97 ≤ x) && decide (x ≤ 122)
theorem eq_nat (b k : UInt8) : (b == k) = decide ((b.toNat : Int) = (k.toNat : Int)) := by
  rw [Bool.eq_iff_iff, decide_eq_true_eq, beq_iff_eq]
  exact ⟨fun h => by rw [h], fun h => UInt8.toNat.inj (by omega)⟩
theorem ws_is {d : UInt8} {x : Int} (h : x = (d.toNat : Int)) : ws d = wsN x := by
  subst h
  unfold ws wsN
  rw [eq_nat d 32, eq_nat d 9, eq_nat d 10, eq_nat d 13]
  rfl
theorem az_is {d : UInt8} {x : Int} (h : x = (d.toNat : Int)) : az d = azN x := by
  subst h
  unfold az azN
  rw [Bool.eq_iff_iff]
  simp
  omega
end Lm
theorem Lm.NEXT_in {l : List UInt8} {k : Nat} (hk : k ≤ l.length) : Lm.NEXT l (k : Int) = Lm.mark l (Lm.skip l k) := by
  unfold Lm.NEXT
  rw [if_pos (by omega), Int.toNat_natCast]
theorem Lm.mark_punct {l : List UInt8} {p : Nat} {c : UInt8} (h : l.drop p = c :: l.drop (p + 1)) {k : Nat} (hk : Lm.punct c = k) (h0 : k ≠ 0) : Lm.mark l p = (⟨k, p, p + 1, 0, []⟩, 0) := by
  unfold Lm.mark
  rw [h]
  show (if Lm.punct c ≠ 0 then _ else _) = _
  rw [if_pos (by rw [hk]; exact h0), hk]
end Go.Proofs.YtpifbmcgadjhbaaGreatDoor
