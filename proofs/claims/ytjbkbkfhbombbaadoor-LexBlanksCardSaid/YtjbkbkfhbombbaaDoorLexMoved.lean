/-
  Blanks put in, mark by mark (no program): what a round of the law's loop adds.
-/
import Derived.Test.YtjbkbkfhbombbaaDoorLexMore
namespace Go.Proofs.YtjbkbkfhbombbaaDoor
open Go.RowKit
namespace Lm
/-- each of a row's marks lies within the text -/
def Lies (l : List UInt8) (ms : List Mark) : Prop := ∀ (i : Nat) (m : Mark), ms[i]? = some m → m.a ≤ m.b ∧ m.b ≤ l.length
theorem Row.lies {l : List UInt8} {p : Nat} {ms : List Mark} (h : Row l p ms) : p ≤ l.length → Lies l ms := by
  induction h with
  | @stop p m h hk =>
    intro hp i x hx
    obtain ⟨hm, hs⟩ := end_is hp h hk
    match i, hx with
    | 0, hx =>
      obtain rfl : m = x := by simpa using hx
      rw [hm]
      exact ⟨Nat.le_refl _, Nat.le_refl _⟩
    | i + 1, hx => simp at hx
  | @step p m ms h hk hr ih =>
    intro hp i x hx
    have hon := on_le hp h hk
    match i, hx with
    | 0, hx =>
      obtain rfl : m = x := by simpa using hx
      exact ⟨by omega, by omega⟩
    | i + 1, hx => exact ih (by omega) i x (by simpa using hx)
theorem bytes_len {l : List UInt8} {m : Mark} (h1 : m.a ≤ m.b) (h2 : m.b ≤ l.length) : (bytes l m).length = m.b - m.a := by
  unfold bytes
  rw [List.length_take, List.length_drop]
  omega
theorem joined_snoc (l z : List UInt8) (m : Mark) : ∀ xs : List Mark, joined l z (xs ++ [m]) = joined l z xs ++ (z ++ bytes l m)
  | [] => by
    show z ++ (bytes l m ++ []) = [] ++ (z ++ bytes l m)
    rw [List.append_nil, List.nil_append]
  | x :: xs => by
    show z ++ (bytes l x ++ joined l z (xs ++ [m])) = (z ++ (bytes l x ++ joined l z xs)) ++ (z ++ bytes l m)
    rw [joined_snoc l z m xs]
    simp only [List.append_assoc]
theorem moved_snoc (l z : List UInt8) (m : Mark) : ∀ (xs : List Mark) (p : Nat), Lies l xs → moved z.length p (xs ++ [m]) = moved z.length p xs ++ [⟨m.k, p + (joined l z xs).length + z.length, p + (joined l z xs).length + z.length + (m.b - m.a), m.n, m.t⟩]
  | [], p, _ => by
    show [_] = [] ++ [_]
    rfl
  | x :: xs, p, h => by
    have hx := h 0 x rfl
    have hb := bytes_len hx.1 hx.2
    have hr : Lies l xs := fun i y hy => h (i + 1) y (by simpa using hy)
    show _ :: moved z.length (p + z.length + (x.b - x.a)) (xs ++ [m]) = (_ :: moved z.length (p + z.length + (x.b - x.a)) xs) ++ [_]
    rw [moved_snoc l z m xs _ hr, List.cons_append]
    have hl : p + (joined l z (x :: xs)).length = p + z.length + (x.b - x.a) + (joined l z xs).length := by
      show p + (z ++ (bytes l x ++ joined l z xs)).length = _
      rw [List.length_append, List.length_append, hb]
      omega
    rw [hl]
theorem moved_len (z : Nat) : ∀ (ms : List Mark) (p : Nat), (moved z p ms).length = ms.length
  | [], _ => rfl
  | m :: ms, p => by
    show (moved z (p + z + (m.b - m.a)) ms).length + 1 = ms.length + 1
    rw [moved_len z ms]
theorem joined_le (l z : List UInt8) {p : Nat} {ms : List Mark} (h : Row l p ms) : p ≤ l.length → (joined l z ms).length ≤ l.length - p + z.length * ms.length := by
  induction h with
  | @stop p m h hk =>
    intro hp
    obtain ⟨rfl, _⟩ := end_is hp h hk
    show (z ++ ((l.drop l.length).take (l.length - l.length) ++ [])).length ≤ _
    rw [Nat.sub_self, List.take_zero, List.length_append]
    simp
  | @step p m ms h hk hr ih =>
    intro hp
    have hon := on_le hp h hk
    have hsg := skip_ge l p
    have hb := bytes_len (l := l) (m := m) (by omega) (by omega)
    have h2 := ih (by omega)
    show (z ++ (bytes l m ++ joined l z ms)).length ≤ l.length - p + z.length * (ms.length + 1)
    rw [List.length_append, List.length_append, hb, Nat.mul_succ]
    omega
theorem joined_take_le (l z : List UInt8) : ∀ (ms : List Mark) (i : Nat), (joined l z (ms.take i)).length ≤ (joined l z ms).length
  | [], i => by rw [List.take_nil]; exact Nat.le_refl _
  | m :: ms, 0 => by rw [List.take_zero]; exact Nat.zero_le _
  | m :: ms, i + 1 => by
    have h := joined_take_le l z ms i
    show (z ++ (bytes l m ++ joined l z (ms.take i))).length ≤ (z ++ (bytes l m ++ joined l z ms)).length
    simp only [List.length_append]
    omega
theorem take_snoc {ms : List Mark} {i : Nat} {m : Mark} (h : ms[i]? = some m) : ms.take (i + 1) = ms.take i ++ [m] := by
  rw [List.take_add_one, h]
  rfl
theorem Lies.take {l : List UInt8} {ms : List Mark} (h : Lies l ms) (i : Nat) : Lies l (ms.take i) := fun j m hj => by
  rw [List.getElem?_take] at hj
  split at hj
  · exact h j m hj
  · simp at hj
end Lm
end Go.Proofs.YtjbkbkfhbombbaaDoor
