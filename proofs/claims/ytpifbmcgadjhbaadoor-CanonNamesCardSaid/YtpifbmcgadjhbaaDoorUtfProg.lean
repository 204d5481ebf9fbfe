/-
  What utf.begins, Next, Put, Len, Valid come to.
-/
import Derived.Test.YtpifbmcgadjhbaaDoorUtfFirst
namespace Go.Proofs.YtpifbmcgadjhbaaDoor
open Go.RowKit

theorem fst_app (l r : List UInt8) (h : 1 ≤ l.length) : fst (l ++ r) = ((Um.dc (l ++ r)).1, decide ((Um.nx (l ++ r)).2.2 = 0)) := by
  unfold fst
  rw [if_neg (by intro e; have := congrArg List.length e; rw [List.length_append] at this; simp at this; simp [this.1] at h)]
theorem c128 : (⟨#[128, 128, 128]⟩ : ByteArray) = S [128, 128, 128] := rfl
theorem c191 : (⟨#[191, 191, 191]⟩ : ByteArray) = S [191, 191, 191] := rfl
def NX (l : List UInt8) (k : Int) : Nat × Nat × Nat := if k < 0 ∨ (l.length : Int) < k then (0, 0, 1) else Um.nx (l.drop k.toNat)
def R3 (x : Nat × Nat × Nat) : Value := .tuple #[.int .i64 (x.1 : Int), .int .i64 (x.2.1 : Int), .int .i64 (x.2.2 : Int)]
/-- is a number a rune? -/
def rune (k : Int) : Prop := 0 ≤ k ∧ (k < 55296 ∨ (57344 ≤ k ∧ k ≤ 1114111))
instance (k : Int) : Decidable (rune k) := by unfold rune; infer_instance
def PUT (k : Int) : List UInt8 × Int := if rune k then (Um.enc k.toNat, 0) else ([], 1)
theorem PUT_no {k : Int} (h : ¬ rune k) : PUT k = ([], 1) := by unfold PUT; rw [if_neg h]
theorem PUT_ok {k : Int} (h : rune k) : PUT k = (Um.enc k.toNat, 0) := by unfold PUT; rw [if_pos h]
theorem S_nil : (⟨#[]⟩ : ByteArray) = S [] := rfl
end Go.Proofs.YtpifbmcgadjhbaaDoor
