/-
  What num.textAt and the document's of come to.
-/
import Derived.Test.YtpifbmcgadjhbaaDoorNumMath
import Derived.Test.YtpifbmcgadjhbaaDoorText
import Derived.RegionTactic
import Derived.WalkMore
import Derived.Deep.LoopGhost
namespace Go.Proofs.YtpifbmcgadjhbaaDoor
open Go.RowKit

/-- more, of a byte's number -/
def Nm.mr (x : Int) : Bool := decide (48 ≤ x ∧ x ≤ 57) || decide (x = 45) || decide (x = 43) || decide (x = 46) || decide (x = 101) || decide (x = 69)
theorem Nm.mr_is (b : UInt8) : Nm.mr (b.toNat : Int) = Nm.more b := by
  have key : ∀ k : UInt8, (decide ((b.toNat : Int) = (k.toNat : Int))) = (b == k) := fun k => by
    rw [Bool.eq_iff_iff, decide_eq_true_eq, beq_iff_eq]
    exact ⟨fun h => UInt8.toNat.inj (by omega), fun h => by rw [h]⟩
  unfold Nm.mr Nm.more Nm.dig
  rw [← key 45, ← key 43, ← key 46, ← key 101, ← key 69]
  congr 5
  rw [Bool.eq_iff_iff]
  simp
  omega
theorem Nm.mr_bt {l : List UInt8} {p : Nat} {d : UInt8} (hd : d.toNat = Tx.bt l p) : Nm.mr (Tx.bt l p : Int) = Nm.more d := by rw [← hd, Nm.mr_is]
end Go.Proofs.YtpifbmcgadjhbaaDoor
