/-
  ShaNames comes to true: the walk, with its two closed facts.
-/
import Derived.Test.YtgbdleenkblcfaaDoorShaLawN
import Derived.Test.YtgbdleenkblcfaaDoorShaMillion
import Derived.Test.YtgbdleenkblcfaaDoorShaUnlike
namespace Go.Proofs.YtgbdleenkblcfaaDoor
open Go Go.RowKit

theorem hM_ : Hm.enc (Sm.sha (Aa 1000000)) = [99, 100, 99, 55, 54, 101, 53, 99, 57, 57, 49, 52, 102, 98, 57, 50, 56, 49, 97, 49, 99, 55, 101, 50, 56, 52, 100, 55, 51, 101, 54, 55, 102, 49, 56, 48, 57, 97, 52, 56, 97, 52, 57, 55, 50, 48, 48, 101, 48, 52, 54, 100, 51, 57, 99, 99, 99, 55, 49, 49, 50, 99, 100, 48] := by
  have h := Fa.dig_1M
  unfold Fa.A1M at h
  unfold Aa
  exact h
theorem hU_ (n : Nat) (h1 : 50 ≤ n) (h2 : n < 140) : Sm.sha (Aa n) ≠ Sm.sha (Aa (n + 1)) := by
  have h := Fa.q140 n h1 h2
  unfold Fa.Un Fa.As at h
  unfold Aa
  exact h
theorem law_ShaNames (w : World) (hT : Tabs w) :
    Calls Tryd.prog 5 #[] w fun e w' => e = .returned (.bool true) ∧ Below w.heap.size w w' :=
  walk_ShaNames 1000000 rfl hM_ hU_ w hT
end Go.Proofs.YtgbdleenkblcfaaDoor
