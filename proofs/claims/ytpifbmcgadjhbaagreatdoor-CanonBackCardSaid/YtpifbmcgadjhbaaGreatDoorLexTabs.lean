/-
  What the world must lay for package lex: hex's digits, the library's powers of ten, its error ErrRange.
-/
import Derived.Test.YtpifbmcgadjhbaaGreatDoorHexVal
import Derived.Test.YtpifbmcgadjhbaaGreatDoorNumProg
namespace Go.Proofs.YtpifbmcgadjhbaaGreatDoor
open Go.RowKit

def TabL (w : World) : Prop := Tab w ∧ TabN w
theorem TabL.below {w w' : World} (h : TabL w) (hb : Below w.heap.size w w') : TabL w' := ⟨h.1.below hb h.1.lt, h.2.below hb⟩
theorem TabL.from_ {w0 w : World} (h : TabL w0) (hb : Below w0.heap.size w0 w) : TabL w := h.below hb
end Go.Proofs.YtpifbmcgadjhbaaGreatDoor
