/-
  The library's table of powers of ten, out of what a row of package canon lays.
-/
import Derived.Test.YtpifbmcgadjhbaaDoorFrame
import Derived.Test.YtpifbmcgadjhbaaDoorNumProg
import Derived.MakeChecks
import Derived.Lay
namespace Go.Proofs.YtpifbmcgadjhbaaDoor
open Go.ChangeShapes Go.WideShapes Go.ChangeAt Go.RowKit

/-- what every row of the seat lays -/
def LAID : List (String × DataW Unit) := Rows.canonEncodesRow.laid
theorem gPowType : (Tryd.prog.globals[0]?).map (·.type) = some 75 := by kernel_rfl
theorem cellsPow : Tryd.prog.cellsOf 75 = 20 := by kernel_rfl
theorem cellsU64 : Tryd.prog.cellsOf 65 = 1 := by kernel_rfl
theorem tabs_of {W : World} (h0 : laidMetH Tryd.prog LAID W) : TabN W := by
  have h : laidMet Tryd.prog LAID W := by rw [← MakeChecks.laidMetH_plain _ _ _ (by kernel_rfl)]; exact h0
  have h3 := laidMet_tail (laidMet_tail h)
  exact ⟨Lib.tabIs_of_head gPow gPowType Tryd.underlying75 Tryd.underlying65 cellsU64 cellsPow h3, trivial⟩
/-- a world in which the variables are laid: for the witness -/
noncomputable def laidWorld (os : Os) : World := World.laidAll Tryd.prog os LAID
theorem laid_fits (os : Os) : (World.holding Tryd.prog os ⟨#[], #[], []⟩).layFits Tryd.prog LAID [] = true := by kernel_rfl
theorem laid_ifaces (os : Os) : (World.holding Tryd.prog os ⟨#[], #[], []⟩).layIfaces Tryd.prog LAID (World.laidAll Tryd.prog os LAID) = true := by kernel_rfl
theorem laid_plain : (LAID.all fun x => x.2.handleName?.isNone) = true := by kernel_rfl
theorem laid_any (os : Os) (args : Array Value) : laidMetH Tryd.prog LAID ((laidWorld os).forCall (fun _ _ => 0) ⟨#[], args, []⟩).memory := by
  rw [MakeChecks.laidMetH_plain _ _ _ laid_plain]
  exact laidMet_laidAll args (laid_fits os) (laid_ifaces os)
end Go.Proofs.YtpifbmcgadjhbaaDoor
