/-
  The table hex.digits, out of what a row lays that names it alone.
-/
import Derived.Test.YtbeliommhligcaaDoorFrame
import Derived.Test.YtbeliommhligcaaDoorHexVal
namespace Go.Proofs.YtbeliommhligcaaDoor
open Go.ChangeShapes Go.WideShapes Go.ChangeAt Go.RowKit

theorem gDig : Tryd.prog.globalNamed "legate/hex.digits" = some 0 := by kernel_rfl
theorem gDigType : (Tryd.prog.globals[0]?).map (·.type) = some 57 := by kernel_rfl
theorem cellsDig : Tryd.prog.cellsOf 57 = 16 := by kernel_rfl
theorem row_of {name : String} {k : IntKind} {zs : List Int} {W : World} {g : Nat} (hg : Tryd.prog.globalNamed name = some g) (ht : Lib.TabIs Tryd.prog W name k zs) :
    ∃ t fr, W.heap[g]? = some (.cells (zs.map fun z => Value.int k z).toArray t fr) := by
  unfold Lib.TabIs World.var? at ht
  rw [hg] at ht
  simp only [Option.bind_some] at ht
  split at ht
  · rename_i cs t fr hx
    exact ⟨t, fr, by rw [hx]; simp only [Option.some.injEq] at ht; rw [ht]⟩
  · cases ht
theorem tabs_of {W : World} (h : laidMet Tryd.prog [("legate/hex.digits", Rows.laid_legate_hex_digits)] W) : Tab W := by
  have h1 : Lib.TabIs Tryd.prog W "legate/hex.digits" .u8 [48, 49, 50, 51, 52, 53, 54, 55, 56, 57, 97, 98, 99, 100, 101, 102] :=
    Lib.tabIs_of_head gDig gDigType Tryd.underlying57 Tryd.underlying5 cellsByte cellsDig h
  exact row_of gDig h1
/-- the cells of block g are c -/
noncomputable def lay (h : Array Obj) (g : Nat) (c : Array Value) : Array Obj := h.modify g fun o => match o with
  | .cells _ t frozen => .cells c t frozen
  | o => o
/-- a world in which the table is laid: for the witness -/
noncomputable def laidWorld (os : Os) : World :=
  { World.holding Tryd.prog os ⟨#[], #[], []⟩ with heap := lay (World.holding Tryd.prog os ⟨#[], #[], []⟩).heap 0 TAB }
end Go.Proofs.YtbeliommhligcaaDoor
