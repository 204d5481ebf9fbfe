/-
  The three tables, out of what a row of package sha lays.
-/
import Derived.Test.YtnlkmbbgcellfaaDoorFrame
import Derived.Test.YtnlkmbbgcellfaaDoorShaAt
namespace Go.Proofs.YtnlkmbbgcellfaaDoor
open Go.ChangeShapes Go.WideShapes Go.ChangeAt Go.RowKit

theorem gDig : Tryd.prog.globalNamed "legate/hex.digits" = some 0 := by kernel_rfl
theorem gDigType : (Tryd.prog.globals[0]?).map (·.type) = some 33 := by kernel_rfl
theorem cellsDig : Tryd.prog.cellsOf 33 = 16 := by kernel_rfl
theorem gIni : Tryd.prog.globalNamed "legate/sha.initial" = some 1 := by kernel_rfl
theorem gIniType : (Tryd.prog.globals[1]?).map (·.type) = some 46 := by kernel_rfl
theorem cellsIni : Tryd.prog.cellsOf 46 = 8 := by kernel_rfl
theorem gAdd : Tryd.prog.globalNamed "legate/sha.added" = some 2 := by kernel_rfl
theorem gAddType : (Tryd.prog.globals[2]?).map (·.type) = some 51 := by kernel_rfl
theorem cellsAdd : Tryd.prog.cellsOf 51 = 64 := by kernel_rfl
theorem cellsWord : Tryd.prog.cellsOf 45 = 1 := by kernel_rfl

theorem row_of {name : String} {k : IntKind} {zs : List Int} {W : World} {g : Nat} (hg : Tryd.prog.globalNamed name = some g) (ht : Lib.TabIs Tryd.prog W name k zs) :
    ∃ t fr, W.heap[g]? = some (.cells (zs.map fun z => Value.int k z).toArray t fr) := by
  unfold Lib.TabIs World.var? at ht
  rw [hg] at ht
  simp only [Option.bind_some] at ht
  split at ht
  · rename_i cs t fr hx
    exact ⟨t, fr, by rw [hx]; simp only [Option.some.injEq] at ht; rw [ht]⟩
  · cases ht
theorem tabs_of {W : World} (h : laidMet Tryd.prog [("legate/hex.digits", Rows.laid_legate_hex_digits), ("legate/sha.initial", Rows.laid_legate_sha_initial), ("legate/sha.added", Rows.laid_legate_sha_added)] W) : Tabs W := by
  have h1 : Lib.TabIs Tryd.prog W "legate/hex.digits" .u8 [48, 49, 50, 51, 52, 53, 54, 55, 56, 57, 97, 98, 99, 100, 101, 102] :=
    Lib.tabIs_of_head gDig gDigType Tryd.underlying33 Tryd.underlying5 cellsByte cellsDig h
  have h2 : Lib.TabIs Tryd.prog W "legate/sha.initial" .u32 (Sm.H0.list.map fun (x : Nat) => (x : Int)) :=
    Lib.tabIs_of_head gIni gIniType Tryd.underlying46 Tryd.underlying45 cellsWord cellsIni (laidMet_tail h)
  have h3 : Lib.TabIs Tryd.prog W "legate/sha.added" .u32 (Sm.K.map fun (x : Nat) => (x : Int)) :=
    Lib.tabIs_of_head gAdd gAddType Tryd.underlying51 Tryd.underlying45 cellsWord cellsAdd (laidMet_tail (laidMet_tail h))
  have r2 := row_of gIni h2
  have r3 := row_of gAdd h3
  simp only [List.map_map] at r2 r3
  exact ⟨row_of gDig h1, r2, r3⟩
/-- the cells of block g are c -/
noncomputable def lay (h : Array Obj) (g : Nat) (c : Array Value) : Array Obj := h.modify g fun o => match o with
  | .cells _ t frozen => .cells c t frozen
  | o => o
/-- a world in which the tables are laid: for the witness -/
noncomputable def laidWorld (os : Os) : World :=
  { World.holding Tryd.prog os ⟨#[], #[], []⟩ with heap := lay (lay (lay (World.holding Tryd.prog os ⟨#[], #[], []⟩).heap 0 TAB) 1 (AR Sm.H0.list)) 2 (AR Sm.K) }
end Go.Proofs.YtnlkmbbgcellfaaDoor
