/-
  What is read is a value that may be; of what is refused the place is one in the text, or its end.
  The library's and the program's own tables, and the library's error, that the program's functions come to are what its text lays (the card ties them); nothing else is asked.
-/
import Derived.Test.YtoipjlhddpeicaaGreatDoorBunB
import Derived.Test.YtoipjlhddpeicaaGreatDoorFrame
import Derived.Test.YtoipjlhddpeicaaGreatDoorLexTabs
import Derived.MakeChecks
import Derived.Lay
import Derived.Stop.LaidErr
namespace Go.Proofs.YtoipjlhddpeicaaGreatDoor
open Go.ChangeShapes Go.WideShapes Go.ChangeAt Go.RowKit

/-- what every row of the seat lays -/
def LAID : List (String × DataW Unit) := Rows.readMayRow.laid
theorem gDig : Tryz.prog.globalNamed "legate/hex.digits" = some 6 := by kernel_rfl
theorem gDigType : (Tryz.prog.globals[6]?).map (·.type) = some 206 := by kernel_rfl
theorem cellsDig : Tryz.prog.cellsOf 206 = 16 := by kernel_rfl
theorem cellsU8 : Tryz.prog.cellsOf 5 = 1 := by kernel_rfl
theorem row_of {name : String} {k : IntKind} {zs : List Int} {W : World} {g : Nat} (hg : Tryz.prog.globalNamed name = some g) (ht : Lib.TabIs Tryz.prog W name k zs) :
    ∃ t fr, W.heap[g]? = some (.cells (zs.map fun z => Value.int k z).toArray t fr) := by
  unfold Lib.TabIs World.var? at ht
  rw [hg] at ht
  simp only [Option.bind_some] at ht
  split at ht
  · rename_i cs t fr hx
    exact ⟨t, fr, by rw [hx]; simp only [Option.some.injEq] at ht; rw [ht]⟩
  · cases ht
theorem gPowType : (Tryz.prog.globals[5]?).map (·.type) = some 204 := by kernel_rfl
theorem cellsPow : Tryz.prog.cellsOf 204 = 20 := by kernel_rfl
theorem cellsU64 : Tryz.prog.cellsOf 144 = 1 := by kernel_rfl
theorem gRngType : (Tryz.prog.globals[2]?).map (·.type) = some 115 := by kernel_rfl
theorem rngRow : ∀ u, Tryz.prog.typeName? 3 u = some "*errors.errorString" → u = 175 := fun u h =>
  have star : "*" ++ "errors.errorString" = "*errors.errorString" := by decide
  typeName_ptr_named (nm := "errors.errorString") (by rw [star]; kernel_rfl) (by kernel_rfl) (by decide) u (by rw [star]; exact h)
theorem tabs_of {W : World} (h0 : laidMetH Tryz.prog LAID W) : TabL W := by
  have h : laidMet Tryz.prog LAID W := by rw [← MakeChecks.laidMetH_plain _ _ _ (by kernel_rfl)]; exact h0
  have h3 := laidMet_tail (laidMet_tail (laidMet_tail h))
  have h5 := laidMet_tail (laidMet_tail h3)
  have h1 : Lib.TabIs Tryz.prog W "legate/hex.digits" .u8 [48, 49, 50, 51, 52, 53, 54, 55, 56, 57, 97, 98, 99, 100, 101, 102] :=
    Lib.tabIs_of_head gDig gDigType Tryz.underlying206 Tryz.underlying5 cellsU8 cellsDig h
  refine ⟨row_of gDig h1, Lib.tabIs_of_head gPow gPowType Tryz.underlying204 Tryz.underlying144 cellsU64 cellsPow h3, ?_⟩
  obtain ⟨a, s, hv, _⟩ := laid_sentinel h5 gRng gRngType Tryz.underlying115 rngRow Tryz.underlying175 Tryz.underlying177 rfl rfl Tryz.underlying9 (by kernel_rfl) (by kernel_rfl)
  exact ⟨_, _, hv⟩
/-- a world in which the variables are laid: for the witness -/
noncomputable def laidWorld (os : Os) : World := World.laidAll Tryz.prog os LAID
theorem laid_fits (os : Os) : (World.holding Tryz.prog os ⟨#[], #[], []⟩).layFits Tryz.prog LAID [] = true := by kernel_rfl
theorem laid_ifaces (os : Os) : (World.holding Tryz.prog os ⟨#[], #[], []⟩).layIfaces Tryz.prog LAID (World.laidAll Tryz.prog os LAID) = true := by kernel_rfl
theorem laid_plain : (LAID.all fun x => x.2.handleName?.isNone) = true := by kernel_rfl
theorem laid_any (os : Os) (args : Array Value) : laidMetH Tryz.prog LAID ((laidWorld os).forCall (fun _ _ => 0) ⟨#[], args, []⟩).memory := by
  rw [MakeChecks.laidMetH_plain _ _ _ laid_plain]
  exact laidMet_laidAll args (laid_fits os) (laid_ifaces os)
end Go.Proofs.YtoipjlhddpeicaaGreatDoor
namespace Go.Proofs.YtoipjlhddpeicaaGreatDoor.readMay
open Go.ChangeShapes Go.WideShapes Go.ChangeAt Go.RowKit

theorem reads (os : Os) {H : Type} (enc : TypeId × Value → H) : ∃ places, DataW.whole enc Tryz.prog ((laidWorld os).forCall (fun _ _ => 0) ⟨#[], #[.string ⟨#[]⟩], []⟩).memory Tryz.f5.params.toList Rows.readMaySpec.vars false (#[.string ⟨#[]⟩] : Array Value).toList 8 = some ([.lit (.string [])], [], places) :=
  ⟨[], by kernel_rfl⟩

set_option maxRecDepth 100000 in
theorem lifted (os : Os) (started : os.Started) (H : Type) (enc : TypeId × Value → H) (F : Stop.Interp) :
    ReturnsInHanded {} Tryz.checked os 5 .any ((OpenSpec.ofChange Rows.readMaySpec).preRow enc Tryz.prog Tryz.f5 Rows.readMayRow.domain false Rows.readMayRow.laid) (((OpenSpec.ofChange Rows.readMaySpec).at F).post enc Tryz.prog Tryz.f5 false true false false) := by
  obtain ⟨places, hx⟩ := reads os enc
  refine returnsInHanded_of_row (C := Tryz.checked) (s := OpenSpec.ofChange Rows.readMaySpec) own started (by kernel_rfl) Tryz.func5
    (witness_row_at (enc := enc) (C := Tryz.checked) false (laidWorld os) #[.string ⟨#[]⟩] rfl (by kernel_rfl) (by kernel_rfl) (by kernel_rfl)
      (OpenSpec.preRow_of_cond 8 hx (by kernel_rfl) (fun k hk => by cases hk) (by kernel_rfl) (laid_any os _))) ?_
  intro W base args ds gs before hval hW _ _ _ hL _ _
  have hW' := hW
  obtain ⟨p, q, hA, _, _, _, _⟩ := hW
  rw [Tryz.params5] at hA hval
  obtain ⟨v0, vs0, d0, ds0, p0, q0, hargs, _, _, h0, r0⟩ := trodAll_cons hA
  obtain ⟨rfl, _, _⟩ := trodAll_nil r0
  obtain rfl : args = #[v0] := by cases args; simp_all
  obtain ⟨t0, rfl, b0⟩ := arg_string (hval 0 9 v0 rfl rfl) h0
  exact contract (s := Rows.readMaySpec) rfl rfl (by kernel_rfl) (fun l hl => by
    rw [Tryz.params5] at hl
    match l, hl with
    | [_], _ => rfl) hW' (law_ReadMay t0 W b0 (tabs_of hL))

theorem said : Rows.ReadMaySaid :=
  OpenClaim.holds_of_cond 5 Tryz.f5 rfl rfl rfl rfl rfl rfl rfl ⟨rfl, rfl, rfl, rfl, rfl⟩ rfl rfl rfl rfl rfl (by kernel_rfl) Tryz.func5 (by kernel_rfl)
    (of_decide_eq_true (by kernel_rfl)) (by unfold Func.isWrapper; first | (rw [if_pos (by decide +kernel)]; kernel_rfl) | (rw [if_neg (by decide +kernel)]; exact ⟨rfl, rfl⟩))
    (fun os started H enc _ F => by rw [OpenClaim.pre_eq_preRow]; exact lifted os started H enc F)

theorem plain (f : FuncId) (fn : Func) (hf : Tryz.pinned.checked.prog.funcNamed "legate/legatelaw09.ReadMay" = some f) (hfn : Tryz.pinned.checked.prog.funcs[f]? = some fn) :
    true = Tryz.pinned.checked.prog.looks [] ∧ ∀ (j : Nat) t, fn.params[j]? = some t → Tryz.pinned.checked.prog.wantsStandIn t = false := by
  obtain rfl : f = 5 := Option.some.inj ((show Tryz.prog.funcNamed "legate/legatelaw09.ReadMay" = some 5 by kernel_rfl).symm.trans hf) |>.symm
  obtain rfl : fn = Tryz.f5 := (Option.some.inj (Tryz.func5.symm.trans hfn)).symm
  refine ⟨by kernel_rfl, fun j t ht => ?_⟩
  rw [Tryz.params5] at ht
  obtain rfl : t = 9 := by simpa using Array.mem_of_getElem? ht
  exact (show Tryz.prog.wantsStandIn 9 = false by kernel_rfl)

theorem card : Rows.ReadMayCardSaid :=
  Claim7.holds_tied_plain_at .later [] _ _ _ _ said (fun _ h => by cases h) (by kernel_rfl) (fun _ h => by cases h) readMay_row_tie rfl ⟨rfl, rfl⟩ (by kernel_rfl) rfl plain (by kernel_rfl)
end Go.Proofs.YtoipjlhddpeicaaGreatDoor.readMay
