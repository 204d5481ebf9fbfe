/-
  The form of what is read has no more bytes than the text; of all that is read there is a form.
  The library's and the program's own tables, and the library's error, that the program's functions come to are what its text lays (the card ties them); nothing else is asked; nothing else is asked.
-/
import Derived.Test.YtpifbmcgadjhbaaGreatDoorFrame
import Derived.Test.YtpifbmcgadjhbaaGreatDoorLexTabs
import Derived.MakeChecks
import Derived.Lay
import Derived.Stop.LaidErr
import Derived.Test.YtpifbmcgadjhbaaGreatDoorBunK
import Derived.Test.YtpifbmcgadjhbaaGreatDoorBunS
namespace Go.Proofs.YtpifbmcgadjhbaaGreatDoor
section
open Go.ChangeShapes Go.WideShapes Go.ChangeAt Go.RowKit

/-- what every row of the seat lays -/
def LAID : List (String × DataW Unit) := Rows.readFrontRow.laid
theorem gDig : Tryz.prog.globalNamed "legate/hex.digits" = some 8 := by kernel_rfl
theorem gDigType : (Tryz.prog.globals[8]?).map (·.type) = some 220 := by kernel_rfl
theorem cellsDig : Tryz.prog.cellsOf 220 = 16 := by kernel_rfl
theorem cellsU8 : Tryz.prog.cellsOf 5 = 1 := by kernel_rfl
theorem row_of {name : String} {k : IntKind} {zs : List Int} {W : World} {g : Nat} (hg : Tryz.prog.globalNamed name = some g) (ht : Lib.TabIs Tryz.prog W name k zs) :
    ∃ t fr, W.heap[g]? = some (.cells (zs.map fun z => Value.int k z).toArray t fr) := by
  unfold Lib.TabIs World.var? at ht
  rw [hg] at ht
  simp only [Option.bind_some] at ht
  split at ht
  · rename_i cs t fr hx
    exact ⟨t, fr, by rw [hx]; simp only [Option.some.injEq] at ht; rw [ht]⟩
  · cases ht
theorem gPowType : (Tryz.prog.globals[0]?).map (·.type) = some 150 := by kernel_rfl
theorem cellsPow : Tryz.prog.cellsOf 150 = 20 := by kernel_rfl
theorem cellsU64 : Tryz.prog.cellsOf 139 = 1 := by kernel_rfl
theorem gRngType : (Tryz.prog.globals[5]?).map (·.type) = some 81 := by kernel_rfl
theorem rngRow : ∀ u, Tryz.prog.typeName? 3 u = some "*errors.errorString" → u = 207 := fun u h =>
  have star : "*" ++ "errors.errorString" = "*errors.errorString" := by decide
  typeName_ptr_named (nm := "errors.errorString") (by rw [star]; kernel_rfl) (by kernel_rfl) (by decide) u (by rw [star]; exact h)
theorem tabs_of {W : World} (h0 : laidMetH Tryz.prog LAID W) : TabL W := by
  have h : laidMet Tryz.prog LAID W := by rw [← MakeChecks.laidMetH_plain _ _ _ (by kernel_rfl)]; exact h0
  have h3 := laidMet_tail (laidMet_tail (laidMet_tail h))
  have h5 := laidMet_tail (laidMet_tail h3)
  have h1 : Lib.TabIs Tryz.prog W "legate/hex.digits" .u8 [48, 49, 50, 51, 52, 53, 54, 55, 56, 57, 97, 98, 99, 100, 101, 102] :=
    Lib.tabIs_of_head gDig gDigType Tryz.underlying220 Tryz.underlying5 cellsU8 cellsDig h
  refine ⟨row_of gDig h1, Lib.tabIs_of_head gPow gPowType Tryz.underlying150 Tryz.underlying139 cellsU64 cellsPow h3, ?_⟩
  obtain ⟨a, s, hv, _⟩ := laid_sentinel h5 gRng gRngType Tryz.underlying81 rngRow Tryz.underlying207 Tryz.underlying209 rfl rfl Tryz.underlying9 (by kernel_rfl) (by kernel_rfl)
  exact ⟨_, _, hv⟩
/-- a world in which the variables are laid: for the witness -/
noncomputable def laidWorld (os : Os) : World := World.laidAll Tryz.prog os LAID
theorem laid_fits (os : Os) : (World.holding Tryz.prog os ⟨#[], #[], []⟩).layFits Tryz.prog LAID [] = true := by kernel_rfl
theorem laid_ifaces (os : Os) : (World.holding Tryz.prog os ⟨#[], #[], []⟩).layIfaces Tryz.prog LAID (World.laidAll Tryz.prog os LAID) = true := by kernel_rfl
theorem laid_plain : (LAID.all fun x => x.2.handleName?.isNone) = true := by kernel_rfl
theorem laid_any (os : Os) (args : Array Value) : laidMetH Tryz.prog LAID ((laidWorld os).forCall (fun _ _ => 0) ⟨#[], args, []⟩).memory := by
  rw [MakeChecks.laidMetH_plain _ _ _ laid_plain]
  exact laidMet_laidAll args (laid_fits os) (laid_ifaces os)
end

section
open Go.RowKit

set_option maxHeartbeats 8000000 in
set_option maxRecDepth 5000 in
theorem law_CanonShort (s : ByteArray) (w : World) (hs : s.size ≤ maxLen) (hT : TabL w) :
    Calls Tryz.prog 11 #[.string s] w fun e w' => e = .returned (.bool true) ∧ Below w.heap.size w w' := by
  obtain ⟨l, rfl⟩ := as_S s
  obtain ⟨L, hL⟩ : ∃ L : Int, L = (l.length : Int) := ⟨_, rfl⟩
  have hsz : ((S l).size : Int) = L := by rw [S_size, hL]
  have HL := Lib.hid hL
  clear hL hs
  by_cases h2 : (20000 : Int) < L
  · go_enter Tryz.func11, Tryz.ntmps11
    go_wp2_with fail
    refine (awake10_any _ hT.2).mono ?_; rintro e w1 ⟨rfl, b1⟩
    go_wp2_with fail
    go_ret
    exact ⟨rfl, b1⟩
  have hl1 : Hid (l.length ≤ 20000) := by have := HL.out; show l.length ≤ 20000; omega
  go_enter Tryz.func11, Tryz.ntmps11
  go_wp2_with fail
  refine (awake10_any _ hT.2).mono ?_; rintro e w1 ⟨rfl, b1⟩
  have T1 := hT.below b1
  have HB1 := Lib.hid b1
  have cR := readRead_any l w1 T1
  clear b1 T1
  go_wp2_with fail
  refine cR.mono ?_; rintro e w2 ⟨u, x, pl, er, rfl, hr, hu, b2⟩
  obtain ⟨uk, un, ut, ua, ub, ui, uj, uca, ucb, rfl⟩ := hu.open'
  obtain ⟨cs, ecs, hcp⟩ := hu
  have hv2 : HV w2 (.agg #[.int .u8 uk, .int .i64 un, .string ut, .slice ua ui uca, .slice ub uj ucb]) x := ⟨cs, ecs, hcp.hc⟩
  obtain ⟨q, hq⟩ : ∃ q, q = w2.heap.size := ⟨_, rfl⟩
  obtain ⟨W3, hW3⟩ : ∃ W, W = w2.alloc (.cells #[.int .u8 uk, .int .i64 un, .string ut, .slice ua ui uca, .slice ub uj ucb] 26) := ⟨_, rfl⟩
  have b3 : Below w2.heap.size w2 W3 := by rw [hW3]; exact (Below.refl _ _).alloc (Nat.le_refl _) _
  have V3 : VAt q W3 (.int .u8 uk) (.int .i64 un) (.string ut) (.slice ua ui uca) (.slice ub uj ucb) := by rw [hW3, hq]; exact VAt.new ..
  have B3 := HB1.out.trans ((b2.trans (b3.mono b2.size)).mono HB1.out.size)
  have HB3 := Lib.hid B3
  have HV3 := Lib.hid V3
  have HU3 := Lib.hid (hv2.below b3)
  have T3 := hT.below B3
  obtain ⟨eI, heI⟩ : ∃ z : Int, z = (er : Int) := ⟨_, rfl⟩
  obtain ⟨pI, hpI⟩ : ∃ z : Int, z = (pl : Int) := ⟨_, rfl⟩
  have HE := Lib.hid heI
  have HRD := Lib.hid hr
  rw [← heI, ← hpI]
  clear cR hr b2 b3 hv2 hcp ecs heI hpI B3 V3
  by_cases he : eI = 0
  case neg =>
    have hb : (eI != 0) = true := bne_iff_ne.2 he
    clear he
    go_wp2_with fail
    rw [← hW3]
    go_ret
    exact ⟨rfl, HB3.out⟩
  subst he
  have hrx : RdIs l x pl 0 := by have h0 : er = 0 := by have := HE.out; omega
                                 have := HRD.out; rw [h0] at this; exact this
  obtain ⟨hmay, hwx, _⟩ := (rd_may hrx hl1.out).1 rfl
  have hshort := form_short hrx
  have hE := ENC_ok hmay
  obtain ⟨F, hF⟩ : ∃ F, F = Cn.form x := ⟨_, rfl⟩
  rw [← hF] at hE hshort
  obtain ⟨FL, hFL⟩ : ∃ z : Int, z = (F.length : Int) := ⟨_, rfl⟩
  have hfz : ((S F).size : Int) = FL := by rw [S_size, hFL]
  have hle : FL ≤ L := by have := HL.out; omega
  have e1 : ((S F).toList == (S F).toList) = true := beq_self_eq_true _
  have cE := enc_call hE _ W3 hwx HU3.out T3.2
  have HEN := Lib.hid hE
  have HWX := Lib.hid hwx
  obtain ⟨⟨p0, p1, p2, p3, p4⟩, pf⟩ := HV3.out.cells
  rw [hW3] at p0 p1 p2 p3 p4 pf
  clear hrx hmay hwx hshort hE hF hFL
  go_wp2_with fail
  rw [← hW3, ← hq]
  clear hW3 hq p0 p1 p2 p3 p4 pf
  refine cE.mono ?_; rintro e w4 ⟨rfl, b4⟩
  have HB4 := Lib.hid (HB3.out.trans (b4.mono HB3.out.size))
  have T4 := T3.below b4
  obtain ⟨⟨p0, p1, p2, p3, p4⟩, pf⟩ := (HV3.out.below b4).cells
  have cC := copy_any x.cnt x (Nat.le_refl _) HWX.out w4 _ (HU3.out.below b4)
  clear cE b4 T3
  go_wp2_with fail
  refine cC.mono ?_; rintro e w5 ⟨⟨v, rfl, hv⟩, b5⟩
  have HB5 := Lib.hid (HB4.out.trans (b5.mono HB4.out.size))
  have T5 := T4.below b5
  have cE := enc_call HEN.out v w5 HWX.out hv.hv T5.2
  clear cC b5 hv T4 p0 p1 p2 p3 p4 pf
  go_wp2_with fail
  refine cE.mono ?_; rintro e w6 ⟨rfl, b6⟩
  have HB6 := Lib.hid (HB5.out.trans (b6.mono HB5.out.size))
  clear cE b6
  go_wp2_with fail
  go_ret
  exact ⟨rfl, HB6.out⟩
end
end Go.Proofs.YtpifbmcgadjhbaaGreatDoor

namespace Go.Proofs.YtpifbmcgadjhbaaGreatDoor.canonShort
open Go.ChangeShapes Go.WideShapes Go.ChangeAt Go.RowKit

theorem reads (os : Os) {H : Type} (enc : TypeId × Value → H) : ∃ places, DataW.whole enc Tryz.prog ((laidWorld os).forCall (fun _ _ => 0) ⟨#[], #[.string ⟨#[]⟩], []⟩).memory Tryz.f11.params.toList Rows.canonShortSpec.vars false (#[.string ⟨#[]⟩] : Array Value).toList 8 = some ([.lit (.string [])], [], places) :=
  ⟨[], by kernel_rfl⟩

set_option maxRecDepth 100000 in
theorem lifted (os : Os) (started : os.Started) (H : Type) (enc : TypeId × Value → H) (F : Stop.Interp) :
    ReturnsInHanded {} Tryz.checked os 11 .any ((OpenSpec.ofChange Rows.canonShortSpec).preRow enc Tryz.prog Tryz.f11 Rows.canonShortRow.domain false Rows.canonShortRow.laid) (((OpenSpec.ofChange Rows.canonShortSpec).at F).post enc Tryz.prog Tryz.f11 false true false false) := by
  obtain ⟨places, hx⟩ := reads os enc
  refine returnsInHanded_of_row (C := Tryz.checked) (s := OpenSpec.ofChange Rows.canonShortSpec) own started (by kernel_rfl) Tryz.func11
    (witness_row_at (enc := enc) (C := Tryz.checked) false (laidWorld os) #[.string ⟨#[]⟩] rfl (by kernel_rfl) (by kernel_rfl) (by kernel_rfl)
      (OpenSpec.preRow_of_cond 8 hx (by kernel_rfl) (fun k hk => by cases hk) (by kernel_rfl) (laid_any os _))) ?_
  intro W base args ds gs before hval hW _ _ _ hL _ _
  have hW' := hW
  obtain ⟨p, q, hA, _, _, _, _⟩ := hW
  rw [Tryz.params11] at hA hval
  obtain ⟨v0, vs0, d0, ds0, p0, q0, hargs, _, _, h0, r0⟩ := trodAll_cons hA
  obtain ⟨rfl, _, _⟩ := trodAll_nil r0
  obtain rfl : args = #[v0] := by cases args; simp_all
  obtain ⟨t0, rfl, b0⟩ := arg_string (hval 0 9 v0 rfl rfl) h0
  exact contract (s := Rows.canonShortSpec) rfl rfl (by kernel_rfl) (fun l hl => by
    rw [Tryz.params11] at hl
    match l, hl with
    | [_], _ => rfl) hW' (law_CanonShort t0 W b0 (tabs_of hL))

theorem said : Rows.CanonShortSaid :=
  OpenClaim.holds_of_cond 11 Tryz.f11 rfl rfl rfl rfl rfl rfl rfl ⟨rfl, rfl, rfl, rfl, rfl⟩ rfl rfl rfl rfl rfl (by kernel_rfl) Tryz.func11 (by kernel_rfl)
    (of_decide_eq_true (by kernel_rfl)) (by unfold Func.isWrapper; first | (rw [if_pos (by decide +kernel)]; kernel_rfl) | (rw [if_neg (by decide +kernel)]; exact ⟨rfl, rfl⟩))
    (fun os started H enc _ F => by rw [OpenClaim.pre_eq_preRow]; exact lifted os started H enc F)

theorem plain (f : FuncId) (fn : Func) (hf : Tryz.pinned.checked.prog.funcNamed "legate/legatelaw10.CanonShort" = some f) (hfn : Tryz.pinned.checked.prog.funcs[f]? = some fn) :
    true = Tryz.pinned.checked.prog.looks [] ∧ ∀ (j : Nat) t, fn.params[j]? = some t → Tryz.pinned.checked.prog.wantsStandIn t = false := by
  obtain rfl : f = 11 := Option.some.inj ((show Tryz.prog.funcNamed "legate/legatelaw10.CanonShort" = some 11 by kernel_rfl).symm.trans hf) |>.symm
  obtain rfl : fn = Tryz.f11 := (Option.some.inj (Tryz.func11.symm.trans hfn)).symm
  refine ⟨by kernel_rfl, fun j t ht => ?_⟩
  rw [Tryz.params11] at ht
  obtain rfl : t = 9 := by simpa using Array.mem_of_getElem? ht
  exact (show Tryz.prog.wantsStandIn 9 = false by kernel_rfl)

theorem card : Rows.CanonShortCardSaid :=
  Claim7.holds_tied_plain_at .later [] _ _ _ _ said (fun _ h => by cases h) (by kernel_rfl) (fun _ h => by cases h) canonShort_row_tie rfl ⟨rfl, rfl⟩ (by kernel_rfl) rfl plain (by kernel_rfl)
end Go.Proofs.YtpifbmcgadjhbaaGreatDoor.canonShort
