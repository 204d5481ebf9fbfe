/-
  A bracket that nothing closes ahead of a text doesn't let it be read.
  The library's and the program's own tables, and the library's error, that the program's functions come to are what its text lays (the card ties them); nothing else is asked; nothing else is asked.
-/
import Derived.Test.YtpifbmcgadjhbaaGreatDoorFrame
import Derived.Test.YtpifbmcgadjhbaaGreatDoorLexTabs
import Derived.MakeChecks
import Derived.Lay
import Derived.Stop.LaidErr
import Derived.Test.YtpifbmcgadjhbaaGreatDoorBunS
namespace Go.Proofs.YtpifbmcgadjhbaaGreatDoor
section
open Go.ChangeShapes Go.WideShapes Go.ChangeAt Go.RowKit

/-- what every row of the seat lays -/
def LAID : List (String × DataW Unit) := Rows.readFrontRow.laid
theorem gDig : Tryz.prog.globalNamed "legate/hex.digits" = some 8 := by kernel_rfl
theorem gDigType : (Tryz.prog.globals[8]?).map (·.type) = some 220 := by kernel_rfl
theorem cellsDig : Tryz.prog.cellsOf 220 = 16 := by kernel_rfl
theorem cellsU8 : Tryz.prog.cellsOf 5 = 1 := by kernel_rfl
theorem row_of {name : String} {k : IntKind} {zs : List Int} {W : World} {g : Nat} (hg : Tryz.prog.globalNamed name = some g) (ht : Lib.TabIs Tryz.prog W name k zs) :
    ∃ t fr, W.heap[g]? = some (.cells (zs.map fun z => Value.int k z).toArray t fr) := by
  unfold Lib.TabIs World.var? at ht
  rw [hg] at ht
  simp only [Option.bind_some] at ht
  split at ht
  · rename_i cs t fr hx
    exact ⟨t, fr, by rw [hx]; simp only [Option.some.injEq] at ht; rw [ht]⟩
  · cases ht
theorem gPowType : (Tryz.prog.globals[0]?).map (·.type) = some 150 := by kernel_rfl
theorem cellsPow : Tryz.prog.cellsOf 150 = 20 := by kernel_rfl
theorem cellsU64 : Tryz.prog.cellsOf 139 = 1 := by kernel_rfl
theorem gRngType : (Tryz.prog.globals[5]?).map (·.type) = some 81 := by kernel_rfl
theorem rngRow : ∀ u, Tryz.prog.typeName? 3 u = some "*errors.errorString" → u = 207 := fun u h =>
  have star : "*" ++ "errors.errorString" = "*errors.errorString" := by decide
  typeName_ptr_named (nm := "errors.errorString") (by rw [star]; kernel_rfl) (by kernel_rfl) (by decide) u (by rw [star]; exact h)
theorem tabs_of {W : World} (h0 : laidMetH Tryz.prog LAID W) : TabL W := by
  have h : laidMet Tryz.prog LAID W := by rw [← MakeChecks.laidMetH_plain _ _ _ (by kernel_rfl)]; exact h0
  have h3 := laidMet_tail (laidMet_tail (laidMet_tail h))
  have h5 := laidMet_tail (laidMet_tail h3)
  have h1 : Lib.TabIs Tryz.prog W "legate/hex.digits" .u8 [48, 49, 50, 51, 52, 53, 54, 55, 56, 57, 97, 98, 99, 100, 101, 102] :=
    Lib.tabIs_of_head gDig gDigType Tryz.underlying220 Tryz.underlying5 cellsU8 cellsDig h
  refine ⟨row_of gDig h1, Lib.tabIs_of_head gPow gPowType Tryz.underlying150 Tryz.underlying139 cellsU64 cellsPow h3, ?_⟩
  obtain ⟨a, s, hv, _⟩ := laid_sentinel h5 gRng gRngType Tryz.underlying81 rngRow Tryz.underlying207 Tryz.underlying209 rfl rfl Tryz.underlying9 (by kernel_rfl) (by kernel_rfl)
  exact ⟨_, _, hv⟩
/-- a world in which the variables are laid: for the witness -/
noncomputable def laidWorld (os : Os) : World := World.laidAll Tryz.prog os LAID
theorem laid_fits (os : Os) : (World.holding Tryz.prog os ⟨#[], #[], []⟩).layFits Tryz.prog LAID [] = true := by kernel_rfl
theorem laid_ifaces (os : Os) : (World.holding Tryz.prog os ⟨#[], #[], []⟩).layIfaces Tryz.prog LAID (World.laidAll Tryz.prog os LAID) = true := by kernel_rfl
theorem laid_plain : (LAID.all fun x => x.2.handleName?.isNone) = true := by kernel_rfl
theorem laid_any (os : Os) (args : Array Value) : laidMetH Tryz.prog LAID ((laidWorld os).forCall (fun _ _ => 0) ⟨#[], args, []⟩).memory := by
  rw [MakeChecks.laidMetH_plain _ _ _ laid_plain]
  exact laidMet_laidAll args (laid_fits os) (laid_ifaces os)
end

section
open Go.RowKit

theorem HV.kind {w : World} {k n : Int} {t : ByteArray} {a b : Option Addr} {i j ca cb : Nat} {x : JV} (h : HV w (.agg #[.int .u8 k, .int .i64 n, .string t, .slice a i ca, .slice b j cb]) x) : k = (x.k : Int) := by
  obtain ⟨cs, e, hc⟩ := h
  obtain ⟨a', b', ca', cb', rfl, _⟩ := hc.form
  simp only [Value.agg.injEq, Array.mk.injEq, List.cons.injEq, Value.int.injEq, true_and, and_true] at e
  exact e.1
theorem bt_of {l : List UInt8} {k : Nat} {c : UInt8} (h : l[k]? = some c) : Um.bt l k = c.toNat := by
  unfold Um.bt
  rw [List.getD_eq_getElem?_getD, h]
  rfl
set_option maxHeartbeats 8000000 in
set_option maxRecDepth 5000 in
theorem law_ReadFront (s : ByteArray) (at' : Int) (w : World) (hs : s.size ≤ maxLen) (hT : TabL w) :
    Calls Tryz.prog 9 #[.string s, .int .i64 at'] w fun e w' => e = .returned (.bool true) ∧ Below w.heap.size w w' := by
  obtain ⟨l, rfl⟩ := as_S s
  rw [S_size] at hs
  obtain ⟨L, hL⟩ : ∃ L : Int, L = (l.length : Int) := ⟨_, rfl⟩
  have hsz : ((S l).size : Int) = L := by rw [S_size, hL]
  have HL := Lib.hid hL
  clear hL hs
  by_cases h2 : (20000 : Int) < L
  · go_enter Tryz.func9, Tryz.ntmps9
    go_wp2_with fail
    refine (awake_any _ hT).mono ?_; rintro e w1 ⟨rfl, b1⟩
    go_wp2_with fail
    go_ret
    exact ⟨rfl, b1⟩
  have hl2 : Hid (l.length ≤ 20000) := by have := HL.out; show l.length ≤ 20000; omega
  go_enter Tryz.func9, Tryz.ntmps9
  go_wp2_with fail
  refine (awake_any _ hT).mono ?_; rintro e w1 ⟨rfl, b1⟩
  have T1 := hT.below b1
  have HB1 := Lib.hid b1
  have cR := readRead_any l w1 T1
  clear b1 T1
  go_wp2_with fail
  refine cR.mono ?_; rintro e w2 ⟨u, x, pl, er, rfl, hr, hu, b2⟩
  obtain ⟨uk, un, ut, ua, ub, ui, uj, uca, ucb, rfl⟩ := hu.open'
  obtain ⟨cs, ecs, hcp⟩ := hu
  have hv2 : HV w2 (.agg #[.int .u8 uk, .int .i64 un, .string ut, .slice ua ui uca, .slice ub uj ucb]) x := ⟨cs, ecs, hcp.hc⟩
  have HUK := Lib.hid hv2.kind
  obtain ⟨W3, hW3⟩ : ∃ W, W = w2.alloc (.cells #[.int .u8 uk, .int .i64 un, .string ut, .slice ua ui uca, .slice ub uj ucb] 26) := ⟨_, rfl⟩
  have b3 : Below w2.heap.size w2 W3 := by rw [hW3]; exact (Below.refl _ _).alloc (Nat.le_refl _) _
  have V3 : VAt w2.heap.size W3 (.int .u8 uk) (.int .i64 un) (.string ut) (.slice ua ui uca) (.slice ub uj ucb) := by rw [hW3]; exact VAt.new ..
  have B3 := HB1.out.trans ((b2.trans (b3.mono b2.size)).mono HB1.out.size)
  have HB3 := Lib.hid B3
  have T3 := hT.below B3
  obtain ⟨eI, heI⟩ : ∃ z : Int, z = (er : Int) := ⟨_, rfl⟩
  obtain ⟨pI, hpI⟩ : ∃ z : Int, z = (pl : Int) := ⟨_, rfl⟩
  have HE := Lib.hid heI
  have HR := Lib.hid hr
  rw [← heI, ← hpI]
  clear cR hr b2 b3 hv2 hcp ecs heI hpI B3
  by_cases he : eI = 0
  case neg =>
    have hb : (eI != 0) = true := bne_iff_ne.2 he
    clear he V3
    go_wp2_with fail
    rw [← hW3]
    go_ret
    exact ⟨rfl, HB3.out⟩
  subst he
  obtain ⟨⟨p0, p1, p2, p3, p4⟩, pf⟩ := V3.cells
  rw [hW3] at p0 p1 p2 p3 p4 pf
  by_cases hk : x.k = 4 ∨ x.k = 5
  case neg =>
    have h4b : (uk != 4) = true := bne_iff_ne.2 (by have := HUK.out; omega)
    have h5b : (uk != 5) = true := bne_iff_ne.2 (by have := HUK.out; omega)
    clear hk
    go_wp2_with fail
    rw [← hW3]
    go_ret
    exact ⟨rfl, HB3.out⟩
  have HRD : Hid (RdIs l x pl 0) := by
    have h0 : er = 0 := by have := HE.out; omega
    have := HR.out
    rw [h0] at this
    exact this
  have HKK := Lib.hid hk
  have hall : Hid (∀ (i : Nat) (c : UInt8), l.length ≤ i → l[i]? = some c → c ≠ 93 ∧ c ≠ 125) := fun i c hi hc => by
    rw [List.getElem?_eq_none hi] at hc
    cases hc
  have hat := S_at l
  have h45 : uk = 4 ∨ uk = 5 := by have := HUK.out; omega
  have HL0 := HL.out
  clear hk V3
  have main : ∀ (K : Act → World → Prop), True := fun _ => trivial
  clear main
  rcases h45 with rfl | rfl
  all_goals
    go_wp2_with fail
    rw [← hW3]
    clear p0 p1 p2 p3 p4 pf
    go_loopw [8] (fun nv wr => ∃ n : Nat, nv = .int .i64 (n : Int) ∧ n ≤ l.length ∧ Hid (∀ (i : Nat) (c : UInt8), n ≤ i → l[i]? = some c → c ≠ 93 ∧ c ≠ 125) ∧ W3 = wr) (fun nv _ => (intOf nv).toNat)
    case atStart => exact ⟨l.length, by rw [← HL0], Nat.le_refl _, hall, rfl⟩
    case round =>
      obtain ⟨n, rfl, hn, HA, rfl⟩ := hrel
      rcases n with _ | k
      · exfalso
        obtain ⟨i, h⟩ := has_bracket HRD.out HKK.out
        rcases h with h | h
        · exact (HA.out i _ (Nat.zero_le _) h).1 rfl
        · exact (HA.out i _ (Nat.zero_le _) h).2 rfl
      obtain ⟨c, hc⟩ : ∃ c, l[k]? = some c := ⟨l[k]'(by omega), List.getElem?_eq_getElem _⟩
      have hbt := bt_of hc
      have hkl : k < l.length := by omega
      have HC := Lib.hid hc
      have e1 : (((k + 1 : Nat) : Int)) = (k : Int) + 1 := by omega
      rw [e1]
      clear e1
      have hn2 : (k : Int) < L := by rw [HL.out]; omega
      by_cases h3 : c = 93 ∨ c = 125
      case neg =>
        have n1 : ((c.toNat : Int) != 93) = true := by
          rw [bne_iff_ne]
          intro e
          exact h3 (.inl (UInt8.toNat_inj.1 (show c.toNat = 93 by omega)))
        have n2 : ((c.toNat : Int) != 125) = true := by
          rw [bne_iff_ne]
          intro e
          exact h3 (.inr (UInt8.toNat_inj.1 (show c.toNat = 125 by omega)))
        have HA2 : Hid (∀ (i : Nat) (d : UInt8), k ≤ i → l[i]? = some d → d ≠ 93 ∧ d ≠ 125) := fun i d hi hd => by
          by_cases hik : i = k
          · rw [hik, HC.out] at hd
            obtain rfl := Option.some.inj hd
            exact ⟨fun e => h3 (.inl e), fun e => h3 (.inr e)⟩
          · exact HA.out i d (by omega) hd
        clear h3 hc
        go_wp2_with fail
        go_roundw
        case rel => exact ⟨k, by first | rfl | go_num, by omega, HA2, by first | trivial | rfl⟩
        case measure => simp [intOf]
      have hU : 0 ≤ IntKind.u64.wrap at' := by simp [IntKind.wrap, IntKind.bits, IntKind.signed]; omega
      obtain ⟨A, hA⟩ : ∃ A : Nat, A = ((IntKind.u64.wrap at').tmod ((k : Int) + 1)).toNat := ⟨_, rfl⟩
      have hR0 : (IntKind.u64.wrap at').tmod ((k : Int) + 1) = (IntKind.u64.wrap at') % ((k : Int) + 1) := Int.tmod_eq_emod_of_nonneg hU
      have hR1 := Int.emod_nonneg (IntKind.u64.wrap at') (show ((k : Int) + 1) ≠ 0 by omega)
      have hR2 := Int.emod_lt_of_pos (IntKind.u64.wrap at') (show (0 : Int) < (k : Int) + 1 by omega)
      have hAk : A < k + 1 := by rw [hA, hR0]; omega
      have HAK := Lib.hid hAk
      have hsl := slice_upto l A (by omega)
      have cR2 := readRead_any (l.take A) W3 T3
      obtain ⟨AI, hAI⟩ : ∃ z : Int, z = (A : Int) := ⟨_, rfl⟩
      have hAm : wrap64 ((IntKind.u64.wrap at').tmod ((k : Int) + 1)) = AI := by
        rw [hAI, hA, hR0]
        unfold wrap64
        omega
      rw [← hAI] at hsl
      have hA0 : 0 ≤ AI := by omega
      have hA1 : AI ≤ (l.length : Int) := by omega
      have hA2 : AI ≤ L := by omega
      clear hc hA hAk hU hR0 hR1 hR2 hAI
      have HWS : Hid (Lm.ws c = false) := by
        show _ = _
        rcases h3 with rfl | rfl <;> rfl
      rcases h3 with rfl | rfl
      all_goals
        go_wp2_with fail
        rw [← hW3]
        refine cR2.mono ?_; rintro e w4 ⟨u2, y, pl2, er2, rfl, hr2, hu2, b4⟩
        obtain ⟨vk, vn, vt, va, vb, vi, vj, vca, vcb, rfl⟩ := hu2.open'
        have hne : er2 ≠ 0 := by
          refine front_bad (t := l.take A) (v := l.drop A) (x := x) (pl := pl) ?_ HKK.out ⟨_, ?_, HWS.out⟩ hr2
          · rw [List.take_append_drop]; exact HRD.out
          · have h9 := HAK.out
            have h8 : (l.drop A)[k - A]? = l[k]? := by rw [List.getElem?_drop]; congr 1; omega
            rw [HC.out] at h8
            exact List.mem_of_getElem? h8
        have hpl : pl2 ≤ A := by
          have h9 := (rd_may hr2 (by rw [List.length_take]; have := hl2.out; omega)).2 hne
          have h8 := h9.2
          rw [List.length_take] at h8
          omega
        obtain ⟨fI, hfI⟩ : ∃ z : Int, z = (er2 : Int) := ⟨_, rfl⟩
        obtain ⟨qI, hqI⟩ : ∃ z : Int, z = (pl2 : Int) := ⟨_, rfl⟩
        have hf0 : (fI != 0) = true := bne_iff_ne.2 (by omega)
        have hq0 : qI < (k : Int) + 1 := by have := HAK.out; omega
        rw [← hfI, ← hqI]
        have HB4 := Lib.hid b4
        clear cR2 hr2 hu2 b4 hne hpl hfI hqI
        go_wp2_with fail
        go_ret
        exact ⟨rfl, HB3.out.trans ((HB4.out.alloc HB4.out.size _).mono HB3.out.size)⟩
end
end Go.Proofs.YtpifbmcgadjhbaaGreatDoor

namespace Go.Proofs.YtpifbmcgadjhbaaGreatDoor.readFront
open Go.ChangeShapes Go.WideShapes Go.ChangeAt Go.RowKit

theorem reads (os : Os) {H : Type} (enc : TypeId × Value → H) : ∃ places, DataW.whole enc Tryz.prog ((laidWorld os).forCall (fun _ _ => 0) ⟨#[], #[.string ⟨#[]⟩, .int .i64 0], []⟩).memory Tryz.f9.params.toList Rows.readFrontSpec.vars false (#[.string ⟨#[]⟩, .int .i64 0] : Array Value).toList 8 = some ([.lit (.string []), .lit (.int .i64 0)], [], places) :=
  ⟨[], by kernel_rfl⟩

set_option maxRecDepth 100000 in
theorem lifted (os : Os) (started : os.Started) (H : Type) (enc : TypeId × Value → H) (F : Stop.Interp) :
    ReturnsInHanded {} Tryz.checked os 9 .any ((OpenSpec.ofChange Rows.readFrontSpec).preRow enc Tryz.prog Tryz.f9 Rows.readFrontRow.domain false Rows.readFrontRow.laid) (((OpenSpec.ofChange Rows.readFrontSpec).at F).post enc Tryz.prog Tryz.f9 false true false false) := by
  obtain ⟨places, hx⟩ := reads os enc
  refine returnsInHanded_of_row (C := Tryz.checked) (s := OpenSpec.ofChange Rows.readFrontSpec) own started (by kernel_rfl) Tryz.func9
    (witness_row_at (enc := enc) (C := Tryz.checked) false (laidWorld os) #[.string ⟨#[]⟩, .int .i64 0] rfl (by kernel_rfl) (by kernel_rfl) (by kernel_rfl)
      (OpenSpec.preRow_of_cond 8 hx (by kernel_rfl) (fun k hk => by cases hk) (by kernel_rfl) (laid_any os _))) ?_
  intro W base args ds gs before hval hW _ _ _ hL _ _
  have hW' := hW
  obtain ⟨p, q, hA, _, _, _, _⟩ := hW
  rw [Tryz.params9] at hA hval
  obtain ⟨v0, vs0, d0, ds0, p0, q0, hargs, _, _, h0, r0⟩ := trodAll_cons hA
  obtain ⟨v1, vs1, d1, ds1, p1, q1, rfl, _, _, h1, r1⟩ := trodAll_cons r0
  obtain ⟨rfl, _, _⟩ := trodAll_nil r1
  obtain rfl : args = #[v0, v1] := by cases args; simp_all
  obtain ⟨t0, rfl, b0⟩ := arg_string (hval 0 9 v0 rfl rfl) h0
  obtain ⟨x1, rfl, _⟩ := arg_int (hval 1 3 v1 rfl rfl) h1
  exact contract (s := Rows.readFrontSpec) rfl rfl (by kernel_rfl) (fun l hl => by
    rw [Tryz.params9] at hl
    match l, hl with
    | [_, _], _ => rfl) hW' (law_ReadFront t0 x1 W b0 (tabs_of hL))

theorem said : Rows.ReadFrontSaid :=
  OpenClaim.holds_of_cond 9 Tryz.f9 rfl rfl rfl rfl rfl rfl rfl ⟨rfl, rfl, rfl, rfl, rfl⟩ rfl rfl rfl rfl rfl (by kernel_rfl) Tryz.func9 (by kernel_rfl)
    (of_decide_eq_true (by kernel_rfl)) (by unfold Func.isWrapper; first | (rw [if_pos (by decide +kernel)]; kernel_rfl) | (rw [if_neg (by decide +kernel)]; exact ⟨rfl, rfl⟩))
    (fun os started H enc _ F => by rw [OpenClaim.pre_eq_preRow]; exact lifted os started H enc F)

theorem plain (f : FuncId) (fn : Func) (hf : Tryz.pinned.checked.prog.funcNamed "legate/legatelaw09.ReadFront" = some f) (hfn : Tryz.pinned.checked.prog.funcs[f]? = some fn) :
    true = Tryz.pinned.checked.prog.looks [] ∧ ∀ (j : Nat) t, fn.params[j]? = some t → Tryz.pinned.checked.prog.wantsStandIn t = false := by
  obtain rfl : f = 9 := Option.some.inj ((show Tryz.prog.funcNamed "legate/legatelaw09.ReadFront" = some 9 by kernel_rfl).symm.trans hf) |>.symm
  obtain rfl : fn = Tryz.f9 := (Option.some.inj (Tryz.func9.symm.trans hfn)).symm
  refine ⟨by kernel_rfl, fun j t ht => ?_⟩
  rw [Tryz.params9] at ht
  obtain rfl | rfl : t = 9 ∨ t = 3 := by simpa using Array.mem_of_getElem? ht
  · exact (show Tryz.prog.wantsStandIn 9 = false by kernel_rfl)
  · exact (show Tryz.prog.wantsStandIn 3 = false by kernel_rfl)

theorem card : Rows.ReadFrontCardSaid :=
  Claim7.holds_tied_plain_at .later [] _ _ _ _ said (fun _ h => by cases h) (by kernel_rfl) (fun _ h => by cases h) readFront_row_tie rfl ⟨rfl, rfl⟩ (by kernel_rfl) rfl plain (by kernel_rfl)
end Go.Proofs.YtpifbmcgadjhbaaGreatDoor.readFront
