/-
  A text of JSON, and a mark behind it: ErrMore there.
  The library's and the program's own tables, and the library's error, that the program's functions come to are what its text lays (the card ties them); nothing else is asked.
-/
import Derived.Test.YtoipjlhddpeicaaGreatDoorFrame
import Derived.Test.YtoipjlhddpeicaaGreatDoorLexTabs
import Derived.MakeChecks
import Derived.Lay
import Derived.Stop.LaidErr
import Derived.Test.YtoipjlhddpeicaaGreatDoorBunB
import Derived.Test.YtoipjlhddpeicaaGreatDoorLexRows
namespace Go.Proofs.YtoipjlhddpeicaaGreatDoor
open Go.ChangeShapes Go.WideShapes Go.ChangeAt Go.RowKit

/-- what every row of the seat lays -/
def LAID : List (String × DataW Unit) := Rows.readMoreRow.laid
theorem gDig : Tryz.prog.globalNamed "legate/hex.digits" = some 6 := by kernel_rfl
theorem gDigType : (Tryz.prog.globals[6]?).map (·.type) = some 206 := by kernel_rfl
theorem cellsDig : Tryz.prog.cellsOf 206 = 16 := by kernel_rfl
theorem cellsU8 : Tryz.prog.cellsOf 5 = 1 := by kernel_rfl
theorem row_of {name : String} {k : IntKind} {zs : List Int} {W : World} {g : Nat} (hg : Tryz.prog.globalNamed name = some g) (ht : Lib.TabIs Tryz.prog W name k zs) :
    ∃ t fr, W.heap[g]? = some (.cells (zs.map fun z => Value.int k z).toArray t fr) := by
  unfold Lib.TabIs World.var? at ht
  rw [hg] at ht
  simp only [Option.bind_some] at ht
  split at ht
  · rename_i cs t fr hx
    exact ⟨t, fr, by rw [hx]; simp only [Option.some.injEq] at ht; rw [ht]⟩
  · cases ht
theorem gPowType : (Tryz.prog.globals[5]?).map (·.type) = some 204 := by kernel_rfl
theorem cellsPow : Tryz.prog.cellsOf 204 = 20 := by kernel_rfl
theorem cellsU64 : Tryz.prog.cellsOf 144 = 1 := by kernel_rfl
theorem gRngType : (Tryz.prog.globals[2]?).map (·.type) = some 115 := by kernel_rfl
theorem rngRow : ∀ u, Tryz.prog.typeName? 3 u = some "*errors.errorString" → u = 175 := fun u h =>
  have star : "*" ++ "errors.errorString" = "*errors.errorString" := by decide
  typeName_ptr_named (nm := "errors.errorString") (by rw [star]; kernel_rfl) (by kernel_rfl) (by decide) u (by rw [star]; exact h)
theorem tabs_of {W : World} (h0 : laidMetH Tryz.prog LAID W) : TabL W := by
  have h : laidMet Tryz.prog LAID W := by rw [← MakeChecks.laidMetH_plain _ _ _ (by kernel_rfl)]; exact h0
  have h3 := laidMet_tail (laidMet_tail (laidMet_tail h))
  have h5 := laidMet_tail (laidMet_tail h3)
  have h1 : Lib.TabIs Tryz.prog W "legate/hex.digits" .u8 [48, 49, 50, 51, 52, 53, 54, 55, 56, 57, 97, 98, 99, 100, 101, 102] :=
    Lib.tabIs_of_head gDig gDigType Tryz.underlying206 Tryz.underlying5 cellsU8 cellsDig h
  refine ⟨row_of gDig h1, Lib.tabIs_of_head gPow gPowType Tryz.underlying204 Tryz.underlying144 cellsU64 cellsPow h3, ?_⟩
  obtain ⟨a, s, hv, _⟩ := laid_sentinel h5 gRng gRngType Tryz.underlying115 rngRow Tryz.underlying175 Tryz.underlying177 rfl rfl Tryz.underlying9 (by kernel_rfl) (by kernel_rfl)
  exact ⟨_, _, hv⟩
/-- a world in which the variables are laid: for the witness -/
noncomputable def laidWorld (os : Os) : World := World.laidAll Tryz.prog os LAID
theorem laid_fits (os : Os) : (World.holding Tryz.prog os ⟨#[], #[], []⟩).layFits Tryz.prog LAID [] = true := by kernel_rfl
theorem laid_ifaces (os : Os) : (World.holding Tryz.prog os ⟨#[], #[], []⟩).layIfaces Tryz.prog LAID (World.laidAll Tryz.prog os LAID) = true := by kernel_rfl
theorem laid_plain : (LAID.all fun x => x.2.handleName?.isNone) = true := by kernel_rfl
theorem laid_any (os : Os) (args : Array Value) : laidMetH Tryz.prog LAID ((laidWorld os).forCall (fun _ _ => 0) ⟨#[], args, []⟩).memory := by
  rw [MakeChecks.laidMetH_plain _ _ _ laid_plain]
  exact laidMet_laidAll args (laid_fits os) (laid_ifaces os)
end Go.Proofs.YtoipjlhddpeicaaGreatDoor
namespace Go.Proofs.YtoipjlhddpeicaaGreatDoor
open Go.RowKit

theorem TS.same {l : List UInt8} {p q : Nat} {ms : List Lm.Mark} {E : Nat × Nat} (hs : Lm.skip l p = Lm.skip l q) (h : TS l p ms E) : TS l q ms E := by
  cases h with
  | stop h => exact .stop (hs ▸ h)
  | bad h he => rw [hs] at h ⊢; exact .bad h he
  | more h hk ht => exact .more (hs ▸ h) hk ht
/-- behind a text whose marks are all there, a blank, and what stands behind it -/
theorem TS.ahead {s : List UInt8} (t : List UInt8) {p : Nat} {a : List Lm.Mark} {E : Nat × Nat} (h : TS s p a E) : p ≤ s.length → E.2 = 0 → ∀ b E', TS (s ++ 32 :: t) (s.length + 1) b E' → TS (s ++ 32 :: t) p (a ++ b) E' := by
  induction h with
  | @stop p h =>
    intro hp _ b E' hb
    obtain ⟨_, he⟩ := Lm.end_is hp h rfl
    exact hb.same ((Lm.skip_out _ hp he).trans (Lm.gap s t)).symm
  | bad h he => intro _ h0; exact absurd h0 he
  | @more p m ms E h hk hr ih =>
    intro hp h0 b E' hb
    have hon := Lm.on_le hp h hk
    have hs := Lm.skip_in (32 :: t) hp (show Lm.skip s p < s.length by omega)
    exact .more (by rw [hs, Lm.mark_in (.cons rfl t) (by omega) (by rw [h]; exact (by decide : (0 : Nat) ≠ 4)), h]) hk (ih (by omega) h0 b E' hb)
theorem Als.nil_of {r' : List Lm.Mark} (h : Rd.Als [] r') : r' = [] := by
  cases h
  rfl
/-- what P9.7 asks -/
theorem more_is {s t : List UInt8} {x : JV} {pl : Nat} {m : Lm.Mark} (h : RdIs s x pl 0) (hs : s.length ≤ 10000) (ht : t.length ≤ 10000) (hm : Lm.mark t (Lm.skip t 0) = (m, 0)) (hk : m.k ≠ 11) : RdIs (s ++ 32 :: t) J0 (s.length + 1 + m.a) 11 := by
  rcases h with ⟨h0, _⟩ | ⟨_, ms, E, f, r, y, q, hT, hP, hR, _, _⟩
  · omega
  obtain ⟨z, n, rfl, hE⟩ : ∃ z n, r = .ok z [] n ∧ E.2 = 0 := by
    match r, hR with
    | .bad p e0, hR => exact absurd hR.1.symm hR.2.2
    | .ok z [] n, hR => exact ⟨z, n, rfl, hR.1.symm⟩
    | .ok z (_ :: _) n, hR =>
      have : (0 : Nat) = 11 := hR.1
      omega
  have hlen : (s ++ 32 :: t).length = s.length + 1 + t.length := by simp; omega
  have hsk := Lm.skip_le (l := t) (p := 0) (Nat.zero_le _)
  -- the mark, behind
  have hm2 : Lm.mark (s ++ 32 :: t) (Lm.skip (s ++ 32 :: t) (s.length + 1)) = (Lm.mv (s.length + 1) m, 0) := by
    have e : s ++ 32 :: t = (s ++ [32]) ++ t := by simp
    have e2 : (s ++ [32]).length = s.length + 1 := by simp
    have h1 : Lm.skip (s ++ 32 :: t) (s.length + 1) = s.length + 1 + Lm.skip t 0 := by
      have := Lm.skip_shift (s ++ [32]) t 0
      rw [e2] at this
      rw [e]
      exact this
    rw [h1]
    have h2 := Lm.mark_shift (s ++ [32]) (t := t) (p := Lm.skip t 0) hsk
    rw [e2, hm, Lm.put_ok] at h2
    rw [e]
    exact h2
  obtain ⟨b, E', hb⟩ := TS.exists (s ++ 32 :: t) ((s ++ 32 :: t).length + 1) (Lm.mv (s.length + 1) m).b (by
    have := (mark_at (by rw [hlen]; have := Lm.skip_le (l := s ++ 32 :: t) (p := s.length + 1) (by omega); omega) hm2).2
    exact this) (by omega)
  have hT2 := hT.ahead t (Nat.zero_le _) hE _ _ (.more hm2 hk hb)
  obtain ⟨r', hr', hP2⟩ := Rd.P_al (E' := E') (Lm.mv (s.length + 1) m :: b) f .v ms 0 0 z [] n hP ms (Rd.Als.refl ms)
  obtain rfl := Als.nil_of hr'
  refine .inr ⟨by omega, _, E', f, _, J0, s.length + 1 + m.a, hT2, hP2, ⟨rfl, rfl⟩, (fun h => by cases h), fun _ => ⟨rfl, rfl⟩⟩
end Go.Proofs.YtoipjlhddpeicaaGreatDoor
namespace Go.Proofs.YtoipjlhddpeicaaGreatDoor
open Go.RowKit

set_option maxHeartbeats 8000000 in
set_option maxRecDepth 5000 in
theorem law_ReadMore (s t : ByteArray) (w : World) (hs : s.size ≤ maxLen) (ht : t.size ≤ maxLen) (hT : TabL w) :
    Calls Tryz.prog 10 #[.string s, .string t] w fun e w' => e = .returned (.bool true) ∧ Below w.heap.size w w' := by
  obtain ⟨l, rfl⟩ := as_S s
  obtain ⟨r, rfl⟩ := as_S t
  obtain ⟨L, hL⟩ : ∃ L : Int, L = (l.length : Int) := ⟨_, rfl⟩
  obtain ⟨R, hR⟩ : ∃ L : Int, L = (r.length : Int) := ⟨_, rfl⟩
  have hsz : ((S l).size : Int) = L := by rw [S_size, hL]
  have hrz : ((S r).size : Int) = R := by rw [S_size, hR]
  have HL := Lib.hid hL
  have HR := Lib.hid hR
  clear hL hR hs ht
  by_cases h2 : (10000 : Int) < L
  · go_enter Tryz.func10, Tryz.ntmps10
    go_wp2_with fail
    refine (awake_any _ hT).mono ?_; rintro e w1 ⟨rfl, b1⟩
    go_wp2_with fail
    go_ret
    exact ⟨rfl, b1⟩
  by_cases h3 : (10000 : Int) < R
  · go_enter Tryz.func10, Tryz.ntmps10
    go_wp2_with fail
    refine (awake_any _ hT).mono ?_; rintro e w1 ⟨rfl, b1⟩
    go_wp2_with fail
    go_ret
    exact ⟨rfl, b1⟩
  have hl1 : Hid (l.length ≤ 10000) := by have := HL.out; show l.length ≤ 10000; omega
  have hl2 : Hid (r.length ≤ 10000) := by have := HR.out; show r.length ≤ 10000; omega
  have a1 := add_S l [32] (by have := hl1.out; simp; omega)
  have a2 := add_S (l ++ [32]) r (by have := hl1.out; have := hl2.out; simp; omega)
  have e32 : l ++ [32] ++ r = l ++ 32 :: r := by simp
  rw [e32] at a2
  have hS32 : S [32] = ⟨#[32]⟩ := rfl
  rw [hS32] at a1
  go_enter Tryz.func10, Tryz.ntmps10
  go_wp2_with fail
  refine (awake_any _ hT).mono ?_; rintro e w1 ⟨rfl, b1⟩
  have T1 := hT.below b1
  have cR := readRead_any l w1 T1
  go_wp2_with fail
  refine cR.mono ?_; rintro e w2 ⟨u, x, pl, er, rfl, hr, hu, b2⟩
  obtain ⟨uk, un, ut, ua, ub, ui, uj, uca, ucb, rfl⟩ := hu.open'
  obtain ⟨W3, hW3⟩ : ∃ W, W = w2.alloc (.cells #[.int .u8 uk, .int .i64 un, .string ut, .slice ua ui uca, .slice ub uj ucb] 26) := ⟨_, rfl⟩
  have b3 : Below w2.heap.size w2 W3 := by rw [hW3]; exact (Below.refl _ _).alloc (Nat.le_refl _) _
  have B3 := b1.trans ((b2.trans (b3.mono b2.size)).mono b1.size)
  have T3 := hT.below B3
  obtain ⟨m, me, hm⟩ : ∃ m e, Lm.NEXT r 0 = (m, e) := ⟨_, _, rfl⟩
  have cN := lexNext_any r 0 W3 T3 (by have := hl2.out; omega)
  rw [hm] at cN
  have hm' : Lm.mark r (Lm.skip r 0) = (m, me) := by
    rw [← hm]
    unfold Lm.NEXT
    rw [if_pos ⟨Int.le_refl _, by omega⟩]
    rfl
  obtain ⟨eI, heI⟩ : ∃ z : Int, z = (er : Int) := ⟨_, rfl⟩
  obtain ⟨nI, hnI⟩ : ∃ z : Int, z = (me : Int) := ⟨_, rfl⟩
  obtain ⟨kI, hkI⟩ : ∃ z : Int, z = (m.k : Int) := ⟨_, rfl⟩
  obtain ⟨aI, haI⟩ : ∃ z : Int, z = (m.a : Int) := ⟨_, rfl⟩
  obtain ⟨bI, hbI⟩ : ∃ z : Int, z = (m.b : Int) := ⟨_, rfl⟩
  have cN : Calls Tryz.prog 25 #[.string (S r), .int .i64 0] W3 fun e w' => e = .returned (.tuple #[.agg #[.int .u8 kI, .int .i64 aI, .int .i64 bI, .int .i64 m.n, .string (S m.t)], .int .i64 nI]) ∧ Below W3.heap.size W3 w' := by
    rw [hkI, haI, hbI, hnI]
    exact cN
  rw [← heI]
  have HE := Lib.hid heI
  have HN := Lib.hid hnI
  have HK := Lib.hid hkI
  have HA := Lib.hid haI
  have HM := Lib.hid hm'
  have HRD := Lib.hid hr
  have HB3 := Lib.hid B3
  clear heI hnI hkI haI hbI hm hm' hr hu cR b1 b2 b3 B3 T1
  go_wp2_with fail
  rw [← hW3]
  clear hW3
  refine cN.mono ?_; rintro e w4 ⟨rfl, b4⟩
  obtain ⟨W5, hW5⟩ : ∃ W, W = w4.alloc (.cells #[.int .u8 kI, .int .i64 aI, .int .i64 bI, .int .i64 m.n, .string (S m.t)] 52) := ⟨_, rfl⟩
  have b5 : Below w4.heap.size w4 W5 := by rw [hW5]; exact (Below.refl _ _).alloc (Nat.le_refl _) _
  have M5 : MkAt w4.heap.size W5 (.int .u8 kI) (.int .i64 aI) (.int .i64 bI) (.int .i64 m.n) (.string (S m.t)) := by rw [hW5]; exact MkAt.new ..
  have B5 := HB3.out.trans ((b4.trans (b5.mono b4.size)).mono HB3.out.size)
  have HB5 := Lib.hid B5
  have T5 := hT.below B5
  clear cN b4 b5 T3
  by_cases he : eI = 0
  case neg =>
    have hb : (eI != 0) = true := bne_iff_ne.2 he
    clear he
    go_wp2_with fail
    rw [← hW5]
    go_ret
    exact ⟨rfl, HB5.out⟩
  subst he
  by_cases hn : nI = 0
  case neg =>
    have hb : (nI != 0) = true := bne_iff_ne.2 hn
    clear hn
    go_wp2_with fail
    rw [← hW5]
    go_ret
    exact ⟨rfl, HB5.out⟩
  subst hn
  by_cases hk : kI = 11
  case pos =>
    subst hk
    go_wp2_with fail
    rw [← hW5]
    go_ret
    exact ⟨rfl, HB5.out⟩
  have hkb : (kI == 11) = false := beq_eq_false_iff_ne.2 hk
  have hmk : m.k ≠ 11 := by have := HK.out; omega
  have hx : RdIs (l ++ 32 :: r) J0 (l.length + 1 + m.a) 11 := by
    have h0 : er = 0 := by have := HE.out; omega
    have h1 : me = 0 := by have := HN.out; omega
    have h2 := HRD.out
    have h3 := HM.out
    rw [h0] at h2
    rw [h1] at h3
    exact more_is h2 hl1.out hl2.out h3 hmk
  have hma : m.a ≤ 10000 := by
    have h1 : me = 0 := by have := HN.out; omega
    have h3 := HM.out
    rw [h1] at h3
    have := (mark_at (Lm.skip_le (Nat.zero_le _)) h3).1
    have h4 := Lm.skip_le (l := r) (p := 0) (Nat.zero_le _)
    have := hl2.out
    omega
  obtain ⟨pI, hpI⟩ : ∃ z : Int, z = ((l.length + 1 + m.a : Nat) : Int) := ⟨_, rfl⟩
  have hw2 : pI = wrap64 (L + 1 + aI) := by have := HL.out; have := hl1.out; have := HA.out; unfold wrap64; omega
  have HW2 := Lib.hid hw2
  clear hw2
  have cR2 := rd_call hx W5 T5
  have cR2 : Calls Tryz.prog 13 #[.string (S (l ++ 32 :: r))] W5 fun en w' => ∃ (kI nI : Int) (t : ByteArray) (a b : Option Addr) (i j ca cb : Nat), en = .returned (.tuple #[.agg #[.int .u8 kI, .int .i64 nI, .string t, .slice a i ca, .slice b j cb], .int .i64 pI, .int .i64 11]) ∧ HV w' (.agg #[.int .u8 kI, .int .i64 nI, .string t, .slice a i ca, .slice b j cb]) J0 ∧ Below W5.heap.size W5 w' := by
    rw [hpI]
    exact cR2
  have HM5 := Lib.hid M5
  clear hk hmk hx hpI M5 e32 T5 hma B5
  go_wp2_with fail
  rw [← hW5]
  clear hW5 hS32 a1 a2
  refine cR2.mono ?_; rintro e w6 ⟨vk, vn, vt, va, vb, vi, vj, vca, vcb, rfl, hv, b6⟩
  obtain ⟨W7, hW7⟩ : ∃ W, W = w6.alloc (.cells #[.int .u8 vk, .int .i64 vn, .string vt, .slice va vi vca, .slice vb vj vcb] 26) := ⟨_, rfl⟩
  have b7 : Below w6.heap.size w6 W7 := by rw [hW7]; exact (Below.refl _ _).alloc (Nat.le_refl _) _
  have b57 := b6.trans (b7.mono b6.size)
  have M7 : MkAt w4.heap.size W7 (.int .u8 kI) (.int .i64 aI) (.int .i64 bI) (.int .i64 m.n) (.string (S m.t)) := (b57.block _ (Array.getElem?_eq_some_iff.1 HM5.out).1).trans HM5.out
  have V7 : VAt w6.heap.size W7 (.int .u8 vk) (.int .i64 vn) (.string vt) (.slice va vi vca) (.slice vb vj vcb) := by rw [hW7]; exact VAt.new ..
  have HB7 := Lib.hid (HB5.out.trans (b57.mono HB5.out.size))
  have c1 := refSame_any _ J0 J0 (Nat.le_refl _) W7 _ _ (hv.below b7) (show HV W7 (.agg #[.int .u8 0, .int .i64 0, .string ⟨#[]⟩, .slice none 0 0, .slice none 0 0]) J0 from ⟨_, rfl, (HCp.bare (fun _ => True) W7 0 0 [] (by omega) (by omega) (Nat.zero_le _)).hc⟩)
  rw [JV.same_yes J0] at c1
  obtain ⟨⟨y0, y1, y2, y3, y4⟩, yf⟩ := MkAt.cells M7
  obtain ⟨⟨z0, z1, z2, z3, z4⟩, zf⟩ := VAt.cells V7
  have hw3 : (pI = wrap64 (L + 1 + aI)) = True := eq_true HW2.out
  clear cR2 hv b6 b7 b57 M7 V7
  rw [hW7] at y0 y1 y2 y3 y4 yf z0 z1 z2 z3 z4 zf
  go_wp2_with fail
  rw [← hW7]
  clear hW7 y0 y1 y2 y3 y4 yf z0 z1 z2 z3 z4 zf
  refine c1.mono ?_; rintro e w8 ⟨rfl, b8⟩
  have HB8 := Lib.hid (HB7.out.trans (b8.mono HB7.out.size))
  clear c1 b8
  go_wp2_with fail
  go_ret
  exact ⟨by show Ending.returned (Value.bool (pI == wrap64 (L + 1 + aI))) = _; rw [beq_iff_eq.2 HW2.out], HB8.out⟩
end Go.Proofs.YtoipjlhddpeicaaGreatDoor
namespace Go.Proofs.YtoipjlhddpeicaaGreatDoor.readMore
open Go.ChangeShapes Go.WideShapes Go.ChangeAt Go.RowKit

theorem reads (os : Os) {H : Type} (enc : TypeId × Value → H) : ∃ places, DataW.whole enc Tryz.prog ((laidWorld os).forCall (fun _ _ => 0) ⟨#[], #[.string ⟨#[]⟩, .string ⟨#[]⟩], []⟩).memory Tryz.f10.params.toList Rows.readMoreSpec.vars false (#[.string ⟨#[]⟩, .string ⟨#[]⟩] : Array Value).toList 8 = some ([.lit (.string []), .lit (.string [])], [], places) :=
  ⟨[], by kernel_rfl⟩

set_option maxRecDepth 100000 in
theorem lifted (os : Os) (started : os.Started) (H : Type) (enc : TypeId × Value → H) (F : Stop.Interp) :
    ReturnsInHanded {} Tryz.checked os 10 .any ((OpenSpec.ofChange Rows.readMoreSpec).preRow enc Tryz.prog Tryz.f10 Rows.readMoreRow.domain false Rows.readMoreRow.laid) (((OpenSpec.ofChange Rows.readMoreSpec).at F).post enc Tryz.prog Tryz.f10 false true false false) := by
  obtain ⟨places, hx⟩ := reads os enc
  refine returnsInHanded_of_row (C := Tryz.checked) (s := OpenSpec.ofChange Rows.readMoreSpec) own started (by kernel_rfl) Tryz.func10
    (witness_row_at (enc := enc) (C := Tryz.checked) false (laidWorld os) #[.string ⟨#[]⟩, .string ⟨#[]⟩] rfl (by kernel_rfl) (by kernel_rfl) (by kernel_rfl)
      (OpenSpec.preRow_of_cond 8 hx (by kernel_rfl) (fun k hk => by cases hk) (by kernel_rfl) (laid_any os _))) ?_
  intro W base args ds gs before hval hW _ _ _ hL _ _
  have hW' := hW
  obtain ⟨p, q, hA, _, _, _, _⟩ := hW
  rw [Tryz.params10] at hA hval
  obtain ⟨v0, vs0, d0, ds0, p0, q0, hargs, _, _, h0, r0⟩ := trodAll_cons hA
  obtain ⟨v1, vs1, d1, ds1, p1, q1, rfl, _, _, h1, r1⟩ := trodAll_cons r0
  obtain ⟨rfl, _, _⟩ := trodAll_nil r1
  obtain rfl : args = #[v0, v1] := by cases args; simp_all
  obtain ⟨t0, rfl, b0⟩ := arg_string (hval 0 9 v0 rfl rfl) h0
  obtain ⟨t1, rfl, b1⟩ := arg_string (hval 1 9 v1 rfl rfl) h1
  exact contract (s := Rows.readMoreSpec) rfl rfl (by kernel_rfl) (fun l hl => by
    rw [Tryz.params10] at hl
    match l, hl with
    | [_, _], _ => rfl) hW' (law_ReadMore t0 t1 W b0 b1 (tabs_of hL))

theorem said : Rows.ReadMoreSaid :=
  OpenClaim.holds_of_cond 10 Tryz.f10 rfl rfl rfl rfl rfl rfl rfl ⟨rfl, rfl, rfl, rfl, rfl⟩ rfl rfl rfl rfl rfl (by kernel_rfl) Tryz.func10 (by kernel_rfl)
    (of_decide_eq_true (by kernel_rfl)) (by unfold Func.isWrapper; first | (rw [if_pos (by decide +kernel)]; kernel_rfl) | (rw [if_neg (by decide +kernel)]; exact ⟨rfl, rfl⟩))
    (fun os started H enc _ F => by rw [OpenClaim.pre_eq_preRow]; exact lifted os started H enc F)

theorem plain (f : FuncId) (fn : Func) (hf : Tryz.pinned.checked.prog.funcNamed "legate/legatelaw09.ReadMore" = some f) (hfn : Tryz.pinned.checked.prog.funcs[f]? = some fn) :
    true = Tryz.pinned.checked.prog.looks [] ∧ ∀ (j : Nat) t, fn.params[j]? = some t → Tryz.pinned.checked.prog.wantsStandIn t = false := by
  obtain rfl : f = 10 := Option.some.inj ((show Tryz.prog.funcNamed "legate/legatelaw09.ReadMore" = some 10 by kernel_rfl).symm.trans hf) |>.symm
  obtain rfl : fn = Tryz.f10 := (Option.some.inj (Tryz.func10.symm.trans hfn)).symm
  refine ⟨by kernel_rfl, fun j t ht => ?_⟩
  rw [Tryz.params10] at ht
  obtain rfl : t = 9 := by simpa using Array.mem_of_getElem? ht
  exact (show Tryz.prog.wantsStandIn 9 = false by kernel_rfl)

theorem card : Rows.ReadMoreCardSaid :=
  Claim7.holds_tied_plain_at .later [] _ _ _ _ said (fun _ h => by cases h) (by kernel_rfl) (fun _ h => by cases h) readMore_row_tie rfl ⟨rfl, rfl⟩ (by kernel_rfl) rfl plain (by kernel_rfl)
end Go.Proofs.YtoipjlhddpeicaaGreatDoor.readMore
