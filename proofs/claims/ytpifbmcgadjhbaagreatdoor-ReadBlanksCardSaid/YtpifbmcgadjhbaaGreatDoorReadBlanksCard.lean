/-
  Blanks ahead of a text and behind it don't change what is read.
  The library's and the program's own tables, and the library's error, that the program's functions come to are what its text lays (the card ties them); nothing else is asked; nothing else is asked.
-/
import Derived.Test.YtpifbmcgadjhbaaGreatDoorFrame
import Derived.Test.YtpifbmcgadjhbaaGreatDoorLexTabs
import Derived.MakeChecks
import Derived.Lay
import Derived.Stop.LaidErr
import Derived.Test.YtpifbmcgadjhbaaGreatDoorBase
import Derived.Laws.MakeOwn
import Derived.Laws.IdiomStrings
import Derived.Test.YtpifbmcgadjhbaaGreatDoorBunS
namespace Go.Proofs.YtpifbmcgadjhbaaGreatDoor
section
open Go.ChangeShapes Go.WideShapes Go.ChangeAt Go.RowKit

/-- what every row of the seat lays -/
def LAID : List (String × DataW Unit) := Rows.readFrontRow.laid
theorem gDig : Tryz.prog.globalNamed "legate/hex.digits" = some 8 := by kernel_rfl
theorem gDigType : (Tryz.prog.globals[8]?).map (·.type) = some 220 := by kernel_rfl
theorem cellsDig : Tryz.prog.cellsOf 220 = 16 := by kernel_rfl
theorem cellsU8 : Tryz.prog.cellsOf 5 = 1 := by kernel_rfl
theorem row_of {name : String} {k : IntKind} {zs : List Int} {W : World} {g : Nat} (hg : Tryz.prog.globalNamed name = some g) (ht : Lib.TabIs Tryz.prog W name k zs) :
    ∃ t fr, W.heap[g]? = some (.cells (zs.map fun z => Value.int k z).toArray t fr) := by
  unfold Lib.TabIs World.var? at ht
  rw [hg] at ht
  simp only [Option.bind_some] at ht
  split at ht
  · rename_i cs t fr hx
    exact ⟨t, fr, by rw [hx]; simp only [Option.some.injEq] at ht; rw [ht]⟩
  · cases ht
theorem gPowType : (Tryz.prog.globals[0]?).map (·.type) = some 150 := by kernel_rfl
theorem cellsPow : Tryz.prog.cellsOf 150 = 20 := by kernel_rfl
theorem cellsU64 : Tryz.prog.cellsOf 139 = 1 := by kernel_rfl
theorem gRngType : (Tryz.prog.globals[5]?).map (·.type) = some 81 := by kernel_rfl
theorem rngRow : ∀ u, Tryz.prog.typeName? 3 u = some "*errors.errorString" → u = 207 := fun u h =>
  have star : "*" ++ "errors.errorString" = "*errors.errorString" := by decide
  typeName_ptr_named (nm := "errors.errorString") (by rw [star]; kernel_rfl) (by kernel_rfl) (by decide) u (by rw [star]; exact h)
theorem tabs_of {W : World} (h0 : laidMetH Tryz.prog LAID W) : TabL W := by
  have h : laidMet Tryz.prog LAID W := by rw [← MakeChecks.laidMetH_plain _ _ _ (by kernel_rfl)]; exact h0
  have h3 := laidMet_tail (laidMet_tail (laidMet_tail h))
  have h5 := laidMet_tail (laidMet_tail h3)
  have h1 : Lib.TabIs Tryz.prog W "legate/hex.digits" .u8 [48, 49, 50, 51, 52, 53, 54, 55, 56, 57, 97, 98, 99, 100, 101, 102] :=
    Lib.tabIs_of_head gDig gDigType Tryz.underlying220 Tryz.underlying5 cellsU8 cellsDig h
  refine ⟨row_of gDig h1, Lib.tabIs_of_head gPow gPowType Tryz.underlying150 Tryz.underlying139 cellsU64 cellsPow h3, ?_⟩
  obtain ⟨a, s, hv, _⟩ := laid_sentinel h5 gRng gRngType Tryz.underlying81 rngRow Tryz.underlying207 Tryz.underlying209 rfl rfl Tryz.underlying9 (by kernel_rfl) (by kernel_rfl)
  exact ⟨_, _, hv⟩
/-- a world in which the variables are laid: for the witness -/
noncomputable def laidWorld (os : Os) : World := World.laidAll Tryz.prog os LAID
theorem laid_fits (os : Os) : (World.holding Tryz.prog os ⟨#[], #[], []⟩).layFits Tryz.prog LAID [] = true := by kernel_rfl
theorem laid_ifaces (os : Os) : (World.holding Tryz.prog os ⟨#[], #[], []⟩).layIfaces Tryz.prog LAID (World.laidAll Tryz.prog os LAID) = true := by kernel_rfl
theorem laid_plain : (LAID.all fun x => x.2.handleName?.isNone) = true := by kernel_rfl
theorem laid_any (os : Os) (args : Array Value) : laidMetH Tryz.prog LAID ((laidWorld os).forCall (fun _ _ => 0) ⟨#[], args, []⟩).memory := by
  rw [MakeChecks.laidMetH_plain _ _ _ laid_plain]
  exact laidMet_laidAll args (laid_fits os) (laid_ifaces os)
end

section
open Go.RowKit

/-- bytes as cells; a name, so that the walk does not look behind it -/
def Bc (l : List UInt8) : Array Value := (V l).toArray
/-- k bytes c, zeros behind them, n in all -/
def Fz (c : UInt8) (n k : Nat) : List UInt8 := List.replicate k c ++ List.replicate (n - k) 0
theorem Fz_length (c : UInt8) (n k : Nat) (h : k ≤ n) : (Fz c n k).length = n := by simp [Fz]; omega
theorem Fz_full (c : UInt8) (n : Nat) : Fz c n n = List.replicate n c := by simp [Fz]
theorem Fz_set (c : UInt8) (n k : Nat) (h : k < n) : (Fz c n k).set k c = Fz c n (k + 1) := by
  unfold Fz
  rw [List.set_append_right _ _ (by simp), List.length_replicate, Nat.sub_self, show n - k = (n - (k + 1)) + 1 by omega, List.replicate_succ, List.set_cons_zero, List.replicate_succ', List.append_assoc]
  rfl
theorem Bc_size (l : List UInt8) : (Bc l).size = l.length := by simp [Bc, V]
theorem cell_Bc (w : World) (b : Nat) (l : List UInt8) (t : TypeId) (fr : Nat × Nat) (h : w.heap[b]? = some (.cells (Bc l) t fr)) (k : Nat) (hk : k < l.length) : w.cell? ⟨b, k, none⟩ = some (.int .u8 ((l[k]'hk).toNat : Int)) := by
  rw [cell_of_row w b k _ _ _ h]
  simp [Bc, V, List.getElem?_eq_getElem hk]
theorem made_Bc (c : UInt8) (n : Nat) : madeCells (Value.int .u8 0).cells (n * 1) = Bc (Fz c n 0) := by
  rw [show Fz c n 0 = List.replicate n 0 by simp [Fz], Nat.mul_one]
  apply Array.ext
  · rw [size_madeCells, Bc_size, List.length_replicate]
  · intro i h1 h2
    simp [madeCells, Bc, V, Value.cells, Nat.mod_one]
theorem run_make_Bc (c : UInt8) (n : Nat) (m : Int) (hc : m = (n : Int)) (hn : n ≤ 100000000) (w : World) :
    (Instr.makeSlice 36 (.int .i64 m) (.int .i64 m)).run Tryz.prog w = .ok (.slice (some ⟨w.heap.size, 0, none⟩) n n) (w.alloc (.cells (Bc (Fz c n 0)) 5)) := by
  subst hc
  obtain ⟨i0, hi, hz, hs, hb⟩ := info_parts info5
  have h := run_make (P := Tryz.prog) w 36 5 i0 _ Tryz.underlying36 hi hz .i64 .i64 (n : Int) (n : Int) (by omega) (by omega) (by rw [hb]; omega) (by omega)
  rw [h, Int.toNat_natCast, hs, made_Bc c]
theorem set_Bc (c : UInt8) (w : World) (b n : Nat) (t : TypeId) (fr : Nat × Nat) (k : Nat) (hk : k < n) (h : w.heap[b]? = some (.cells (Bc (Fz c n k)) t fr)) :
    (w.setCell ⟨b, k, none⟩ (.int .u8 (c.toNat : Int))).heap[b]? = some (.cells (Bc (Fz c n (k + 1))) t fr) := by
  have e : (Bc (Fz c n k)).setIfInBounds k (.int .u8 (c.toNat : Int)) = Bc (Fz c n (k + 1)) := by
    rw [← Fz_set c n k hk]
    simp [Bc, V, List.map_set]
  rw [← e]
  simp [World.setCell, Array.getElem?_modify, h]
theorem conv_Bc (c : UInt8) (w : World) (b n : Nat) (h : w.heap[b]? = some (.cells (Bc (Fz c n n)) 5 (0, 0))) :
    (convert 36 9 (.slice (some ⟨b, 0, none⟩) n n)).run Tryz.prog w = .ok (.string (S (List.replicate n c))) w := by
  rw [Fz_full] at h
  have hl : (List.replicate n c).length = n := List.length_replicate
  have := run_convert_bytes_back (P := Tryz.prog) w 36 9 5 ⟨b, 0, none⟩ n (List.replicate n c) Tryz.underlying36 Tryz.underlying5 Tryz.underlying9 (by
    intro j hj
    rw [hl] at hj
    have ha : (⟨b, 0, none⟩ : Addr).add j = ⟨b, j, none⟩ := by unfold Addr.add; split <;> simp_all
    rw [ha, cell_Bc w b _ _ _ h j (by rw [hl]; exact hj)])
  rw [hl] at this
  exact this
set_option maxHeartbeats 2000000 in
set_option maxRecDepth 4000 in
theorem bytes_any (c : UInt8) (n : Nat) (w : World) (hn : n ≤ 100000000) {cI nI : Int} (hc : cI = (c.toNat : Int)) (hN : nI = (n : Int)) :
    Calls Tryz.prog 16 #[.int .u8 cI, .int .i64 nI] w fun e w' => e = .returned (.string (S (List.replicate n c))) ∧ Below w.heap.size w w' := by
  have hmk := run_make_Bc c n nI hN hn
  have HN := Lib.hid hN
  have HC := Lib.hid hc
  obtain ⟨b, hb⟩ : ∃ b, b = w.heap.size := ⟨_, rfl⟩
  obtain ⟨W1, hW1⟩ : ∃ W, W = w.alloc (.cells (Bc (Fz c n 0)) 5) := ⟨_, rfl⟩
  have g1 : Below w.heap.size w W1 := by rw [hW1]; exact (Below.refl _ _).alloc (Nat.le_refl _) _
  have h1 : W1.heap[b]? = some (.cells (Bc (Fz c n 0)) 5 (0, 0)) := by rw [hW1, hb]; exact heap_alloc_new w _
  have HG1 := Lib.hid g1
  have H1 := Lib.hid h1
  have HB := Lib.hid hb
  clear hc hN g1 h1
  go_enter Tryz.func16, Tryz.ntmps16
  go_wp2_with fail
  rw [← hW1, ← hb]
  clear hW1 hb hmk
  go_loopw [6] (fun iv wr => ∃ k : Nat, iv = .int .i64 (k : Int) ∧ k ≤ n ∧ Hid (wr.heap[b]? = some (.cells (Bc (Fz c n k)) 5 (0, 0))) ∧ Below w.heap.size w wr) (fun iv _ => n - (intOf iv).toNat)
  case atStart => exact ⟨0, rfl, Nat.zero_le _, H1, HG1.out⟩
  case round =>
    obtain ⟨k, rfl, hk, HR, hbel⟩ := hrel
    have HBel := Lib.hid hbel
    clear hbel
    by_cases hlt : (k : Int) < nI
    · have hkn : k < n := by have := HN.out; omega
      obtain ⟨z, q0⟩ : ∃ z, wr.cell? ⟨b, k, none⟩ = some z := ⟨_, cell_Bc wr b _ _ _ HR.out k (by rw [Fz_length c n k hk]; exact hkn)⟩
      have qf : wr.frozen? ⟨b, k, none⟩ = false := Lib.frozen_of_heap HR.out k
      have hkI : (k : Int) < (n : Int) := by omega
      have HKN := Lib.hid hkn
      clear hkn
      go_wp2_with fail
      go_roundw
      case rel =>
        refine ⟨k + 1, by go_num, HKN.out, ?_, HBel.out.setCell (p := ⟨b, k, none⟩) (by show w.heap.size ≤ b; rw [HB.out]; exact Nat.le_refl _) _⟩
        have := set_Bc c wr b n _ _ k HKN.out HR.out
        rw [← HC.out] at this
        exact this
      case measure => have := HKN.out; simp [intOf]; omega
    · obtain rfl : k = n := by have := HN.out; omega
      have hcv := conv_Bc c wr b k HR.out
      go_wp2_with fail
      go_ret
      exact ⟨rfl, HBel.out⟩
end

section
open Go.RowKit

/-- which blank -/
def blk4 (k : Nat) : UInt8 := if k = 0 then 32 else if k = 1 then 9 else if k = 2 then 10 else 13
theorem blk4_ws (k : Nat) : Lm.ws (blk4 k) = true := by
  unfold blk4
  repeat' split
  all_goals rfl
theorem blk4_all (n k : Nat) : (List.replicate n (blk4 k)).all Lm.ws = true := by
  rw [List.all_eq_true]
  intro c hc
  rw [(List.mem_replicate.1 hc).2]
  exact blk4_ws k
set_option maxHeartbeats 8000000 in
set_option maxRecDepth 5000 in
theorem law_ReadBlanks (s : ByteArray) (n wh : UInt8) (w : World) (hs : s.size ≤ maxLen) (hT : TabL w) :
    Calls Tryz.prog 6 #[.string s, .int .u8 (n.toNat : Int), .int .u8 (wh.toNat : Int)] w fun e w' => e = .returned (.bool true) ∧ Below w.heap.size w w' := by
  obtain ⟨l, rfl⟩ := as_S s
  rw [S_size] at hs
  obtain ⟨L, hL⟩ : ∃ L : Int, L = (l.length : Int) := ⟨_, rfl⟩
  have hsz : ((S l).size : Int) = L := by rw [S_size, hL]
  have HL := Lib.hid hL
  obtain ⟨N, hN⟩ : ∃ N : Int, N = (n.toNat : Int) := ⟨_, rfl⟩
  obtain ⟨WI, hWI⟩ : ∃ N : Int, N = (wh.toNat : Int) := ⟨_, rfl⟩
  have hN0 : 0 ≤ N := by omega
  have hN1 : N < 256 := by have := n.toNat_lt; omega
  rw [← hN, ← hWI]
  have HN := Lib.hid hN
  have hn3 : n.toNat ≤ 255 := by have := n.toNat_lt; omega
  have HN3 := Lib.hid hn3
  have cB := fun w => bytes_any (blk4 (wh.toNat % 4)) n.toNat w (by omega) (cI := ((blk4 (wh.toNat % 4)).toNat : Int)) (nI := N) rfl hN
  have hix : ∀ h, ((⟨#[32, 9, 10, 13]⟩ : ByteArray)[(WI.tmod 4).toNat]'h).toNat = (blk4 (wh.toNat % 4)).toNat := by
    intro h
    have e : (WI.tmod 4).toNat = wh.toNat % 4 := by
      rw [hWI, Int.tmod_eq_emod_of_nonneg (by omega)]
      omega
    have h4 : wh.toNat % 4 < 4 := Nat.mod_lt _ (by decide)
    have key : ∀ k, k < 4 → ∀ h : k < (⟨#[32, 9, 10, 13]⟩ : ByteArray).size, ((⟨#[32, 9, 10, 13]⟩ : ByteArray)[k]'h).toNat = (blk4 k).toNat := by
      intro k hk h
      rcases (show k = 0 ∨ k = 1 ∨ k = 2 ∨ k = 3 by omega) with rfl | rfl | rfl | rfl <;> rfl
    have := key _ h4 (by rw [← e]; exact h)
    rw [← this]
    congr 1
    simp only [e]
  have hm0 : 0 ≤ WI.tmod 4 := by rw [Int.tmod_eq_emod_of_nonneg (by omega)]; omega
  have hm1 : WI.tmod 4 < 4 := by rw [Int.tmod_eq_emod_of_nonneg (by omega)]; omega
  obtain ⟨by', hby⟩ : ∃ b, b = List.replicate n.toNat (blk4 (wh.toNat % 4)) := ⟨_, rfl⟩
  have HWS : Hid (by'.all Lm.ws = true) := by show _ = _; rw [hby]; exact blk4_all _ _
  have HLB : Hid (by'.length = n.toNat) := by show _ = _; rw [hby]; exact List.length_replicate
  rw [← hby] at cB
  obtain ⟨C, hC⟩ : ∃ C : Nat, C = (blk4 (wh.toNat % 4)).toNat := ⟨_, rfl⟩
  rw [← hC] at cB hix
  clear hL hs hN hWI hby hn3 hC
  by_cases h2 : (20000 : Int) < L
  · go_enter Tryz.func6, Tryz.ntmps6
    go_wp2_with fail
    refine (awake_any _ hT).mono ?_; rintro e w1 ⟨rfl, b1⟩
    go_wp2_with fail
    go_ret
    exact ⟨rfl, b1⟩
  have hl2 : Hid (l.length ≤ 20000) := by have := HL.out; show l.length ≤ 20000; omega
  go_enter Tryz.func6, Tryz.ntmps6
  go_wp2_with fail
  refine (awake_any _ hT).mono ?_; rintro e w1 ⟨rfl, b1⟩
  have T1 := hT.below b1
  have HB1 := Lib.hid b1
  clear b1
  go_wp2_with fail
  refine (cB w1).mono ?_; rintro e w2 ⟨rfl, b2⟩
  have T2 := T1.below b2
  have HB2 := Lib.hid (HB1.out.trans (b2.mono HB1.out.size))
  have cR := readRead_any l w2 T2
  have hlb := HLB.out
  have hll := hl2.out
  have hnn := HN3.out
  have A1 := add_S by' l (by omega)
  have A2 := add_S l by' (by omega)
  clear b2 T1 cB hix hm0 hm1 hlb hll hnn
  go_wp2_with fail
  refine cR.mono ?_; rintro e w3 ⟨u, x, pl, er, rfl, hr, hu, b3⟩
  obtain ⟨uk, un, ut, ua, ub, ui, uj, uca, ucb, rfl⟩ := hu.open'
  obtain ⟨cs, ecs, hcp⟩ := hu
  have hv3 : HV w3 (.agg #[.int .u8 uk, .int .i64 un, .string ut, .slice ua ui uca, .slice ub uj ucb]) x := ⟨cs, ecs, hcp.hc⟩
  obtain ⟨q, hq⟩ : ∃ q, q = w3.heap.size := ⟨_, rfl⟩
  obtain ⟨W4, hW4⟩ : ∃ W, W = w3.alloc (.cells #[.int .u8 uk, .int .i64 un, .string ut, .slice ua ui uca, .slice ub uj ucb] 26) := ⟨_, rfl⟩
  have b4 : Below w3.heap.size w3 W4 := by rw [hW4]; exact (Below.refl _ _).alloc (Nat.le_refl _) _
  have V4 : VAt q W4 (.int .u8 uk) (.int .i64 un) (.string ut) (.slice ua ui uca) (.slice ub uj ucb) := by rw [hW4, hq]; exact VAt.new ..
  have B4 := HB2.out.trans ((b3.trans (b4.mono b3.size)).mono HB2.out.size)
  have HB4 := Lib.hid B4
  have HV4 := Lib.hid V4
  have HX4 := Lib.hid (hv3.below b4)
  have T4 := hT.below B4
  have HR := Lib.hid hr
  have hahead := blanks_ahead HWS.out hr (by rw [List.length_append]; have := HLB.out; have := hl2.out; have := HN3.out; omega)
  have cR2 := rd_call hahead W4 T4
  have HPL : Hid (pl ≤ 65536) := by
    have := rd_may hr hl2.out
    show pl ≤ 65536
    by_cases h0 : er = 0
    · rw [(this.1 h0).2.2]; omega
    · have := (this.2 h0).2; have := hl2.out; omega
  obtain ⟨eI, heI⟩ : ∃ z : Int, z = (er : Int) := ⟨_, rfl⟩
  obtain ⟨pI, hpI⟩ : ∃ z : Int, z = (pl : Int) := ⟨_, rfl⟩
  obtain ⟨pB, hpB⟩ : ∃ z : Int, z = ((if er = 0 then 0 else pl + by'.length : Nat) : Int) := ⟨_, rfl⟩
  have HE := Lib.hid heI
  have HP := Lib.hid hpI
  have HPB : Hid ((er = 0 → pB = 0) ∧ (er ≠ 0 → pB = pI + N)) := by
    refine ⟨fun h => by rw [hpB, if_pos h]; rfl, fun h => ?_⟩
    rw [hpB, if_neg h, hpI, HN.out, HLB.out]
    omega
  rw [← hpB, ← heI] at cR2
  rw [← heI, ← hpI]
  clear cR hr b3 hv3 hcp ecs b4 V4 B4 heI hpI hpB hahead
  go_wp2_with fail
  rw [← hW4, ← hq]
  clear hW4 hq
  refine cR2.mono ?_; rintro e w5 ⟨vk, vn, vt, va, vb, vi, vj, vca, vcb, rfl, hv5, b5⟩
  obtain ⟨r, hr⟩ : ∃ q, q = w5.heap.size := ⟨_, rfl⟩
  obtain ⟨W6, hW6⟩ : ∃ W, W = w5.alloc (.cells #[.int .u8 vk, .int .i64 vn, .string vt, .slice va vi vca, .slice vb vj vcb] 26) := ⟨_, rfl⟩
  have b6 : Below w5.heap.size w5 W6 := by rw [hW6]; exact (Below.refl _ _).alloc (Nat.le_refl _) _
  have V6 : VAt r W6 (.int .u8 vk) (.int .i64 vn) (.string vt) (.slice va vi vca) (.slice vb vj vcb) := by rw [hW6, hr]; exact VAt.new ..
  have b46 := b5.trans (b6.mono b5.size)
  have HB6 := Lib.hid (HB4.out.trans (b46.mono HB4.out.size))
  have HV6 := Lib.hid V6
  have HU6 := Lib.hid (hv5.below b6)
  have HX6 := Lib.hid (HX4.out.below b46)
  have HVA := Lib.hid (HV4.out.below b46)
  have T6 := T4.below b46
  clear cR2 b5 b6 b46 V6 hv5 T4
  by_cases he : eI = 0
  · subst he
    have her : er = 0 := by have := HE.out; omega
    obtain rfl : pB = 0 := HPB.out.1 her
    have hbeh := blanks_behind HWS.out (by have := HR.out; rw [her] at this; exact this) (by rw [List.length_append]; have := HLB.out; have := hl2.out; have := HN3.out; omega) (.inl rfl)
    rw [if_pos rfl] at hbeh
    have cR3 := rd_call hbeh W6 T6
    clear hbeh her
    go_wp2_with fail
    rw [← hW6, ← hr]
    clear hW6 hr
    refine cR3.mono ?_; rintro e w7 ⟨zk, zn, zt, za, zb, zi, zj, zca, zcb, rfl, hv7, b7⟩
    obtain ⟨W8, hW8⟩ : ∃ W, W = w7.alloc (.cells #[.int .u8 zk, .int .i64 zn, .string zt, .slice za zi zca, .slice zb zj zcb] 26) := ⟨_, rfl⟩
    have b8 : Below w7.heap.size w7 W8 := by rw [hW8]; exact (Below.refl _ _).alloc (Nat.le_refl _) _
    have b68 := b7.trans (b8.mono b7.size)
    have V8 : VAt w7.heap.size W8 (.int .u8 zk) (.int .i64 zn) (.string zt) (.slice za zi zca) (.slice zb zj zcb) := by rw [hW8]; exact VAt.new ..
    have HB8 := Lib.hid (HB6.out.trans (b68.mono HB6.out.size))
    have HZ8 := Lib.hid (hv7.below b8)
    have HU8 := Lib.hid (HU6.out.below b68)
    have HX8 := Lib.hid (HX6.out.below b68)
    have HV8 := Lib.hid V8
    have HVA8 := Lib.hid (HVA.out.below b68)
    have HVB8 := Lib.hid (HV6.out.below b68)
    have c1 := refSame_any _ x x (Nat.le_refl _) W8 _ _ HX8.out HU8.out
    rw [JV.same_yes] at c1
    obtain ⟨⟨p0, p1, p2, p3, p4⟩, pf⟩ := HVA8.out.cells
    obtain ⟨⟨q0, q1, q2, q3, q4⟩, qf⟩ := HVB8.out.cells
    clear cR3 b7 b8 b68 V8 hv7 T6
    rw [hW8] at p0 p1 p2 p3 p4 pf q0 q1 q2 q3 q4 qf
    go_wp2_with fail
    rw [← hW8]
    clear hW8 p0 p1 p2 p3 p4 pf q0 q1 q2 q3 q4 qf
    refine c1.mono ?_; rintro e w9 ⟨rfl, b9⟩
    have c2 := refSame_any _ x x (Nat.le_refl _) w9 _ _ (HZ8.out.below b9) (HX8.out.below b9)
    rw [JV.same_yes] at c2
    obtain ⟨⟨p0, p1, p2, p3, p4⟩, pf⟩ := (HVA8.out.below b9).cells
    obtain ⟨⟨q0, q1, q2, q3, q4⟩, qf⟩ := (HV8.out.below b9).cells
    have HB9 := Lib.hid (HB8.out.trans (b9.mono HB8.out.size))
    clear c1 b9
    go_wp2_with fail
    refine c2.mono ?_; rintro e w10 ⟨rfl, b10⟩
    have HB10 := Lib.hid (HB9.out.trans (b10.mono HB9.out.size))
    clear c2 b10 p0 p1 p2 p3 p4 pf q0 q1 q2 q3 q4 qf
    go_wp2_with fail
    go_ret
    exact ⟨rfl, HB10.out⟩
  · have her : er ≠ 0 := by have := HE.out; omega
    have hpB := HPB.out.2 her
    have he2 : (eI == 0) = false := beq_eq_false_iff_ne.2 he
    have HW2 : Hid (pB = wrap64 (pI + N)) := by have := HP.out; have := HPL.out; show _ = _; rw [hpB]; unfold wrap64; omega
    have hw4 : (pB != wrap64 (pI + N)) = false := by rw [← HW2.out]; simp
    have hw6 : (pB != pI + N) = false := by rw [hpB]; simp
    have hw7 : (pB == pI + N) = true := by rw [hpB]; simp
    have hw5 : (pB == wrap64 (pI + N)) = true := by rw [← HW2.out]; simp
    by_cases hs4 : eI = 4 ∧ pI = L
    · obtain ⟨rfl, rfl⟩ := hs4
      have h4 : er = 4 := by have := HE.out; omega
      have hpl : pl = l.length := by have := HP.out; have := HL.out; omega
      have hbeh := blanks_behind HWS.out (by have := HR.out; rw [h4] at this; exact this) (by rw [List.length_append]; have := HLB.out; have := hl2.out; have := HN3.out; omega) (.inr ⟨rfl, hpl⟩)
      rw [if_neg (by decide)] at hbeh
      have cR3 := rd_call hbeh W6 T6
      have hpp : ((pl + by'.length : Nat) : Int) = pB := by rw [hpB, HP.out, HN.out, HLB.out]; omega
      rw [hpp] at cR3
      clear hbeh her hpB he h4 hpl hpp
      go_wp2_with fail
      rw [← hW6, ← hr]
      clear hW6 hr
      refine cR3.mono ?_; rintro e w7 ⟨zk, zn, zt, za, zb, zi, zj, zca, zcb, rfl, hv7, b7⟩
      have HB7 := Lib.hid (HB6.out.trans (b7.mono HB6.out.size))
      clear cR3 b7 hv7
      go_wp2_with fail
      go_ret
      exact ⟨by first | rfl | simp [← HW2.out], HB7.out.alloc (by have := HB7.out.size; exact this) _⟩
    · have hor : eI ≠ 4 ∨ (eI = 4 ∧ pI ≠ L) := by
        by_cases h4 : eI = 4
        · exact .inr ⟨h4, fun h => hs4 ⟨h4, h⟩⟩
        · exact .inl h4
      clear hs4 her hpB
      rcases hor with h4 | ⟨rfl, h4⟩
      · have h4b : (eI == 4) = false := beq_eq_false_iff_ne.2 h4
        clear h4 he
        go_wp2_with fail
        rw [← hW6]
        go_ret
        exact ⟨rfl, HB6.out⟩
      · have h4b : (pI == L) = false := beq_eq_false_iff_ne.2 h4
        clear h4 he
        go_wp2_with fail
        rw [← hW6]
        go_ret
        exact ⟨rfl, HB6.out⟩
end
end Go.Proofs.YtpifbmcgadjhbaaGreatDoor

namespace Go.Proofs.YtpifbmcgadjhbaaGreatDoor.readBlanks
open Go.ChangeShapes Go.WideShapes Go.ChangeAt Go.RowKit

theorem reads (os : Os) {H : Type} (enc : TypeId × Value → H) : ∃ places, DataW.whole enc Tryz.prog ((laidWorld os).forCall (fun _ _ => 0) ⟨#[], #[.string ⟨#[]⟩, .int .u8 0, .int .u8 0], []⟩).memory Tryz.f6.params.toList Rows.readBlanksSpec.vars false (#[.string ⟨#[]⟩, .int .u8 0, .int .u8 0] : Array Value).toList 8 = some ([.lit (.string []), .lit (.int .u8 0), .lit (.int .u8 0)], [], places) :=
  ⟨[], by kernel_rfl⟩

set_option maxRecDepth 100000 in
theorem lifted (os : Os) (started : os.Started) (H : Type) (enc : TypeId × Value → H) (F : Stop.Interp) :
    ReturnsInHanded {} Tryz.checked os 6 .any ((OpenSpec.ofChange Rows.readBlanksSpec).preRow enc Tryz.prog Tryz.f6 Rows.readBlanksRow.domain false Rows.readBlanksRow.laid) (((OpenSpec.ofChange Rows.readBlanksSpec).at F).post enc Tryz.prog Tryz.f6 false true false false) := by
  obtain ⟨places, hx⟩ := reads os enc
  refine returnsInHanded_of_row (C := Tryz.checked) (s := OpenSpec.ofChange Rows.readBlanksSpec) own started (by kernel_rfl) Tryz.func6
    (witness_row_at (enc := enc) (C := Tryz.checked) false (laidWorld os) #[.string ⟨#[]⟩, .int .u8 0, .int .u8 0] rfl (by kernel_rfl) (by kernel_rfl) (by kernel_rfl)
      (OpenSpec.preRow_of_cond 8 hx (by kernel_rfl) (fun k hk => by cases hk) (by kernel_rfl) (laid_any os _))) ?_
  intro W base args ds gs before hval hW _ _ _ hL _ _
  have hW' := hW
  obtain ⟨p, q, hA, _, _, _, _⟩ := hW
  rw [Tryz.params6] at hA hval
  obtain ⟨v0, vs0, d0, ds0, p0, q0, hargs, _, _, h0, r0⟩ := trodAll_cons hA
  obtain ⟨v1, vs1, d1, ds1, p1, q1, rfl, _, _, h1, r1⟩ := trodAll_cons r0
  obtain ⟨v2, vs2, d2, ds2, p2, q2, rfl, _, _, h2, r2⟩ := trodAll_cons r1
  obtain ⟨rfl, _, _⟩ := trodAll_nil r2
  obtain rfl : args = #[v0, v1, v2] := by cases args; simp_all
  obtain ⟨t0, rfl, b0⟩ := arg_string (hval 0 9 v0 rfl rfl) h0
  obtain ⟨x1, rfl⟩ := arg_uint8 (hval 1 5 v1 rfl rfl) h1
  obtain ⟨x2, rfl⟩ := arg_uint8 (hval 2 5 v2 rfl rfl) h2
  exact contract (s := Rows.readBlanksSpec) rfl rfl (by kernel_rfl) (fun l hl => by
    rw [Tryz.params6] at hl
    match l, hl with
    | [_, _, _], _ => rfl) hW' (law_ReadBlanks t0 x1 x2 W b0 (tabs_of hL))

theorem said : Rows.ReadBlanksSaid :=
  OpenClaim.holds_of_cond 6 Tryz.f6 rfl rfl rfl rfl rfl rfl rfl ⟨rfl, rfl, rfl, rfl, rfl⟩ rfl rfl rfl rfl rfl (by kernel_rfl) Tryz.func6 (by kernel_rfl)
    (of_decide_eq_true (by kernel_rfl)) (by unfold Func.isWrapper; first | (rw [if_pos (by decide +kernel)]; kernel_rfl) | (rw [if_neg (by decide +kernel)]; exact ⟨rfl, rfl⟩))
    (fun os started H enc _ F => by rw [OpenClaim.pre_eq_preRow]; exact lifted os started H enc F)

theorem plain (f : FuncId) (fn : Func) (hf : Tryz.pinned.checked.prog.funcNamed "legate/legatelaw09.ReadBlanks" = some f) (hfn : Tryz.pinned.checked.prog.funcs[f]? = some fn) :
    true = Tryz.pinned.checked.prog.looks [] ∧ ∀ (j : Nat) t, fn.params[j]? = some t → Tryz.pinned.checked.prog.wantsStandIn t = false := by
  obtain rfl : f = 6 := Option.some.inj ((show Tryz.prog.funcNamed "legate/legatelaw09.ReadBlanks" = some 6 by kernel_rfl).symm.trans hf) |>.symm
  obtain rfl : fn = Tryz.f6 := (Option.some.inj (Tryz.func6.symm.trans hfn)).symm
  refine ⟨by kernel_rfl, fun j t ht => ?_⟩
  rw [Tryz.params6] at ht
  obtain rfl | rfl | rfl : t = 9 ∨ t = 5 ∨ t = 5 := by simpa using Array.mem_of_getElem? ht
  · exact (show Tryz.prog.wantsStandIn 9 = false by kernel_rfl)
  · exact (show Tryz.prog.wantsStandIn 5 = false by kernel_rfl)
  · exact (show Tryz.prog.wantsStandIn 5 = false by kernel_rfl)

theorem card : Rows.ReadBlanksCardSaid :=
  Claim7.holds_tied_plain_at .later [] _ _ _ _ said (fun _ h => by cases h) (by kernel_rfl) (fun _ h => by cases h) readBlanks_row_tie rfl ⟨rfl, rfl⟩ (by kernel_rfl) rfl plain (by kernel_rfl)
end Go.Proofs.YtpifbmcgadjhbaaGreatDoor.readBlanks
