/-
  The walk of ValueElse: it comes to true.
-/
import Derived.Test.YtcmalaabggohmaaValAwake
import Derived.Test.YtcmalaabggohmaaValElsA
namespace Go.Proofs.Ytcmalaabggohmaa
open Go.RowKit

theorem own_kept {w w' : World} {B n sz : Nat} {e : TypeId} {v : Value} {xs : List Value} (h : w.ownsRow B e sz v n xs) (hb : Below w.heap.size w w') : w'.ownsRow B e sz v n xs := by
  obtain ⟨h1, h2⟩ := id h
  refine ⟨h1, ?_⟩
  rcases h2 with h2 | ⟨g, cap, cur, rfl, h3, h4, h5⟩
  · exact .inl h2
  · exact .inr ⟨g, cap, cur, rfl, h3, (hb.block g (Array.getElem?_eq_some_iff.1 h4).1).trans h4, h5⟩
set_option maxHeartbeats 16000000 in
set_option maxRecDepth 10000 in
theorem law_ValueElse (y : JV) (v : Value) (n : Int) (s : ByteArray) (w : World) (hv : HV w v y) (hnn : -9223372036854775808 ≤ n ∧ n ≤ 9223372036854775807) (hs1 : s.size ≤ maxLen) :
    Calls Try.prog 9 #[v, .int .i64 n, .string s] w fun e w' => e = .returned (.bool true) ∧ Below w.heap.size w w' := by
  obtain ⟨l, rfl⟩ := as_S s
  obtain ⟨a, b, ca, cb, rfl, hV, hI, hN, hB⟩ := hv.open
  obtain ⟨W1, hW1⟩ : ∃ W, W = w.alloc (.cells #[.int .u8 (y.k : Int), .int .i64 y.n, .string (S y.t), .slice a y.ns.length ca, .slice b y.is.length cb] 25) := ⟨_, rfl⟩
  obtain ⟨W2, hW2⟩ : ∃ W, W = W1.alloc (.cells #[.int .u8 (y.k : Int), .int .i64 y.n, .string (S y.t), .slice a y.ns.length ca, .slice b y.is.length cb] 25) := ⟨_, rfl⟩
  have b1 : Below w.heap.size w W1 := by rw [hW1]; exact (Below.refl _ _).alloc (Nat.le_refl _) _
  have b12 : Below W1.heap.size W1 W2 := by rw [hW2]; exact (Below.refl _ _).alloc (Nat.le_refl _) _
  have V1 : VAt w.heap.size W1 (.int .u8 (y.k : Int)) (.int .i64 y.n) (.string (S y.t)) (.slice a y.ns.length ca) (.slice b y.is.length cb) := by rw [hW1]; exact VAt.new ..
  have c2 := b1.trans (b12.mono b1.size)
  have V2 := V1.below b12
  have i2 : W2.heap[W1.heap.size]? = some (.cells #[.int .u8 (y.k : Int), .int .i64 y.n, .string (S y.t), .slice a y.ns.length ca, .slice b y.is.length cb] 25 (0, 0)) := by rw [hW2]; exact heap_alloc_new W1 _
  have e1 : W1.heap.size = w.heap.size + 1 := by rw [hW1]; simp
  obtain ⟨cs, hcs, hc⟩ := hV W2 c2
  obtain rfl : cs = [.int .u8 (y.k : Int), .int .i64 y.n, .string (S y.t), .slice a y.ns.length ca, .slice b y.is.length cb] := by simpa using hcs.symm
  have cL := long_any [y] W2 (some ⟨W1.heap.size, 0, none⟩) 1 (by show 1 ≤ maxLen; unfold maxLen; omega) (.inr ⟨W1.heap.size, 0, rfl, HI.of_block i2 (HCS.one hc)⟩)
  rw [e1, show [y].length = 1 from rfl] at cL
  have HV2 : Hid (∀ W, Below W2.heap.size W2 W → VAt w.heap.size W (.int .u8 (y.k : Int)) (.int .i64 y.n) (.string (S y.t)) (.slice a y.ns.length ca) (.slice b y.is.length cb)) := fun W h => V2.below h
  have HVv : Hid (∀ W, Below W2.heap.size W2 W → HV W (.agg #[.int .u8 (y.k : Int), .int .i64 y.n, .string (S y.t), .slice a y.ns.length ca, .slice b y.is.length cb]) y) := fun W h => ⟨_, rfl, HC.below h y _ hc⟩
  have HII : Hid (y.is = [] ∨ ∃ blk off, b = some ⟨blk, off, none⟩ ∧ HI W2 blk off y.is) := hI.imp id fun ⟨blk, off, h1, h2⟩ => ⟨blk, off, h1, HI.below c2 _ _ _ h2⟩
  have HNN : Hid (NS W2 a y.ns) := hN.below c2
  have HJB := Lib.hid hB
  have C2 := Lib.hid c2
  have hsz := S_size l
  have HLM := Lib.hid hs1
  clear b1 b12 V1 V2 i2 hc hcs hI hN hB hV c2 e1 hv hs1
  go_enter Try.func9, Try.ntmps9
  go_wp2_with fail
  rw [← hW1, ← hW2]
  clear hW1 hW2
  refine cL.mono ?_; rintro e w2 ⟨⟨B, rfl, hB⟩, rfl⟩
  by_cases hl : (20000 : Int) < (l.length : Int)
  · cases B
    all_goals
      go_wp2_with fail
      refine (awake_any _).mono ?_; rintro e w3 ⟨rfl, b3⟩
      go_wp2_with fail
      go_ret
      exact ⟨rfl, C2.out.trans (b3.mono C2.out.size)⟩
  cases B with
  | true =>
    go_wp2_with fail
    refine (awake_any _).mono ?_; rintro e w3 ⟨rfl, b3⟩
    go_wp2_with fail
    go_ret
    exact ⟨rfl, C2.out.trans (b3.mono C2.out.size)⟩
  | false =>
  have hwt : y.wt ≤ 20000 := by
    have := hB rfl
    simp only [JV.wts] at this
    omega
  have HW := Lib.hid hwt
  obtain ⟨M, hM⟩ : ∃ M, y.may = M := ⟨_, rfl⟩
  have cM := may_any y W2 _ (by omega) (HVv.out W2 (Below.refl _ _)) hM
  obtain ⟨⟨p0, p1, p2, p3, p4⟩, _⟩ := (HV2.out W2 (Below.refl _ _)).cells
  have HM := Lib.hid hM
  clear hB cL hwt hM
  go_wp2_with fail
  refine cM.mono ?_; rintro e w3 ⟨rfl, b3⟩
  have B3 := Lib.hid b3
  clear b3 cM p0 p1 p2 p3 p4
  cases M with
  | false =>
    go_wp2_with fail
    refine (awake_any _).mono ?_; rintro e w4 ⟨rfl, b4⟩
    go_wp2_with fail
    go_ret
    exact ⟨rfl, C2.out.trans ((B3.out.trans (b4.mono B3.out.size)).mono C2.out.size)⟩
  | true =>
  go_wp2_with fail
  refine (awake_any _).mono ?_; rintro e w4 ⟨rfl, b4⟩
  have B4 := Lib.hid (B3.out.trans (b4.mono B3.out.size))
  clear b4
  go_wp2_with fail
  refine region_el (by kernel_rfl) (by kernel_rfl) (by simp) rfl (HV2.out _ B4.out) (fun z hz => by
    simp only [List.mem_cons, List.not_mem_nil, or_false] at hz
    rcases hz with rfl | rfl | rfl | rfl | rfl <;> rfl) (fun f u b7 b8 b9 b10 f7 f8 f9 f10 V7 V8 V9 V10 hge hne b5 => ?_)
  rw [putR_lit]
  simp only [putL, show ∀ i, pel i = ([29, 30, 31, 32, 7, 8, 9, 10].contains i) from fun _ => rfl]
  simp
  rw [f7, f8, f9, f10]
  have B5 := Lib.hid (B4.out.trans (b5.mono B4.out.size))
  have hgt : w.heap.size < w4.heap.size := by have h1 := (Array.getElem?_eq_some_iff.1 (HV2.out _ B4.out)).1; omega
  clear f7 f8 f9 f10
  obtain ⟨⟨p0, p1, p2, p3, p4⟩, pf⟩ := V7.cells
  have b5' := b5.setCell (p := ⟨b7, 1, none⟩) hge.1 (.int .i64 n)
  have V8' : VAt b8 (u.setCell ⟨b7, 1, none⟩ (.int .i64 n)) (.int .u8 (y.k : Int)) (.int .i64 y.n) (.string (S y.t)) (.slice a y.ns.length ca) (.slice b y.is.length cb) := (heap_setCell_other u ⟨b7, 1, none⟩ b8 _ (fun e => hne.1 e.symm)).trans V8
  obtain ⟨⟨q0, q1, q2, q3, q4⟩, qf⟩ := V8'.cells
  have b6' := b5'.setCell (p := ⟨b8, 2, none⟩) hge.2.1 (.string (S l))
  have C6 := B4.out.trans (b6'.mono B4.out.size)
  obtain ⟨U, hU⟩ : ∃ U, U = (u.setCell ⟨b7, 1, none⟩ (.int .i64 n)).setCell ⟨b8, 2, none⟩ (.string (S l)) := ⟨_, rfl⟩
  rw [← hU] at C6 b6'
  have hUs : U.heap.size = u.heap.size := by rw [hU]; simp
  have hnl : y.ns.length ≤ 90000 := by have := HW.out; have := y.wt_eq; have := JV.wn_len y.ns; omega
  have hil : y.is.length ≤ 90000 := by have := HW.out; have := y.cnt_wt; have := y.cnt_eq; have := JV.len_le y.is; omega
  have X7 : VAt b7 U (.int .u8 (y.k : Int)) (.int .i64 n) (.string (S y.t)) (.slice a y.ns.length ca) (.slice b y.is.length cb) := by
    rw [hU]
    exact (heap_setCell_other _ ⟨b8, 2, none⟩ b7 _ hne.1).trans (heap_setCell_same u b7 1 _ _ _ V7)
  have X8 : VAt b8 U (.int .u8 (y.k : Int)) (.int .i64 y.n) (.string (S l)) (.slice a y.ns.length ca) (.slice b y.is.length cb) := by
    rw [hU]
    exact heap_setCell_same _ b8 2 _ _ _ V8'
  have X9 : VAt b9 U (.int .u8 (y.k : Int)) (.int .i64 y.n) (.string (S y.t)) (.slice a y.ns.length ca) (.slice b y.is.length cb) := by
    rw [hU]
    exact (heap_setCell_other _ ⟨b8, 2, none⟩ b9 _ hne.2.2.2.1.symm).trans ((heap_setCell_other u ⟨b7, 1, none⟩ b9 _ hne.2.1.symm).trans V9)
  have X10 : VAt b10 U (.int .u8 (y.k : Int)) (.int .i64 y.n) (.string (S y.t)) (.slice a y.ns.length ca) (.slice b y.is.length cb) := by
    rw [hU]
    exact (heap_setCell_other _ ⟨b8, 2, none⟩ b10 _ hne.2.2.2.2.1.symm).trans ((heap_setCell_other u ⟨b7, 1, none⟩ b10 _ hne.2.2.1.symm).trans V10)
  have ba : Below U.heap.size U (U.alloc (.cells #[] 9)) := (Below.refl _ _).alloc (Nat.le_refl _) _
  obtain ⟨⟨_, _, _, r3, _⟩, _⟩ := (HV2.out _ (C6.trans (ba.mono C6.size))).cells
  obtain ⟨pA, lA, kA, w6, hr1, o1, bA⟩ := run_names0 U 22 a ca y.ns (HNN.out.below C6) hnl
  obtain ⟨i0, hi0, hz0, hz1, hz2⟩ := info_parts info_name
  obtain ⟨vC, w7, hr2, o2, g2, _⟩ := run_append_own (P := Try.prog) (w6.alloc (.cells #[.string (S l)] 9)) U.heap.size 22 22 9 i0 (.string ⟨#[]⟩) 1 16 Try.underlying22 hi0 hz0 hz1 hz2 rfl (by decide) _ y.ns.length (NC y.ns) (o1.alloc _) ⟨w6.heap.size, 0, none⟩ 1 1 [.string (S l)] rfl
    (World.news_of_block (cs := #[.string (S l)]) (t := 9) (fr := (0, 0)) (heap_alloc_new w6 _)) (by simp [Value.oneCell']) (by unfold maxLen; omega) (by omega) (by simp; have := bA.size; omega)
  obtain ⟨pC, lC, kC, rfl⟩ : ∃ pp ll kk, vC = .slice pp ll kk := by
    rcases o2.2 with ⟨rfl, _⟩ | ⟨g, cap, _, rfl, _⟩
    · exact ⟨_, _, _, rfl⟩
    · exact ⟨_, _, _, rfl⟩
  have bC : Below U.heap.size U w7 := (bA.trans (((Below.refl _ _).alloc (Nat.le_refl _) _ : Below w6.heap.size w6 (w6.alloc (.cells #[.string (S l)] 9))).mono bA.size)).grown g2 (by simp; have := bA.size; omega) (fun k e => (o1.lt k e).1)
  obtain ⟨⟨s0, s1, s2, s3, s4⟩, sf⟩ := (X9.below bC).cells
  have hlt9 := (Array.getElem?_eq_some_iff.1 X9).1
  rw [hUs] at hr1
  rw [hU] at hr1 r3
  have HU := Lib.hid hU
  clear hU
  -- region 7's row, ahead
  obtain ⟨N7, hN7⟩ : ∃ N, N = w7.setCell ⟨b9, 3, none⟩ (.slice pC lC kC) := ⟨_, rfl⟩
  have hb9U : U.heap.size ≤ w7.heap.size := bC.size
  have bN : Below w4.heap.size w4 N7 := by rw [hN7]; exact (b6'.trans (bC.mono b6'.size)).setCell (p := ⟨b9, 3, none⟩) hge.2.2.1 _
  have bNa : Below N7.heap.size N7 (N7.alloc (.cells #[] 25)) := (Below.refl _ _).alloc (Nat.le_refl _) _
  have CN := B4.out.trans (bN.mono B4.out.size)
  obtain ⟨⟨_, _, _, _, t4⟩, _⟩ := (HV2.out _ (CN.trans (bNa.mono CN.size))).cells
  obtain ⟨pD, lD, kD, w8, cs8, hr3, o3, hcs8, bD⟩ := run_items0 W2 N7 CN 23 b cb y.is HII.out hil
  have hNs : N7.heap.size = w7.heap.size := by rw [hN7]; simp
  rw [hNs] at hr3
  rw [hN7] at hr3 t4
  have HN7 := Lib.hid hN7
  have CNum := num_any n w8 hnn
  clear hN7
  go_wp2_with (at_builtin; first | refine Lib.wpList_append_run _ rfl _ _ _ _ rfl _ _ rfl rfl _ _ hr1 ?_ | refine Lib.wpList_append_run _ rfl _ _ _ _ rfl _ _ rfl rfl _ _ hr2 ?_ | refine Lib.wpList_append_run _ rfl _ _ _ _ rfl _ _ rfl rfl _ _ hr3 ?_)
  refine CNum.mono ?_; rintro e w9 ⟨vn, rfl, hvn, bnum⟩
  obtain ⟨_, _, _, _, _, rfl, hcn, na, nb, nca, ncb, rfl, rfl, rfl, rfl, rfl⟩ := hvn.cells
  clear hr1 hr2 hr3 o1 g2 p0 p1 p2 p3 p4 q0 q1 q2 q3 q4 r3 s0 s1 s2 s3 s4 t4
  obtain ⟨i5, hi5, hz5, hz51, hz52⟩ := info_parts info_val
  have hone : ∀ u ∈ [Value.int .u8 ((JV.num n).k : Int), .int .i64 (JV.num n).n, .string (S (JV.num n).t), .slice na (JV.num n).ns.length nca, .slice nb (JV.num n).is.length ncb], u.oneCell' = true := fun u hu => by
    simp only [List.mem_cons, List.not_mem_nil, or_false] at hu
    rcases hu with rfl | rfl | rfl | rfl | rfl <;> rfl
  obtain ⟨vD, w10, hr4, o4, g4, _⟩ := run_append_own (P := Try.prog) (w9.alloc (.cells #[.int .u8 ((JV.num n).k : Int), .int .i64 (JV.num n).n, .string (S (JV.num n).t), .slice na (JV.num n).ns.length nca, .slice nb (JV.num n).is.length ncb] 25)) N7.heap.size 23 23 25 i5 (.agg V5) 5 80 Try.underlying23 hi5 hz5 hz51 hz52 rfl (by decide) _ y.is.length cs8 ((own_kept o3 bnum).alloc _) ⟨w9.heap.size, 0, none⟩ 1 1 _ rfl
    (World.news_of_block (cs := #[.int .u8 ((JV.num n).k : Int), .int .i64 (JV.num n).n, .string (S (JV.num n).t), .slice na (JV.num n).ns.length nca, .slice nb (JV.num n).is.length ncb]) (t := 25) (fr := (0, 0)) (heap_alloc_new w9 _)) hone (by unfold maxLen; omega) (by omega) (by simp; have := bD.size; have := bnum.size; omega)
  obtain ⟨pE, lE, kE, rfl⟩ : ∃ pp ll kk, vD = .slice pp ll kk := by
    rcases o4.2 with ⟨rfl, _⟩ | ⟨g, cap, _, rfl, _⟩
    · exact ⟨_, _, _, rfl⟩
    · exact ⟨_, _, _, rfl⟩
  have bX : Below N7.heap.size N7 w10 := ((bD.trans (bnum.mono bD.size)).trans (((Below.refl _ _).alloc (Nat.le_refl _) _ : Below w9.heap.size w9 (w9.alloc (.cells #[.int .u8 ((JV.num n).k : Int), .int .i64 (JV.num n).n, .string (S (JV.num n).t), .slice na (JV.num n).ns.length nca, .slice nb (JV.num n).is.length ncb] 25))).mono (bD.trans (bnum.mono bD.size)).size)).grown g4 (by simp; have := bD.size; have := bnum.size; omega) (fun k e => (o3.lt k e).1)
  have Y10 : VAt b10 N7 (.int .u8 (y.k : Int)) (.int .i64 y.n) (.string (S y.t)) (.slice a y.ns.length ca) (.slice b y.is.length cb) := by
    rw [HN7.out]
    exact (heap_setCell_other w7 ⟨b9, 3, none⟩ b10 _ hne.2.2.2.2.2.symm).trans (X10.below bC)
  obtain ⟨⟨s0, s1, s2, s3, s4⟩, sf⟩ := (Y10.below bX).cells
  -- the world behind, and what lies in it
  obtain ⟨N8, hN8⟩ : ∃ N, N = w10.setCell ⟨b10, 4, none⟩ (.slice pE lE kE) := ⟨_, rfl⟩
  have bN8 : Below w4.heap.size w4 N8 := by rw [hN8]; exact (bN.trans (bX.mono bN.size)).setCell (p := ⟨b10, 4, none⟩) hge.2.2.2 _
  have CN8 := B4.out.trans (bN8.mono B4.out.size)
  have toN8 : ∀ {bb : Nat} {a0 a1 a2 a3 a4 : Value}, bb ≠ b9 → bb ≠ b10 → VAt bb U a0 a1 a2 a3 a4 → VAt bb N8 a0 a1 a2 a3 a4 := fun {bb} {a0} {a1} {a2} {a3} {a4} h9 h10 h => by
    have h1 : VAt bb N7 a0 a1 a2 a3 a4 := by
      rw [HN7.out]
      exact (heap_setCell_other w7 ⟨b9, 3, none⟩ bb _ h9).trans (h.below bC)
    rw [hN8]
    exact (heap_setCell_other w10 ⟨b10, 4, none⟩ bb _ h10).trans (h1.below bX)
  have Z7 := toN8 hne.2.1 hne.2.2.1 X7
  have Z8 := toN8 hne.2.2.2.1 hne.2.2.2.2.1 X8
  have Z9 : VAt b9 N8 (.int .u8 (y.k : Int)) (.int .i64 y.n) (.string (S y.t)) (.slice pC lC kC) (.slice b y.is.length cb) := by
    have h1 : VAt b9 N7 (.int .u8 (y.k : Int)) (.int .i64 y.n) (.string (S y.t)) (.slice pC lC kC) (.slice b y.is.length cb) := by
      rw [HN7.out]
      exact (X9.below bC).set3 _
    rw [hN8]
    exact (heap_setCell_other w10 ⟨b10, 4, none⟩ b9 _ hne.2.2.2.2.2).trans (h1.below bX)
  have Z10 : VAt b10 N8 (.int .u8 (y.k : Int)) (.int .i64 y.n) (.string (S y.t)) (.slice a y.ns.length ca) (.slice pE lE kE) := by
    rw [hN8]
    exact (Y10.below bX).set4 _
  have hlt10 := (Array.getElem?_eq_some_iff.1 Y10).1
  have P4 : N8.ownsRow N7.heap.size 25 5 (.slice pE lE kE) (y.is.length + 1) (cs8 ++ [.int .u8 ((JV.num n).k : Int), .int .i64 (JV.num n).n, .string (S (JV.num n).t), .slice na (JV.num n).ns.length nca, .slice nb (JV.num n).is.length ncb]) := by
    rw [hN8]
    exact ownsRow_setCell_below (a := ⟨b10, 4, none⟩) o4 hlt10 _
  have hltU9 : b9 < U.heap.size := (Array.getElem?_eq_some_iff.1 X9).1
  have hltU10 : b10 < U.heap.size := (Array.getElem?_eq_some_iff.1 X10).1
  have P2 : N8.ownsRow U.heap.size 9 1 (.slice pC lC kC) (y.ns.length + 1) (NC y.ns ++ [.string (S l)]) := by
    rw [hN8]
    refine ownsRow_setCell_below (a := ⟨b10, 4, none⟩) (own_kept ?_ bX) hltU10 _
    rw [HN7.out]
    exact ownsRow_setCell_below (a := ⟨b9, 3, none⟩) o2 hltU9 _
  obtain ⟨j1, j2, j3, j4, j5, j6⟩ := HJB.out
  have hNS8 := HNN.out.below CN8
  have hII8 : y.is = [] ∨ ∃ blk off, b = some ⟨blk, off, none⟩ ∧ HI N8 blk off y.is := HII.out.imp id fun ⟨blk, off, h1, h2⟩ => ⟨blk, off, h1, HI.below CN8 _ _ _ h2⟩
  have H7 := HV.of N8 y.k n y.t y.ns y.is a b ca cb ⟨j1, hnn, j3, j4, j5, j6⟩ hNS8 hII8
  have H8 := HV.of N8 y.k y.n l y.ns y.is a b ca cb ⟨j1, j2, by rw [← hsz]; exact HLM.out, j4, j5, j6⟩ hNS8 hII8
  have hB1 : Hid (∀ {k : Nat} {n : Int} {t : List UInt8} {ns : List (List UInt8)} {is : List JV}, True) := fun {_ _ _ _ _} => trivial
  clear hB1
  have hyp : Hid (y.part = true) := JV.part_of_may HM.out
  have hwl : Hid (l.length ≤ 20000) := by rw [Hid]; omega
  have ln1 : (y.ns ++ [l]).length = y.ns.length + 1 := by rw [List.length_append, List.length_singleton]
  have ln2 : (y.is ++ [JV.num n]).length = y.is.length + 1 := by rw [List.length_append, List.length_singleton]
  have H9 : ∃ pa ca', Value.slice pC lC kC = .slice pa (y.ns.length + 1) ca' ∧ NS N8 pa (y.ns ++ [l]) := by
    have h : N8.ownsRow U.heap.size 9 1 (.slice pC lC kC) (y.ns ++ [l]).length (NC (y.ns ++ [l])) := by rw [NC_snoc, ln1]; exact P2
    obtain ⟨pa, ca', e, h⟩ := NS.of_own h
    rw [ln1] at e
    exact ⟨pa, ca', e, h⟩
  obtain ⟨pC', kC', e9, hN9⟩ := H9
  simp only [Value.slice.injEq] at e9
  obtain ⟨rfl, rfl, rfl⟩ := e9
  have hcsd : HCS N8 (cs8 ++ [.int .u8 ((JV.num n).k : Int), .int .i64 (JV.num n).n, .string (S (JV.num n).t), .slice na (JV.num n).ns.length nca, .slice nb (JV.num n).is.length ncb]) (y.is ++ [JV.num n]) := by
    refine HCS.snoc ?_ (HCS.below CN8 _ _ hcs8)
    obtain ⟨qa, qb, qca, qcb, e, hJ, _, _⟩ := hcn.form
    unfold JV.num HC
    exact ⟨na, nb, nca, ncb, rfl, hJ, NS.nil _ _, .inl rfl⟩
  have H10 : ∃ pa ca', Value.slice pE lE kE = .slice pa (y.is.length + 1) ca' ∧ (y.is ++ [JV.num n] = [] ∨ ∃ blk off, pa = some ⟨blk, off, none⟩ ∧ HI N8 blk off (y.is ++ [JV.num n])) := by
    have h : N8.ownsRow N7.heap.size 25 5 (.slice pE lE kE) (y.is ++ [JV.num n]).length (cs8 ++ [.int .u8 ((JV.num n).k : Int), .int .i64 (JV.num n).n, .string (S (JV.num n).t), .slice na (JV.num n).ns.length nca, .slice nb (JV.num n).is.length ncb]) := by rw [ln2]; exact P4
    obtain ⟨pa, ca', e, h⟩ := HI.of_own h hcsd
    rw [ln2] at e
    exact ⟨pa, ca', e, h⟩
  obtain ⟨pE', kE', e10, hI10⟩ := H10
  simp only [Value.slice.injEq] at e10
  obtain ⟨rfl, rfl, rfl⟩ := e10
  have H9 := HV.of N8 y.k y.n y.t (y.ns ++ [l]) y.is pC b kC cb ⟨j1, j2, j3, by rw [List.length_append, List.length_singleton]; unfold maxLen; omega, j5, fun z hz => by
    rcases List.mem_append.1 hz with hz | hz
    · exact j6 z hz
    · rw [List.mem_singleton.1 hz, ← hsz]; exact HLM.out⟩ hN9 hII8
  have H10 := HV.of N8 y.k y.n y.t y.ns (y.is ++ [JV.num n]) a pE ca kE ⟨j1, j2, j3, j4, by rw [List.length_append, List.length_singleton]; unfold maxLen; omega, j6⟩ hNS8 hI10
  rw [ln1] at H9
  rw [ln2] at H10
  have hye := y.eta
  have hpy : JV.part (.mk y.k y.n y.t y.ns y.is) = true := by rw [← hye]; exact hyp.out
  have hwy := y.wt_eq
  have hw20 := HW.out
  have MA : Hid (y.k ≠ 2 → n ≠ y.n → (y.k ≠ 1 ∨ (n ≠ 0 ∧ n ≠ 1)) → ∀ W, Below N8.heap.size N8 W → Calls Try.prog 15 #[.agg #[.int .u8 (y.k : Int), .int .i64 n, .string (S y.t), .slice a y.ns.length ca, .slice b y.is.length cb]] W fun e w' => e = .returned (.bool false) ∧ Below W.heap.size W w') := fun g1 g2 g3 W hb =>
    may_any _ W _ (by rw [JV.wt]; omega) (H7.below hb) (JV.not_may (JV.more_n hpy g1 g2 g3))
  have MB : Hid (y.k ≠ 3 → l ≠ [] → ∀ W, Below N8.heap.size N8 W → Calls Try.prog 15 #[.agg #[.int .u8 (y.k : Int), .int .i64 y.n, .string (S l), .slice a y.ns.length ca, .slice b y.is.length cb]] W fun e w' => e = .returned (.bool false) ∧ Below W.heap.size W w') := fun g1 g2 W hb =>
    may_any _ W _ (by rw [JV.wt]; have := hwl.out; omega) (H8.below hb) (JV.not_may (JV.more_t g1 g2))
  have MC : Hid (∀ W, Below N8.heap.size N8 W → Calls Try.prog 15 #[.agg #[.int .u8 (y.k : Int), .int .i64 y.n, .string (S y.t), .slice pC (y.ns.length + 1) kC, .slice b y.is.length cb]] W fun e w' => e = .returned (.bool false) ∧ Below W.heap.size W w') := fun W hb =>
    may_any _ W _ (by rw [JV.wt, JV.wn_snoc]; have := hwl.out; omega) (H9.below hb) (JV.not_may (JV.more_ns hpy))
  have MD : Hid (y.k ≠ 4 → ∀ W, Below N8.heap.size N8 W → Calls Try.prog 15 #[.agg #[.int .u8 (y.k : Int), .int .i64 y.n, .string (S y.t), .slice a y.ns.length ca, .slice pE (y.is.length + 1) kE]] W fun e w' => e = .returned (.bool false) ∧ Below W.heap.size W w') := fun g1 W hb =>
    may_any _ W _ (by rw [JV.wt, JV.wts_snoc, show (JV.num n).wt = 4 from rfl]; omega) (H10.below hb) (JV.not_may (JV.more_is hpy g1))
  obtain ⟨kI, hkI⟩ : ∃ k : Int, k = (y.k : Int) := ⟨_, rfl⟩
  obtain ⟨yn, hyn⟩ : ∃ k : Int, k = y.n := ⟨_, rfl⟩
  have ZV := HV2.out N8 CN8
  rw [← hkI, ← hyn] at ZV Z8 Z9 Z10 MB MC MD
  rw [← hkI] at Z7 MA
  rw [← hyn] at MA
  have K : Hid (∀ W, Below N8.heap.size N8 W → (VAt w.heap.size W (.int .u8 kI) (.int .i64 yn) (.string (S y.t)) (.slice a y.ns.length ca) (.slice b y.is.length cb) ∧ VAt b7 W (.int .u8 kI) (.int .i64 n) (.string (S y.t)) (.slice a y.ns.length ca) (.slice b y.is.length cb)) ∧
      VAt b8 W (.int .u8 kI) (.int .i64 yn) (.string (S l)) (.slice a y.ns.length ca) (.slice b y.is.length cb) ∧ VAt b9 W (.int .u8 kI) (.int .i64 yn) (.string (S y.t)) (.slice pC (y.ns.length + 1) kC) (.slice b y.is.length cb) ∧ VAt b10 W (.int .u8 kI) (.int .i64 yn) (.string (S y.t)) (.slice a y.ns.length ca) (.slice pE (y.is.length + 1) kE)) :=
    fun W h => ⟨⟨ZV.below h, Z7.below h⟩, Z8.below h, Z9.below h, Z10.below h⟩
  have MA : Hid (kI ≠ 2 → n ≠ yn → (kI ≠ 1 ∨ (n ≠ 0 ∧ n ≠ 1)) → _) := fun g1 g2 g3 => MA.out (by omega) g2 (g3.imp (by omega) id)
  have MB : Hid (kI ≠ 3 → l ≠ [] → _) := fun g1 => MB.out (by omega)
  have MD : Hid (kI ≠ 4 → _) := fun g1 => MD.out (by omega)
  have CN8 := Lib.hid CN8
  clear ln1 ln2 hkI hyn ZV Z7 Z8 Z9 Z10 H7 H8 H9 H10 P2 P4 hcsd hI10 hN9 hwy hw20 hpy hye hNS8 hII8 j1 j2 j3 j4 j5 j6 hltU9 hltU10 hlt10 toN8 bN8 Y10 bX g4 o4 hcs8 hcn hone hi5 hz5 hz51 hz52 bnum bD o3 hNs CN bNa bN hb9U hlt9 bC o2 hi0 hz0 hz1 hz2 bA X7 X8 X9 X10 hnl hil hUs C6 b6' V8' b5' hne hge b5 V7 V8 V9 V10 pf qf hgt B5
  -- ways
  by_cases g2 : kI = 2
  · subst g2
    have g3 : (2 : Int) ≠ 3 := by decide
    have g4 : (2 : Int) ≠ 4 := by decide
    by_cases gl : l = []
    · have u1 : (S l).toList = [] := by rw [gl]; exact S_toList []
      have u2 : (S l).toList.isEmpty = true := by rw [u1]; rfl
      clear gl
      obtain ⟨⟨ZV, Z7⟩, Z8, Z9, Z10⟩ := K.out N8 (Below.refl _ _)
      obtain ⟨⟨r0, r1, r2, r3, r4⟩, _⟩ := ZV.cells
      obtain ⟨⟨x0, x1, x2, x3, x4⟩, _⟩ := Z9.cells
      have cM := (MC.out) N8 (Below.refl _ _)
      clear ZV Z7 Z8 Z9 Z10
      rw [hN8] at r0 r1 r2 r3 r4 x0 x1 x2 x3 x4 cM
      go_wp2_with (at_builtin; refine Lib.wpList_append_run _ rfl _ _ _ _ rfl _ _ rfl rfl _ _ hr4 ?_)
      refine cM.mono ?_; rintro e w11 ⟨rfl, c11⟩
      rw [← hN8] at c11
      have C11 : Hid (Below N8.heap.size N8 w11) := c11
      clear s0 s1 s2 s3 s4 sf hr4
      clear cM c11 r0 r1 r2 r3 r4 x0 x1 x2 x3 x4
      obtain ⟨⟨ZV, Z7⟩, Z8, Z9, Z10⟩ := K.out w11 C11.out
      obtain ⟨⟨r0, r1, r2, r3, r4⟩, _⟩ := ZV.cells
      obtain ⟨⟨x0, x1, x2, x3, x4⟩, _⟩ := Z10.cells
      have cM := (MD.out g4) w11 C11.out
      clear ZV Z7 Z8 Z9 Z10
      go_wp2_with fail
      refine cM.mono ?_; rintro e w12 ⟨rfl, c12⟩
      have C12 : Hid (Below N8.heap.size N8 w12) := C11.out.trans (c12.mono C11.out.size)
      clear cM c12 r0 r1 r2 r3 r4 x0 x1 x2 x3 x4
      go_wp2_with fail
      go_ret
      exact ⟨rfl, C2.out.trans ((CN8.out.trans (C12.out.mono CN8.out.size)).mono C2.out.size)⟩
    · have u1 : (S l).toList ≠ [] := by rw [S_toList]; exact gl
      have u2 : (S l).toList.isEmpty = false := by rw [List.isEmpty_eq_false_iff]; exact u1
      obtain ⟨⟨ZV, Z7⟩, Z8, Z9, Z10⟩ := K.out N8 (Below.refl _ _)
      obtain ⟨⟨r0, r1, r2, r3, r4⟩, _⟩ := ZV.cells
      obtain ⟨⟨x0, x1, x2, x3, x4⟩, _⟩ := Z8.cells
      have cM := (MB.out g3 gl) N8 (Below.refl _ _)
      clear ZV Z7 Z8 Z9 Z10
      rw [hN8] at r0 r1 r2 r3 r4 x0 x1 x2 x3 x4 cM
      go_wp2_with (at_builtin; refine Lib.wpList_append_run _ rfl _ _ _ _ rfl _ _ rfl rfl _ _ hr4 ?_)
      refine cM.mono ?_; rintro e w11 ⟨rfl, c11⟩
      rw [← hN8] at c11
      have C11 : Hid (Below N8.heap.size N8 w11) := c11
      clear s0 s1 s2 s3 s4 sf hr4
      clear cM c11 r0 r1 r2 r3 r4 x0 x1 x2 x3 x4
      obtain ⟨⟨ZV, Z7⟩, Z8, Z9, Z10⟩ := K.out w11 C11.out
      obtain ⟨⟨r0, r1, r2, r3, r4⟩, _⟩ := ZV.cells
      obtain ⟨⟨x0, x1, x2, x3, x4⟩, _⟩ := Z9.cells
      have cM := (MC.out) w11 C11.out
      clear ZV Z7 Z8 Z9 Z10
      go_wp2_with fail
      refine cM.mono ?_; rintro e w12 ⟨rfl, c12⟩
      have C12 : Hid (Below N8.heap.size N8 w12) := C11.out.trans (c12.mono C11.out.size)
      clear cM c12 r0 r1 r2 r3 r4 x0 x1 x2 x3 x4
      obtain ⟨⟨ZV, Z7⟩, Z8, Z9, Z10⟩ := K.out w12 C12.out
      obtain ⟨⟨r0, r1, r2, r3, r4⟩, _⟩ := ZV.cells
      obtain ⟨⟨x0, x1, x2, x3, x4⟩, _⟩ := Z10.cells
      have cM := (MD.out g4) w12 C12.out
      clear ZV Z7 Z8 Z9 Z10
      go_wp2_with fail
      refine cM.mono ?_; rintro e w13 ⟨rfl, c13⟩
      have C13 : Hid (Below N8.heap.size N8 w13) := C12.out.trans (c13.mono C12.out.size)
      clear cM c13 r0 r1 r2 r3 r4 x0 x1 x2 x3 x4
      go_wp2_with fail
      go_ret
      exact ⟨rfl, C2.out.trans ((CN8.out.trans (C13.out.mono CN8.out.size)).mono C2.out.size)⟩
  by_cases g1 : kI = 1
  · subst g1
    have g3 : (1 : Int) ≠ 3 := by decide
    have g4 : (1 : Int) ≠ 4 := by decide
    by_cases gn : n = yn
    · subst gn
      by_cases gl : l = []
      · have u1 : (S l).toList = [] := by rw [gl]; exact S_toList []
        have u2 : (S l).toList.isEmpty = true := by rw [u1]; rfl
        clear gl
        obtain ⟨⟨ZV, Z7⟩, Z8, Z9, Z10⟩ := K.out N8 (Below.refl _ _)
        obtain ⟨⟨r0, r1, r2, r3, r4⟩, _⟩ := ZV.cells
        obtain ⟨⟨x0, x1, x2, x3, x4⟩, _⟩ := Z9.cells
        have cM := (MC.out) N8 (Below.refl _ _)
        clear ZV Z7 Z8 Z9 Z10
        rw [hN8] at r0 r1 r2 r3 r4 x0 x1 x2 x3 x4 cM
        go_wp2_with (at_builtin; refine Lib.wpList_append_run _ rfl _ _ _ _ rfl _ _ rfl rfl _ _ hr4 ?_)
        refine cM.mono ?_; rintro e w11 ⟨rfl, c11⟩
        rw [← hN8] at c11
        have C11 : Hid (Below N8.heap.size N8 w11) := c11
        clear s0 s1 s2 s3 s4 sf hr4
        clear cM c11 r0 r1 r2 r3 r4 x0 x1 x2 x3 x4
        obtain ⟨⟨ZV, Z7⟩, Z8, Z9, Z10⟩ := K.out w11 C11.out
        obtain ⟨⟨r0, r1, r2, r3, r4⟩, _⟩ := ZV.cells
        obtain ⟨⟨x0, x1, x2, x3, x4⟩, _⟩ := Z10.cells
        have cM := (MD.out g4) w11 C11.out
        clear ZV Z7 Z8 Z9 Z10
        go_wp2_with fail
        refine cM.mono ?_; rintro e w12 ⟨rfl, c12⟩
        have C12 : Hid (Below N8.heap.size N8 w12) := C11.out.trans (c12.mono C11.out.size)
        clear cM c12 r0 r1 r2 r3 r4 x0 x1 x2 x3 x4
        go_wp2_with fail
        go_ret
        exact ⟨rfl, C2.out.trans ((CN8.out.trans (C12.out.mono CN8.out.size)).mono C2.out.size)⟩
      · have u1 : (S l).toList ≠ [] := by rw [S_toList]; exact gl
        have u2 : (S l).toList.isEmpty = false := by rw [List.isEmpty_eq_false_iff]; exact u1
        obtain ⟨⟨ZV, Z7⟩, Z8, Z9, Z10⟩ := K.out N8 (Below.refl _ _)
        obtain ⟨⟨r0, r1, r2, r3, r4⟩, _⟩ := ZV.cells
        obtain ⟨⟨x0, x1, x2, x3, x4⟩, _⟩ := Z8.cells
        have cM := (MB.out g3 gl) N8 (Below.refl _ _)
        clear ZV Z7 Z8 Z9 Z10
        rw [hN8] at r0 r1 r2 r3 r4 x0 x1 x2 x3 x4 cM
        go_wp2_with (at_builtin; refine Lib.wpList_append_run _ rfl _ _ _ _ rfl _ _ rfl rfl _ _ hr4 ?_)
        refine cM.mono ?_; rintro e w11 ⟨rfl, c11⟩
        rw [← hN8] at c11
        have C11 : Hid (Below N8.heap.size N8 w11) := c11
        clear s0 s1 s2 s3 s4 sf hr4
        clear cM c11 r0 r1 r2 r3 r4 x0 x1 x2 x3 x4
        obtain ⟨⟨ZV, Z7⟩, Z8, Z9, Z10⟩ := K.out w11 C11.out
        obtain ⟨⟨r0, r1, r2, r3, r4⟩, _⟩ := ZV.cells
        obtain ⟨⟨x0, x1, x2, x3, x4⟩, _⟩ := Z9.cells
        have cM := (MC.out) w11 C11.out
        clear ZV Z7 Z8 Z9 Z10
        go_wp2_with fail
        refine cM.mono ?_; rintro e w12 ⟨rfl, c12⟩
        have C12 : Hid (Below N8.heap.size N8 w12) := C11.out.trans (c12.mono C11.out.size)
        clear cM c12 r0 r1 r2 r3 r4 x0 x1 x2 x3 x4
        obtain ⟨⟨ZV, Z7⟩, Z8, Z9, Z10⟩ := K.out w12 C12.out
        obtain ⟨⟨r0, r1, r2, r3, r4⟩, _⟩ := ZV.cells
        obtain ⟨⟨x0, x1, x2, x3, x4⟩, _⟩ := Z10.cells
        have cM := (MD.out g4) w12 C12.out
        clear ZV Z7 Z8 Z9 Z10
        go_wp2_with fail
        refine cM.mono ?_; rintro e w13 ⟨rfl, c13⟩
        have C13 : Hid (Below N8.heap.size N8 w13) := C12.out.trans (c13.mono C12.out.size)
        clear cM c13 r0 r1 r2 r3 r4 x0 x1 x2 x3 x4
        go_wp2_with fail
        go_ret
        exact ⟨rfl, C2.out.trans ((CN8.out.trans (C13.out.mono CN8.out.size)).mono C2.out.size)⟩
    · have v1 : (n != yn) = true := bne_iff_ne.2 gn
      by_cases h0 : n = 0
      · subst h0
        by_cases gl : l = []
        · have u1 : (S l).toList = [] := by rw [gl]; exact S_toList []
          have u2 : (S l).toList.isEmpty = true := by rw [u1]; rfl
          clear gl
          obtain ⟨⟨ZV, Z7⟩, Z8, Z9, Z10⟩ := K.out N8 (Below.refl _ _)
          obtain ⟨⟨r0, r1, r2, r3, r4⟩, _⟩ := ZV.cells
          obtain ⟨⟨x0, x1, x2, x3, x4⟩, _⟩ := Z9.cells
          have cM := (MC.out) N8 (Below.refl _ _)
          clear ZV Z7 Z8 Z9 Z10
          rw [hN8] at r0 r1 r2 r3 r4 x0 x1 x2 x3 x4 cM
          go_wp2_with (at_builtin; refine Lib.wpList_append_run _ rfl _ _ _ _ rfl _ _ rfl rfl _ _ hr4 ?_)
          refine cM.mono ?_; rintro e w11 ⟨rfl, c11⟩
          rw [← hN8] at c11
          have C11 : Hid (Below N8.heap.size N8 w11) := c11
          clear s0 s1 s2 s3 s4 sf hr4
          clear cM c11 r0 r1 r2 r3 r4 x0 x1 x2 x3 x4
          obtain ⟨⟨ZV, Z7⟩, Z8, Z9, Z10⟩ := K.out w11 C11.out
          obtain ⟨⟨r0, r1, r2, r3, r4⟩, _⟩ := ZV.cells
          obtain ⟨⟨x0, x1, x2, x3, x4⟩, _⟩ := Z10.cells
          have cM := (MD.out g4) w11 C11.out
          clear ZV Z7 Z8 Z9 Z10
          go_wp2_with fail
          refine cM.mono ?_; rintro e w12 ⟨rfl, c12⟩
          have C12 : Hid (Below N8.heap.size N8 w12) := C11.out.trans (c12.mono C11.out.size)
          clear cM c12 r0 r1 r2 r3 r4 x0 x1 x2 x3 x4
          go_wp2_with fail
          go_ret
          exact ⟨rfl, C2.out.trans ((CN8.out.trans (C12.out.mono CN8.out.size)).mono C2.out.size)⟩
        · have u1 : (S l).toList ≠ [] := by rw [S_toList]; exact gl
          have u2 : (S l).toList.isEmpty = false := by rw [List.isEmpty_eq_false_iff]; exact u1
          obtain ⟨⟨ZV, Z7⟩, Z8, Z9, Z10⟩ := K.out N8 (Below.refl _ _)
          obtain ⟨⟨r0, r1, r2, r3, r4⟩, _⟩ := ZV.cells
          obtain ⟨⟨x0, x1, x2, x3, x4⟩, _⟩ := Z8.cells
          have cM := (MB.out g3 gl) N8 (Below.refl _ _)
          clear ZV Z7 Z8 Z9 Z10
          rw [hN8] at r0 r1 r2 r3 r4 x0 x1 x2 x3 x4 cM
          go_wp2_with (at_builtin; refine Lib.wpList_append_run _ rfl _ _ _ _ rfl _ _ rfl rfl _ _ hr4 ?_)
          refine cM.mono ?_; rintro e w11 ⟨rfl, c11⟩
          rw [← hN8] at c11
          have C11 : Hid (Below N8.heap.size N8 w11) := c11
          clear s0 s1 s2 s3 s4 sf hr4
          clear cM c11 r0 r1 r2 r3 r4 x0 x1 x2 x3 x4
          obtain ⟨⟨ZV, Z7⟩, Z8, Z9, Z10⟩ := K.out w11 C11.out
          obtain ⟨⟨r0, r1, r2, r3, r4⟩, _⟩ := ZV.cells
          obtain ⟨⟨x0, x1, x2, x3, x4⟩, _⟩ := Z9.cells
          have cM := (MC.out) w11 C11.out
          clear ZV Z7 Z8 Z9 Z10
          go_wp2_with fail
          refine cM.mono ?_; rintro e w12 ⟨rfl, c12⟩
          have C12 : Hid (Below N8.heap.size N8 w12) := C11.out.trans (c12.mono C11.out.size)
          clear cM c12 r0 r1 r2 r3 r4 x0 x1 x2 x3 x4
          obtain ⟨⟨ZV, Z7⟩, Z8, Z9, Z10⟩ := K.out w12 C12.out
          obtain ⟨⟨r0, r1, r2, r3, r4⟩, _⟩ := ZV.cells
          obtain ⟨⟨x0, x1, x2, x3, x4⟩, _⟩ := Z10.cells
          have cM := (MD.out g4) w12 C12.out
          clear ZV Z7 Z8 Z9 Z10
          go_wp2_with fail
          refine cM.mono ?_; rintro e w13 ⟨rfl, c13⟩
          have C13 : Hid (Below N8.heap.size N8 w13) := C12.out.trans (c13.mono C12.out.size)
          clear cM c13 r0 r1 r2 r3 r4 x0 x1 x2 x3 x4
          go_wp2_with fail
          go_ret
          exact ⟨rfl, C2.out.trans ((CN8.out.trans (C13.out.mono CN8.out.size)).mono C2.out.size)⟩
      · by_cases h1 : n = 1
        · subst h1
          by_cases gl : l = []
          · have u1 : (S l).toList = [] := by rw [gl]; exact S_toList []
            have u2 : (S l).toList.isEmpty = true := by rw [u1]; rfl
            clear gl
            obtain ⟨⟨ZV, Z7⟩, Z8, Z9, Z10⟩ := K.out N8 (Below.refl _ _)
            obtain ⟨⟨r0, r1, r2, r3, r4⟩, _⟩ := ZV.cells
            obtain ⟨⟨x0, x1, x2, x3, x4⟩, _⟩ := Z9.cells
            have cM := (MC.out) N8 (Below.refl _ _)
            clear ZV Z7 Z8 Z9 Z10
            rw [hN8] at r0 r1 r2 r3 r4 x0 x1 x2 x3 x4 cM
            go_wp2_with (at_builtin; refine Lib.wpList_append_run _ rfl _ _ _ _ rfl _ _ rfl rfl _ _ hr4 ?_)
            refine cM.mono ?_; rintro e w11 ⟨rfl, c11⟩
            rw [← hN8] at c11
            have C11 : Hid (Below N8.heap.size N8 w11) := c11
            clear s0 s1 s2 s3 s4 sf hr4
            clear cM c11 r0 r1 r2 r3 r4 x0 x1 x2 x3 x4
            obtain ⟨⟨ZV, Z7⟩, Z8, Z9, Z10⟩ := K.out w11 C11.out
            obtain ⟨⟨r0, r1, r2, r3, r4⟩, _⟩ := ZV.cells
            obtain ⟨⟨x0, x1, x2, x3, x4⟩, _⟩ := Z10.cells
            have cM := (MD.out g4) w11 C11.out
            clear ZV Z7 Z8 Z9 Z10
            go_wp2_with fail
            refine cM.mono ?_; rintro e w12 ⟨rfl, c12⟩
            have C12 : Hid (Below N8.heap.size N8 w12) := C11.out.trans (c12.mono C11.out.size)
            clear cM c12 r0 r1 r2 r3 r4 x0 x1 x2 x3 x4
            go_wp2_with fail
            go_ret
            exact ⟨rfl, C2.out.trans ((CN8.out.trans (C12.out.mono CN8.out.size)).mono C2.out.size)⟩
          · have u1 : (S l).toList ≠ [] := by rw [S_toList]; exact gl
            have u2 : (S l).toList.isEmpty = false := by rw [List.isEmpty_eq_false_iff]; exact u1
            obtain ⟨⟨ZV, Z7⟩, Z8, Z9, Z10⟩ := K.out N8 (Below.refl _ _)
            obtain ⟨⟨r0, r1, r2, r3, r4⟩, _⟩ := ZV.cells
            obtain ⟨⟨x0, x1, x2, x3, x4⟩, _⟩ := Z8.cells
            have cM := (MB.out g3 gl) N8 (Below.refl _ _)
            clear ZV Z7 Z8 Z9 Z10
            rw [hN8] at r0 r1 r2 r3 r4 x0 x1 x2 x3 x4 cM
            go_wp2_with (at_builtin; refine Lib.wpList_append_run _ rfl _ _ _ _ rfl _ _ rfl rfl _ _ hr4 ?_)
            refine cM.mono ?_; rintro e w11 ⟨rfl, c11⟩
            rw [← hN8] at c11
            have C11 : Hid (Below N8.heap.size N8 w11) := c11
            clear s0 s1 s2 s3 s4 sf hr4
            clear cM c11 r0 r1 r2 r3 r4 x0 x1 x2 x3 x4
            obtain ⟨⟨ZV, Z7⟩, Z8, Z9, Z10⟩ := K.out w11 C11.out
            obtain ⟨⟨r0, r1, r2, r3, r4⟩, _⟩ := ZV.cells
            obtain ⟨⟨x0, x1, x2, x3, x4⟩, _⟩ := Z9.cells
            have cM := (MC.out) w11 C11.out
            clear ZV Z7 Z8 Z9 Z10
            go_wp2_with fail
            refine cM.mono ?_; rintro e w12 ⟨rfl, c12⟩
            have C12 : Hid (Below N8.heap.size N8 w12) := C11.out.trans (c12.mono C11.out.size)
            clear cM c12 r0 r1 r2 r3 r4 x0 x1 x2 x3 x4
            obtain ⟨⟨ZV, Z7⟩, Z8, Z9, Z10⟩ := K.out w12 C12.out
            obtain ⟨⟨r0, r1, r2, r3, r4⟩, _⟩ := ZV.cells
            obtain ⟨⟨x0, x1, x2, x3, x4⟩, _⟩ := Z10.cells
            have cM := (MD.out g4) w12 C12.out
            clear ZV Z7 Z8 Z9 Z10
            go_wp2_with fail
            refine cM.mono ?_; rintro e w13 ⟨rfl, c13⟩
            have C13 : Hid (Below N8.heap.size N8 w13) := C12.out.trans (c13.mono C12.out.size)
            clear cM c13 r0 r1 r2 r3 r4 x0 x1 x2 x3 x4
            go_wp2_with fail
            go_ret
            exact ⟨rfl, C2.out.trans ((CN8.out.trans (C13.out.mono CN8.out.size)).mono C2.out.size)⟩
        · have v2 : (n != 0) = true := bne_iff_ne.2 h0
          have v3 : (n != 1) = true := bne_iff_ne.2 h1
          have ga : (1 : Int) ≠ 1 ∨ (n ≠ 0 ∧ n ≠ 1) := .inr ⟨h0, h1⟩
          clear h0 h1
          by_cases gl : l = []
          · have u1 : (S l).toList = [] := by rw [gl]; exact S_toList []
            have u2 : (S l).toList.isEmpty = true := by rw [u1]; rfl
            clear gl
            obtain ⟨⟨ZV, Z7⟩, Z8, Z9, Z10⟩ := K.out N8 (Below.refl _ _)
            obtain ⟨⟨r0, r1, r2, r3, r4⟩, _⟩ := ZV.cells
            obtain ⟨⟨x0, x1, x2, x3, x4⟩, _⟩ := Z7.cells
            have cM := (MA.out g2 gn ga) N8 (Below.refl _ _)
            clear ZV Z7 Z8 Z9 Z10
            rw [hN8] at r0 r1 r2 r3 r4 x0 x1 x2 x3 x4 cM
            go_wp2_with (at_builtin; refine Lib.wpList_append_run _ rfl _ _ _ _ rfl _ _ rfl rfl _ _ hr4 ?_)
            refine cM.mono ?_; rintro e w11 ⟨rfl, c11⟩
            rw [← hN8] at c11
            have C11 : Hid (Below N8.heap.size N8 w11) := c11
            clear s0 s1 s2 s3 s4 sf hr4
            clear cM c11 r0 r1 r2 r3 r4 x0 x1 x2 x3 x4
            obtain ⟨⟨ZV, Z7⟩, Z8, Z9, Z10⟩ := K.out w11 C11.out
            obtain ⟨⟨r0, r1, r2, r3, r4⟩, _⟩ := ZV.cells
            obtain ⟨⟨x0, x1, x2, x3, x4⟩, _⟩ := Z9.cells
            have cM := (MC.out) w11 C11.out
            clear ZV Z7 Z8 Z9 Z10
            go_wp2_with fail
            refine cM.mono ?_; rintro e w12 ⟨rfl, c12⟩
            have C12 : Hid (Below N8.heap.size N8 w12) := C11.out.trans (c12.mono C11.out.size)
            clear cM c12 r0 r1 r2 r3 r4 x0 x1 x2 x3 x4
            obtain ⟨⟨ZV, Z7⟩, Z8, Z9, Z10⟩ := K.out w12 C12.out
            obtain ⟨⟨r0, r1, r2, r3, r4⟩, _⟩ := ZV.cells
            obtain ⟨⟨x0, x1, x2, x3, x4⟩, _⟩ := Z10.cells
            have cM := (MD.out g4) w12 C12.out
            clear ZV Z7 Z8 Z9 Z10
            go_wp2_with fail
            refine cM.mono ?_; rintro e w13 ⟨rfl, c13⟩
            have C13 : Hid (Below N8.heap.size N8 w13) := C12.out.trans (c13.mono C12.out.size)
            clear cM c13 r0 r1 r2 r3 r4 x0 x1 x2 x3 x4
            go_wp2_with fail
            go_ret
            exact ⟨rfl, C2.out.trans ((CN8.out.trans (C13.out.mono CN8.out.size)).mono C2.out.size)⟩
          · have u1 : (S l).toList ≠ [] := by rw [S_toList]; exact gl
            have u2 : (S l).toList.isEmpty = false := by rw [List.isEmpty_eq_false_iff]; exact u1
            obtain ⟨⟨ZV, Z7⟩, Z8, Z9, Z10⟩ := K.out N8 (Below.refl _ _)
            obtain ⟨⟨r0, r1, r2, r3, r4⟩, _⟩ := ZV.cells
            obtain ⟨⟨x0, x1, x2, x3, x4⟩, _⟩ := Z7.cells
            have cM := (MA.out g2 gn ga) N8 (Below.refl _ _)
            clear ZV Z7 Z8 Z9 Z10
            rw [hN8] at r0 r1 r2 r3 r4 x0 x1 x2 x3 x4 cM
            go_wp2_with (at_builtin; refine Lib.wpList_append_run _ rfl _ _ _ _ rfl _ _ rfl rfl _ _ hr4 ?_)
            refine cM.mono ?_; rintro e w11 ⟨rfl, c11⟩
            rw [← hN8] at c11
            have C11 : Hid (Below N8.heap.size N8 w11) := c11
            clear s0 s1 s2 s3 s4 sf hr4
            clear cM c11 r0 r1 r2 r3 r4 x0 x1 x2 x3 x4
            obtain ⟨⟨ZV, Z7⟩, Z8, Z9, Z10⟩ := K.out w11 C11.out
            obtain ⟨⟨r0, r1, r2, r3, r4⟩, _⟩ := ZV.cells
            obtain ⟨⟨x0, x1, x2, x3, x4⟩, _⟩ := Z8.cells
            have cM := (MB.out g3 gl) w11 C11.out
            clear ZV Z7 Z8 Z9 Z10
            go_wp2_with fail
            refine cM.mono ?_; rintro e w12 ⟨rfl, c12⟩
            have C12 : Hid (Below N8.heap.size N8 w12) := C11.out.trans (c12.mono C11.out.size)
            clear cM c12 r0 r1 r2 r3 r4 x0 x1 x2 x3 x4
            obtain ⟨⟨ZV, Z7⟩, Z8, Z9, Z10⟩ := K.out w12 C12.out
            obtain ⟨⟨r0, r1, r2, r3, r4⟩, _⟩ := ZV.cells
            obtain ⟨⟨x0, x1, x2, x3, x4⟩, _⟩ := Z9.cells
            have cM := (MC.out) w12 C12.out
            clear ZV Z7 Z8 Z9 Z10
            go_wp2_with fail
            refine cM.mono ?_; rintro e w13 ⟨rfl, c13⟩
            have C13 : Hid (Below N8.heap.size N8 w13) := C12.out.trans (c13.mono C12.out.size)
            clear cM c13 r0 r1 r2 r3 r4 x0 x1 x2 x3 x4
            obtain ⟨⟨ZV, Z7⟩, Z8, Z9, Z10⟩ := K.out w13 C13.out
            obtain ⟨⟨r0, r1, r2, r3, r4⟩, _⟩ := ZV.cells
            obtain ⟨⟨x0, x1, x2, x3, x4⟩, _⟩ := Z10.cells
            have cM := (MD.out g4) w13 C13.out
            clear ZV Z7 Z8 Z9 Z10
            go_wp2_with fail
            refine cM.mono ?_; rintro e w14 ⟨rfl, c14⟩
            have C14 : Hid (Below N8.heap.size N8 w14) := C13.out.trans (c14.mono C13.out.size)
            clear cM c14 r0 r1 r2 r3 r4 x0 x1 x2 x3 x4
            go_wp2_with fail
            go_ret
            exact ⟨rfl, C2.out.trans ((CN8.out.trans (C14.out.mono CN8.out.size)).mono C2.out.size)⟩
  by_cases g3 : kI = 3
  · subst g3
    have g4 : (3 : Int) ≠ 4 := by decide
    by_cases gn : n = yn
    · subst gn
      obtain ⟨⟨ZV, Z7⟩, Z8, Z9, Z10⟩ := K.out N8 (Below.refl _ _)
      obtain ⟨⟨r0, r1, r2, r3, r4⟩, _⟩ := ZV.cells
      obtain ⟨⟨x0, x1, x2, x3, x4⟩, _⟩ := Z9.cells
      have cM := (MC.out) N8 (Below.refl _ _)
      clear ZV Z7 Z8 Z9 Z10
      rw [hN8] at r0 r1 r2 r3 r4 x0 x1 x2 x3 x4 cM
      go_wp2_with (at_builtin; refine Lib.wpList_append_run _ rfl _ _ _ _ rfl _ _ rfl rfl _ _ hr4 ?_)
      refine cM.mono ?_; rintro e w11 ⟨rfl, c11⟩
      rw [← hN8] at c11
      have C11 : Hid (Below N8.heap.size N8 w11) := c11
      clear s0 s1 s2 s3 s4 sf hr4
      clear cM c11 r0 r1 r2 r3 r4 x0 x1 x2 x3 x4
      obtain ⟨⟨ZV, Z7⟩, Z8, Z9, Z10⟩ := K.out w11 C11.out
      obtain ⟨⟨r0, r1, r2, r3, r4⟩, _⟩ := ZV.cells
      obtain ⟨⟨x0, x1, x2, x3, x4⟩, _⟩ := Z10.cells
      have cM := (MD.out g4) w11 C11.out
      clear ZV Z7 Z8 Z9 Z10
      go_wp2_with fail
      refine cM.mono ?_; rintro e w12 ⟨rfl, c12⟩
      have C12 : Hid (Below N8.heap.size N8 w12) := C11.out.trans (c12.mono C11.out.size)
      clear cM c12 r0 r1 r2 r3 r4 x0 x1 x2 x3 x4
      go_wp2_with fail
      go_ret
      exact ⟨rfl, C2.out.trans ((CN8.out.trans (C12.out.mono CN8.out.size)).mono C2.out.size)⟩
    · have v1 : (n != yn) = true := bne_iff_ne.2 gn
      have ga : (_ : Int) ≠ 1 ∨ (n ≠ 0 ∧ n ≠ 1) := .inl g1
      obtain ⟨⟨ZV, Z7⟩, Z8, Z9, Z10⟩ := K.out N8 (Below.refl _ _)
      obtain ⟨⟨r0, r1, r2, r3, r4⟩, _⟩ := ZV.cells
      obtain ⟨⟨x0, x1, x2, x3, x4⟩, _⟩ := Z7.cells
      have cM := (MA.out g2 gn ga) N8 (Below.refl _ _)
      clear ZV Z7 Z8 Z9 Z10
      rw [hN8] at r0 r1 r2 r3 r4 x0 x1 x2 x3 x4 cM
      go_wp2_with (at_builtin; refine Lib.wpList_append_run _ rfl _ _ _ _ rfl _ _ rfl rfl _ _ hr4 ?_)
      refine cM.mono ?_; rintro e w11 ⟨rfl, c11⟩
      rw [← hN8] at c11
      have C11 : Hid (Below N8.heap.size N8 w11) := c11
      clear s0 s1 s2 s3 s4 sf hr4
      clear cM c11 r0 r1 r2 r3 r4 x0 x1 x2 x3 x4
      obtain ⟨⟨ZV, Z7⟩, Z8, Z9, Z10⟩ := K.out w11 C11.out
      obtain ⟨⟨r0, r1, r2, r3, r4⟩, _⟩ := ZV.cells
      obtain ⟨⟨x0, x1, x2, x3, x4⟩, _⟩ := Z9.cells
      have cM := (MC.out) w11 C11.out
      clear ZV Z7 Z8 Z9 Z10
      go_wp2_with fail
      refine cM.mono ?_; rintro e w12 ⟨rfl, c12⟩
      have C12 : Hid (Below N8.heap.size N8 w12) := C11.out.trans (c12.mono C11.out.size)
      clear cM c12 r0 r1 r2 r3 r4 x0 x1 x2 x3 x4
      obtain ⟨⟨ZV, Z7⟩, Z8, Z9, Z10⟩ := K.out w12 C12.out
      obtain ⟨⟨r0, r1, r2, r3, r4⟩, _⟩ := ZV.cells
      obtain ⟨⟨x0, x1, x2, x3, x4⟩, _⟩ := Z10.cells
      have cM := (MD.out g4) w12 C12.out
      clear ZV Z7 Z8 Z9 Z10
      go_wp2_with fail
      refine cM.mono ?_; rintro e w13 ⟨rfl, c13⟩
      have C13 : Hid (Below N8.heap.size N8 w13) := C12.out.trans (c13.mono C12.out.size)
      clear cM c13 r0 r1 r2 r3 r4 x0 x1 x2 x3 x4
      go_wp2_with fail
      go_ret
      exact ⟨rfl, C2.out.trans ((CN8.out.trans (C13.out.mono CN8.out.size)).mono C2.out.size)⟩
  by_cases g4 : kI = 4
  · subst g4
    by_cases gn : n = yn
    · subst gn
      by_cases gl : l = []
      · have u1 : (S l).toList = [] := by rw [gl]; exact S_toList []
        have u2 : (S l).toList.isEmpty = true := by rw [u1]; rfl
        clear gl
        obtain ⟨⟨ZV, Z7⟩, Z8, Z9, Z10⟩ := K.out N8 (Below.refl _ _)
        obtain ⟨⟨r0, r1, r2, r3, r4⟩, _⟩ := ZV.cells
        obtain ⟨⟨x0, x1, x2, x3, x4⟩, _⟩ := Z9.cells
        have cM := (MC.out) N8 (Below.refl _ _)
        clear ZV Z7 Z8 Z9 Z10
        rw [hN8] at r0 r1 r2 r3 r4 x0 x1 x2 x3 x4 cM
        go_wp2_with (at_builtin; refine Lib.wpList_append_run _ rfl _ _ _ _ rfl _ _ rfl rfl _ _ hr4 ?_)
        refine cM.mono ?_; rintro e w11 ⟨rfl, c11⟩
        rw [← hN8] at c11
        have C11 : Hid (Below N8.heap.size N8 w11) := c11
        clear s0 s1 s2 s3 s4 sf hr4
        clear cM c11 r0 r1 r2 r3 r4 x0 x1 x2 x3 x4
        obtain ⟨⟨ZV, Z7⟩, Z8, Z9, Z10⟩ := K.out w11 C11.out
        obtain ⟨⟨r0, r1, r2, r3, r4⟩, _⟩ := ZV.cells
        clear ZV Z7 Z8 Z9 Z10
        go_wp2_with fail
        go_ret
        exact ⟨rfl, C2.out.trans ((CN8.out.trans (C11.out.mono CN8.out.size)).mono C2.out.size)⟩
      · have u1 : (S l).toList ≠ [] := by rw [S_toList]; exact gl
        have u2 : (S l).toList.isEmpty = false := by rw [List.isEmpty_eq_false_iff]; exact u1
        obtain ⟨⟨ZV, Z7⟩, Z8, Z9, Z10⟩ := K.out N8 (Below.refl _ _)
        obtain ⟨⟨r0, r1, r2, r3, r4⟩, _⟩ := ZV.cells
        obtain ⟨⟨x0, x1, x2, x3, x4⟩, _⟩ := Z8.cells
        have cM := (MB.out g3 gl) N8 (Below.refl _ _)
        clear ZV Z7 Z8 Z9 Z10
        rw [hN8] at r0 r1 r2 r3 r4 x0 x1 x2 x3 x4 cM
        go_wp2_with (at_builtin; refine Lib.wpList_append_run _ rfl _ _ _ _ rfl _ _ rfl rfl _ _ hr4 ?_)
        refine cM.mono ?_; rintro e w11 ⟨rfl, c11⟩
        rw [← hN8] at c11
        have C11 : Hid (Below N8.heap.size N8 w11) := c11
        clear s0 s1 s2 s3 s4 sf hr4
        clear cM c11 r0 r1 r2 r3 r4 x0 x1 x2 x3 x4
        obtain ⟨⟨ZV, Z7⟩, Z8, Z9, Z10⟩ := K.out w11 C11.out
        obtain ⟨⟨r0, r1, r2, r3, r4⟩, _⟩ := ZV.cells
        obtain ⟨⟨x0, x1, x2, x3, x4⟩, _⟩ := Z9.cells
        have cM := (MC.out) w11 C11.out
        clear ZV Z7 Z8 Z9 Z10
        go_wp2_with fail
        refine cM.mono ?_; rintro e w12 ⟨rfl, c12⟩
        have C12 : Hid (Below N8.heap.size N8 w12) := C11.out.trans (c12.mono C11.out.size)
        clear cM c12 r0 r1 r2 r3 r4 x0 x1 x2 x3 x4
        obtain ⟨⟨ZV, Z7⟩, Z8, Z9, Z10⟩ := K.out w12 C12.out
        obtain ⟨⟨r0, r1, r2, r3, r4⟩, _⟩ := ZV.cells
        clear ZV Z7 Z8 Z9 Z10
        go_wp2_with fail
        go_ret
        exact ⟨rfl, C2.out.trans ((CN8.out.trans (C12.out.mono CN8.out.size)).mono C2.out.size)⟩
    · have v1 : (n != yn) = true := bne_iff_ne.2 gn
      have ga : (_ : Int) ≠ 1 ∨ (n ≠ 0 ∧ n ≠ 1) := .inl g1
      by_cases gl : l = []
      · have u1 : (S l).toList = [] := by rw [gl]; exact S_toList []
        have u2 : (S l).toList.isEmpty = true := by rw [u1]; rfl
        clear gl
        obtain ⟨⟨ZV, Z7⟩, Z8, Z9, Z10⟩ := K.out N8 (Below.refl _ _)
        obtain ⟨⟨r0, r1, r2, r3, r4⟩, _⟩ := ZV.cells
        obtain ⟨⟨x0, x1, x2, x3, x4⟩, _⟩ := Z7.cells
        have cM := (MA.out g2 gn ga) N8 (Below.refl _ _)
        clear ZV Z7 Z8 Z9 Z10
        rw [hN8] at r0 r1 r2 r3 r4 x0 x1 x2 x3 x4 cM
        go_wp2_with (at_builtin; refine Lib.wpList_append_run _ rfl _ _ _ _ rfl _ _ rfl rfl _ _ hr4 ?_)
        refine cM.mono ?_; rintro e w11 ⟨rfl, c11⟩
        rw [← hN8] at c11
        have C11 : Hid (Below N8.heap.size N8 w11) := c11
        clear s0 s1 s2 s3 s4 sf hr4
        clear cM c11 r0 r1 r2 r3 r4 x0 x1 x2 x3 x4
        obtain ⟨⟨ZV, Z7⟩, Z8, Z9, Z10⟩ := K.out w11 C11.out
        obtain ⟨⟨r0, r1, r2, r3, r4⟩, _⟩ := ZV.cells
        obtain ⟨⟨x0, x1, x2, x3, x4⟩, _⟩ := Z9.cells
        have cM := (MC.out) w11 C11.out
        clear ZV Z7 Z8 Z9 Z10
        go_wp2_with fail
        refine cM.mono ?_; rintro e w12 ⟨rfl, c12⟩
        have C12 : Hid (Below N8.heap.size N8 w12) := C11.out.trans (c12.mono C11.out.size)
        clear cM c12 r0 r1 r2 r3 r4 x0 x1 x2 x3 x4
        obtain ⟨⟨ZV, Z7⟩, Z8, Z9, Z10⟩ := K.out w12 C12.out
        obtain ⟨⟨r0, r1, r2, r3, r4⟩, _⟩ := ZV.cells
        clear ZV Z7 Z8 Z9 Z10
        go_wp2_with fail
        go_ret
        exact ⟨rfl, C2.out.trans ((CN8.out.trans (C12.out.mono CN8.out.size)).mono C2.out.size)⟩
      · have u1 : (S l).toList ≠ [] := by rw [S_toList]; exact gl
        have u2 : (S l).toList.isEmpty = false := by rw [List.isEmpty_eq_false_iff]; exact u1
        obtain ⟨⟨ZV, Z7⟩, Z8, Z9, Z10⟩ := K.out N8 (Below.refl _ _)
        obtain ⟨⟨r0, r1, r2, r3, r4⟩, _⟩ := ZV.cells
        obtain ⟨⟨x0, x1, x2, x3, x4⟩, _⟩ := Z7.cells
        have cM := (MA.out g2 gn ga) N8 (Below.refl _ _)
        clear ZV Z7 Z8 Z9 Z10
        rw [hN8] at r0 r1 r2 r3 r4 x0 x1 x2 x3 x4 cM
        go_wp2_with (at_builtin; refine Lib.wpList_append_run _ rfl _ _ _ _ rfl _ _ rfl rfl _ _ hr4 ?_)
        refine cM.mono ?_; rintro e w11 ⟨rfl, c11⟩
        rw [← hN8] at c11
        have C11 : Hid (Below N8.heap.size N8 w11) := c11
        clear s0 s1 s2 s3 s4 sf hr4
        clear cM c11 r0 r1 r2 r3 r4 x0 x1 x2 x3 x4
        obtain ⟨⟨ZV, Z7⟩, Z8, Z9, Z10⟩ := K.out w11 C11.out
        obtain ⟨⟨r0, r1, r2, r3, r4⟩, _⟩ := ZV.cells
        obtain ⟨⟨x0, x1, x2, x3, x4⟩, _⟩ := Z8.cells
        have cM := (MB.out g3 gl) w11 C11.out
        clear ZV Z7 Z8 Z9 Z10
        go_wp2_with fail
        refine cM.mono ?_; rintro e w12 ⟨rfl, c12⟩
        have C12 : Hid (Below N8.heap.size N8 w12) := C11.out.trans (c12.mono C11.out.size)
        clear cM c12 r0 r1 r2 r3 r4 x0 x1 x2 x3 x4
        obtain ⟨⟨ZV, Z7⟩, Z8, Z9, Z10⟩ := K.out w12 C12.out
        obtain ⟨⟨r0, r1, r2, r3, r4⟩, _⟩ := ZV.cells
        obtain ⟨⟨x0, x1, x2, x3, x4⟩, _⟩ := Z9.cells
        have cM := (MC.out) w12 C12.out
        clear ZV Z7 Z8 Z9 Z10
        go_wp2_with fail
        refine cM.mono ?_; rintro e w13 ⟨rfl, c13⟩
        have C13 : Hid (Below N8.heap.size N8 w13) := C12.out.trans (c13.mono C12.out.size)
        clear cM c13 r0 r1 r2 r3 r4 x0 x1 x2 x3 x4
        obtain ⟨⟨ZV, Z7⟩, Z8, Z9, Z10⟩ := K.out w13 C13.out
        obtain ⟨⟨r0, r1, r2, r3, r4⟩, _⟩ := ZV.cells
        clear ZV Z7 Z8 Z9 Z10
        go_wp2_with fail
        go_ret
        exact ⟨rfl, C2.out.trans ((CN8.out.trans (C13.out.mono CN8.out.size)).mono C2.out.size)⟩
  have q2 : (kI != 2) = true := bne_iff_ne.2 g2
  have q1 : (kI != 1) = true := bne_iff_ne.2 g1
  have q3 : (kI != 3) = true := bne_iff_ne.2 g3
  have q4 : (kI == 4) = false := beq_eq_false_iff_ne.2 g4
  by_cases gn : n = yn
  · subst gn
    by_cases gl : l = []
    · have u1 : (S l).toList = [] := by rw [gl]; exact S_toList []
      have u2 : (S l).toList.isEmpty = true := by rw [u1]; rfl
      clear gl
      obtain ⟨⟨ZV, Z7⟩, Z8, Z9, Z10⟩ := K.out N8 (Below.refl _ _)
      obtain ⟨⟨r0, r1, r2, r3, r4⟩, _⟩ := ZV.cells
      obtain ⟨⟨x0, x1, x2, x3, x4⟩, _⟩ := Z9.cells
      have cM := (MC.out) N8 (Below.refl _ _)
      clear ZV Z7 Z8 Z9 Z10
      rw [hN8] at r0 r1 r2 r3 r4 x0 x1 x2 x3 x4 cM
      go_wp2_with (at_builtin; refine Lib.wpList_append_run _ rfl _ _ _ _ rfl _ _ rfl rfl _ _ hr4 ?_)
      refine cM.mono ?_; rintro e w11 ⟨rfl, c11⟩
      rw [← hN8] at c11
      have C11 : Hid (Below N8.heap.size N8 w11) := c11
      clear s0 s1 s2 s3 s4 sf hr4
      clear cM c11 r0 r1 r2 r3 r4 x0 x1 x2 x3 x4
      obtain ⟨⟨ZV, Z7⟩, Z8, Z9, Z10⟩ := K.out w11 C11.out
      obtain ⟨⟨r0, r1, r2, r3, r4⟩, _⟩ := ZV.cells
      obtain ⟨⟨x0, x1, x2, x3, x4⟩, _⟩ := Z10.cells
      have cM := (MD.out g4) w11 C11.out
      clear ZV Z7 Z8 Z9 Z10
      go_wp2_with fail
      refine cM.mono ?_; rintro e w12 ⟨rfl, c12⟩
      have C12 : Hid (Below N8.heap.size N8 w12) := C11.out.trans (c12.mono C11.out.size)
      clear cM c12 r0 r1 r2 r3 r4 x0 x1 x2 x3 x4
      go_wp2_with fail
      go_ret
      exact ⟨rfl, C2.out.trans ((CN8.out.trans (C12.out.mono CN8.out.size)).mono C2.out.size)⟩
    · have u1 : (S l).toList ≠ [] := by rw [S_toList]; exact gl
      have u2 : (S l).toList.isEmpty = false := by rw [List.isEmpty_eq_false_iff]; exact u1
      obtain ⟨⟨ZV, Z7⟩, Z8, Z9, Z10⟩ := K.out N8 (Below.refl _ _)
      obtain ⟨⟨r0, r1, r2, r3, r4⟩, _⟩ := ZV.cells
      obtain ⟨⟨x0, x1, x2, x3, x4⟩, _⟩ := Z8.cells
      have cM := (MB.out g3 gl) N8 (Below.refl _ _)
      clear ZV Z7 Z8 Z9 Z10
      rw [hN8] at r0 r1 r2 r3 r4 x0 x1 x2 x3 x4 cM
      go_wp2_with (at_builtin; refine Lib.wpList_append_run _ rfl _ _ _ _ rfl _ _ rfl rfl _ _ hr4 ?_)
      refine cM.mono ?_; rintro e w11 ⟨rfl, c11⟩
      rw [← hN8] at c11
      have C11 : Hid (Below N8.heap.size N8 w11) := c11
      clear s0 s1 s2 s3 s4 sf hr4
      clear cM c11 r0 r1 r2 r3 r4 x0 x1 x2 x3 x4
      obtain ⟨⟨ZV, Z7⟩, Z8, Z9, Z10⟩ := K.out w11 C11.out
      obtain ⟨⟨r0, r1, r2, r3, r4⟩, _⟩ := ZV.cells
      obtain ⟨⟨x0, x1, x2, x3, x4⟩, _⟩ := Z9.cells
      have cM := (MC.out) w11 C11.out
      clear ZV Z7 Z8 Z9 Z10
      go_wp2_with fail
      refine cM.mono ?_; rintro e w12 ⟨rfl, c12⟩
      have C12 : Hid (Below N8.heap.size N8 w12) := C11.out.trans (c12.mono C11.out.size)
      clear cM c12 r0 r1 r2 r3 r4 x0 x1 x2 x3 x4
      obtain ⟨⟨ZV, Z7⟩, Z8, Z9, Z10⟩ := K.out w12 C12.out
      obtain ⟨⟨r0, r1, r2, r3, r4⟩, _⟩ := ZV.cells
      obtain ⟨⟨x0, x1, x2, x3, x4⟩, _⟩ := Z10.cells
      have cM := (MD.out g4) w12 C12.out
      clear ZV Z7 Z8 Z9 Z10
      go_wp2_with fail
      refine cM.mono ?_; rintro e w13 ⟨rfl, c13⟩
      have C13 : Hid (Below N8.heap.size N8 w13) := C12.out.trans (c13.mono C12.out.size)
      clear cM c13 r0 r1 r2 r3 r4 x0 x1 x2 x3 x4
      go_wp2_with fail
      go_ret
      exact ⟨rfl, C2.out.trans ((CN8.out.trans (C13.out.mono CN8.out.size)).mono C2.out.size)⟩
  · have v1 : (n != yn) = true := bne_iff_ne.2 gn
    have ga : (_ : Int) ≠ 1 ∨ (n ≠ 0 ∧ n ≠ 1) := .inl g1
    by_cases gl : l = []
    · have u1 : (S l).toList = [] := by rw [gl]; exact S_toList []
      have u2 : (S l).toList.isEmpty = true := by rw [u1]; rfl
      clear gl
      obtain ⟨⟨ZV, Z7⟩, Z8, Z9, Z10⟩ := K.out N8 (Below.refl _ _)
      obtain ⟨⟨r0, r1, r2, r3, r4⟩, _⟩ := ZV.cells
      obtain ⟨⟨x0, x1, x2, x3, x4⟩, _⟩ := Z7.cells
      have cM := (MA.out g2 gn ga) N8 (Below.refl _ _)
      clear ZV Z7 Z8 Z9 Z10
      rw [hN8] at r0 r1 r2 r3 r4 x0 x1 x2 x3 x4 cM
      go_wp2_with (at_builtin; refine Lib.wpList_append_run _ rfl _ _ _ _ rfl _ _ rfl rfl _ _ hr4 ?_)
      refine cM.mono ?_; rintro e w11 ⟨rfl, c11⟩
      rw [← hN8] at c11
      have C11 : Hid (Below N8.heap.size N8 w11) := c11
      clear s0 s1 s2 s3 s4 sf hr4
      clear cM c11 r0 r1 r2 r3 r4 x0 x1 x2 x3 x4
      obtain ⟨⟨ZV, Z7⟩, Z8, Z9, Z10⟩ := K.out w11 C11.out
      obtain ⟨⟨r0, r1, r2, r3, r4⟩, _⟩ := ZV.cells
      obtain ⟨⟨x0, x1, x2, x3, x4⟩, _⟩ := Z9.cells
      have cM := (MC.out) w11 C11.out
      clear ZV Z7 Z8 Z9 Z10
      go_wp2_with fail
      refine cM.mono ?_; rintro e w12 ⟨rfl, c12⟩
      have C12 : Hid (Below N8.heap.size N8 w12) := C11.out.trans (c12.mono C11.out.size)
      clear cM c12 r0 r1 r2 r3 r4 x0 x1 x2 x3 x4
      obtain ⟨⟨ZV, Z7⟩, Z8, Z9, Z10⟩ := K.out w12 C12.out
      obtain ⟨⟨r0, r1, r2, r3, r4⟩, _⟩ := ZV.cells
      obtain ⟨⟨x0, x1, x2, x3, x4⟩, _⟩ := Z10.cells
      have cM := (MD.out g4) w12 C12.out
      clear ZV Z7 Z8 Z9 Z10
      go_wp2_with fail
      refine cM.mono ?_; rintro e w13 ⟨rfl, c13⟩
      have C13 : Hid (Below N8.heap.size N8 w13) := C12.out.trans (c13.mono C12.out.size)
      clear cM c13 r0 r1 r2 r3 r4 x0 x1 x2 x3 x4
      go_wp2_with fail
      go_ret
      exact ⟨rfl, C2.out.trans ((CN8.out.trans (C13.out.mono CN8.out.size)).mono C2.out.size)⟩
    · have u1 : (S l).toList ≠ [] := by rw [S_toList]; exact gl
      have u2 : (S l).toList.isEmpty = false := by rw [List.isEmpty_eq_false_iff]; exact u1
      obtain ⟨⟨ZV, Z7⟩, Z8, Z9, Z10⟩ := K.out N8 (Below.refl _ _)
      obtain ⟨⟨r0, r1, r2, r3, r4⟩, _⟩ := ZV.cells
      obtain ⟨⟨x0, x1, x2, x3, x4⟩, _⟩ := Z7.cells
      have cM := (MA.out g2 gn ga) N8 (Below.refl _ _)
      clear ZV Z7 Z8 Z9 Z10
      rw [hN8] at r0 r1 r2 r3 r4 x0 x1 x2 x3 x4 cM
      go_wp2_with (at_builtin; refine Lib.wpList_append_run _ rfl _ _ _ _ rfl _ _ rfl rfl _ _ hr4 ?_)
      refine cM.mono ?_; rintro e w11 ⟨rfl, c11⟩
      rw [← hN8] at c11
      have C11 : Hid (Below N8.heap.size N8 w11) := c11
      clear s0 s1 s2 s3 s4 sf hr4
      clear cM c11 r0 r1 r2 r3 r4 x0 x1 x2 x3 x4
      obtain ⟨⟨ZV, Z7⟩, Z8, Z9, Z10⟩ := K.out w11 C11.out
      obtain ⟨⟨r0, r1, r2, r3, r4⟩, _⟩ := ZV.cells
      obtain ⟨⟨x0, x1, x2, x3, x4⟩, _⟩ := Z8.cells
      have cM := (MB.out g3 gl) w11 C11.out
      clear ZV Z7 Z8 Z9 Z10
      go_wp2_with fail
      refine cM.mono ?_; rintro e w12 ⟨rfl, c12⟩
      have C12 : Hid (Below N8.heap.size N8 w12) := C11.out.trans (c12.mono C11.out.size)
      clear cM c12 r0 r1 r2 r3 r4 x0 x1 x2 x3 x4
      obtain ⟨⟨ZV, Z7⟩, Z8, Z9, Z10⟩ := K.out w12 C12.out
      obtain ⟨⟨r0, r1, r2, r3, r4⟩, _⟩ := ZV.cells
      obtain ⟨⟨x0, x1, x2, x3, x4⟩, _⟩ := Z9.cells
      have cM := (MC.out) w12 C12.out
      clear ZV Z7 Z8 Z9 Z10
      go_wp2_with fail
      refine cM.mono ?_; rintro e w13 ⟨rfl, c13⟩
      have C13 : Hid (Below N8.heap.size N8 w13) := C12.out.trans (c13.mono C12.out.size)
      clear cM c13 r0 r1 r2 r3 r4 x0 x1 x2 x3 x4
      obtain ⟨⟨ZV, Z7⟩, Z8, Z9, Z10⟩ := K.out w13 C13.out
      obtain ⟨⟨r0, r1, r2, r3, r4⟩, _⟩ := ZV.cells
      obtain ⟨⟨x0, x1, x2, x3, x4⟩, _⟩ := Z10.cells
      have cM := (MD.out g4) w13 C13.out
      clear ZV Z7 Z8 Z9 Z10
      go_wp2_with fail
      refine cM.mono ?_; rintro e w14 ⟨rfl, c14⟩
      have C14 : Hid (Below N8.heap.size N8 w14) := C13.out.trans (c14.mono C13.out.size)
      clear cM c14 r0 r1 r2 r3 r4 x0 x1 x2 x3 x4
      go_wp2_with fail
      go_ret
      exact ⟨rfl, C2.out.trans ((CN8.out.trans (C14.out.mono CN8.out.size)).mono C2.out.size)⟩
end Go.Proofs.Ytcmalaabggohmaa
