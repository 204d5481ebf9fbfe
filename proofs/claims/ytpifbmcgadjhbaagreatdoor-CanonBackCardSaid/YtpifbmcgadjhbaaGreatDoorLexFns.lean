/-
  What the program's skip, only, text, number and word come to.
-/
import Derived.Test.YtpifbmcgadjhbaaGreatDoorLexMem
import Derived.Test.YtpifbmcgadjhbaaGreatDoorLexTabs
import Derived.Test.YtpifbmcgadjhbaaGreatDoorQuoteProg
import Derived.Handy
namespace Go.Proofs.YtpifbmcgadjhbaaGreatDoor
open Go.RowKit

/-- a mark and an error as a call tells them -/
def Lm.MR (x : Lm.Mark × Nat) : Ending := .returned (.tuple #[Lm.MV x.1, .int .i64 (x.2 : Int)])
theorem Lm.ret_mr {x : Lm.Mark × Nat} {k a b : Nat} {n : Int} {t : List UInt8} {y : Nat} (h : x = (⟨k, a, b, n, t⟩, y)) {k' a' b' y' : Int} {t' : ByteArray} (hk : k' = (k : Int)) (ha : a' = (a : Int)) (hb : b' = (b : Int)) (hy : y' = (y : Int)) (ht : t' = S t) :
    Ending.returned (.tuple #[.agg #[.int .u8 k', .int .i64 a', .int .i64 b', .int .i64 n, .string t'], .int .i64 y']) = Lm.MR x := by
  subst hk ha hb hy ht h
  rfl
theorem lexMark_size : (Tryz.prog.info? 85).map (·.size) = some 5 := by kernel_rfl
theorem results_lex {fn : Func} {t u : Tmp} (h : fn.results = #[.cell t 85, .tmp u]) (tmps : Array Value) (w : World) {b : Nat} {m : Array Value} {fr : Nat × Nat}
    (ht : tmps.getD t undef = .pointer (some ⟨b, 0, none⟩)) (hg : w.heap[b]? = some (.cells m 85 fr)) (hm : m.size = 5) :
    (results fn tmps).run Tryz.prog w = .ok (.tuple #[.agg m, tmps.getD u undef]) w := by
  have hl := run_loadVar_row (P := Tryz.prog) w b 85 85 m fr _ hg Tryz.underlying85 rfl (by rw [hm]; exact lexMark_size)
  have ht' : tmps[t]?.getD undef = .pointer (some ⟨b, 0, none⟩) := by rw [← Array.getD_eq_getD_getElem?]; exact ht
  simp [results, h, ht', asAddr, hl]
/-- the result's own block is as it was laid -/
def NAt (b : Nat) (w : World) : Prop := MkAt b w (.int .u8 0) (.int .i64 0) (.int .i64 0) (.int .i64 0) (.string ⟨#[]⟩)
theorem NAt.below {b : Nat} {w w' : World} (h : NAt b w) (hb : Below w.heap.size w w') : NAt b w' := MkAt.below h hb
theorem NAt.cells {b : Nat} {w : World} (h : NAt b w) : (w.cell? ⟨b, 0, none⟩ = some (.int .u8 0) ∧ w.cell? ⟨b, 1, none⟩ = some (.int .i64 0) ∧ w.cell? ⟨b, 2, none⟩ = some (.int .i64 0) ∧ w.cell? ⟨b, 3, none⟩ = some (.int .i64 0) ∧ w.cell? ⟨b, 4, none⟩ = some (.string ⟨#[]⟩))
    ∧ ∀ o, w.frozen? ⟨b, o, none⟩ = false := MkAt.cells h
theorem NAt.set5 {b : Nat} {w : World} (h : NAt b w) (v0 v1 v2 v3 v4 : Value) : (((((w.setCell ⟨b, 0, none⟩ v0).setCell ⟨b, 1, none⟩ v1).setCell ⟨b, 2, none⟩ v2).setCell ⟨b, 3, none⟩ v3).setCell ⟨b, 4, none⟩ v4).heap[b]? = some (.cells #[v0, v1, v2, v3, v4] 85 (0, 0)) := by
  have h0 := heap_setCell_same w b 0 _ _ v0 h
  have h1 := heap_setCell_same _ b 1 _ _ v1 h0
  have h2 := heap_setCell_same _ b 2 _ _ v2 h1
  have h3 := heap_setCell_same _ b 3 _ _ v3 h2
  exact heap_setCell_same _ b 4 _ _ v4 h3
theorem below_set5 {b B : Nat} {w0 w : World} (h : Below B w0 w) (hb : B ≤ b) (v0 v1 v2 v3 v4 : Value) : Below B w0 (((((w.setCell ⟨b, 0, none⟩ v0).setCell ⟨b, 1, none⟩ v1).setCell ⟨b, 2, none⟩ v2).setCell ⟨b, 3, none⟩ v3).setCell ⟨b, 4, none⟩ v4) :=
  ((((h.setCell (p := ⟨b, 0, none⟩) hb _).setCell (p := ⟨b, 1, none⟩) hb _).setCell (p := ⟨b, 2, none⟩) hb _).setCell (p := ⟨b, 3, none⟩) hb _).setCell (p := ⟨b, 4, none⟩) hb _

/-! skip -/
theorem idx_ws (d : UInt8) : decide (0 ≤ Lib.indexByte [32, 9, 10, 13] d) = Lm.ws d := by
  unfold Lm.ws
  by_cases h1 : d = 32
  · subst h1; rfl
  by_cases h2 : d = 9
  · subst h2; rfl
  by_cases h3 : d = 10
  · subst h3; rfl
  by_cases h4 : d = 13
  · subst h4; rfl
  have e1 : (d == 32) = false := beq_eq_false_iff_ne.2 h1
  have e2 : (d == 9) = false := beq_eq_false_iff_ne.2 h2
  have e3 : (d == 10) = false := beq_eq_false_iff_ne.2 h3
  have e4 : (d == 13) = false := beq_eq_false_iff_ne.2 h4
  have f1 : ((32 : UInt8) == d) = false := beq_eq_false_iff_ne.2 (Ne.symm h1)
  have f2 : ((9 : UInt8) == d) = false := beq_eq_false_iff_ne.2 (Ne.symm h2)
  have f3 : ((10 : UInt8) == d) = false := beq_eq_false_iff_ne.2 (Ne.symm h3)
  have f4 : ((13 : UInt8) == d) = false := beq_eq_false_iff_ne.2 (Ne.symm h4)
  simp [Lib.indexByte, e1, e2, e3, e4, f1, f2, f3, f4]
theorem lexIndex_any (d : UInt8) (w : World) {x : Int} (hx : x = (d.toNat : Int)) :
    Calls Tryz.prog 109 #[.string ⟨#[32, 9, 10, 13]⟩, .int .u8 x] w fun e w' => (∃ j, e = .returned (.int .i64 j) ∧ decide (0 ≤ j) = Lm.ws d) ∧ w = w' := by
  subst hx
  refine (Any.strings_IndexByte lays137 ⟨#[32, 9, 10, 13]⟩ (d.toNat : Int) w).mono fun _ _ ⟨h1, h2⟩ => ⟨⟨_, h1, ?_⟩, h2.symm⟩
  have e : ((d.toNat : Int)).toNat.toUInt8 = d := by
    apply UInt8.toNat.inj
    simp
  rw [e]
  exact idx_ws d
set_option maxHeartbeats 1000000 in
set_option maxRecDepth 3000 in
theorem lexSkip_any (l : List UInt8) (p : Nat) (w : World) (hp : p ≤ l.length) (hl : l.length ≤ 100000000) {E : Nat} (hE : Lm.skip l p = E) :
    Calls Tryz.prog 86 #[.string (S l), .int .i64 (p : Int)] w fun e w' => e = .returned (.int .i64 (E : Int)) ∧ w = w' := by
  have z1 := S_size l
  have HE : Hid (E = p + Lm.run Lm.ws l p) := hE.symm
  clear hE
  have hat := Tx_at l
  go_enter Tryz.func86, Tryz.ntmps86
  go_wp2_with fail
  go_loopw [1] (fun iv wr => ∃ q : Nat, iv = .int .i64 (q : Int) ∧ q ≤ l.length ∧ Hid (E = q + Lm.run Lm.ws l q) ∧ w = wr) (fun iv _ => l.length - (intOf iv).toNat)
  case atStart => exact ⟨p, rfl, hp, HE, rfl⟩
  case round =>
    obtain ⟨q, rfl, hq, HX, rfl⟩ := hrel
    by_cases hlt : (q : Int) < (l.length : Int)
    · obtain ⟨d, hd, hdr⟩ := Tx.drop_cons (show q < l.length by omega)
      have hql : q < l.length := by omega
      obtain ⟨x, hx⟩ : ∃ x : Int, x = (d.toNat : Int) := ⟨_, rfl⟩
      have hbx : (Tx.bt l q : Int) = x := by rw [hx, hd]
      have hx0 : 0 ≤ x ∧ x ≤ 255 := by have := d.toNat_lt; omega
      have cI := fun w => lexIndex_any d w hx
      have HD := Lib.hid hdr
      clear hx hd hdr
      go_wp2_with fail
      refine (cI _).mono ?_; rintro e w1 ⟨⟨j, rfl, hj⟩, rfl⟩
      by_cases hm : Lm.ws d = true
      · have hj0 : 0 ≤ j := by rw [hm] at hj; exact of_decide_eq_true hj
        have HM := Lib.hid hm
        clear hj hm
        go_wp2_with fail
        go_roundw
        · refine ⟨q + 1, rfl, by omega, ?_, by first | trivial | rfl⟩
          rw [Hid, HX.out, Lm.run_cons HD.out HM.out]
          omega
        · simp [intOf]; omega
      · have hm' : Lm.ws d = false := Bool.eq_false_iff.2 hm
        have hj0 : ¬ 0 ≤ j := by rw [hm'] at hj; exact of_decide_eq_false hj
        have HM := Lib.hid hm'
        clear hj hm hm'
        go_wp2_with fail
        go_ret
        exact ⟨ret_int (by rw [HX.out, Lm.run_stop HD.out HM.out]; rfl), rfl⟩
    · go_wp2_with fail
      go_ret
      exact ⟨ret_int (by rw [HX.out, Lm.run_end (by omega)]; rfl), rfl⟩

/-! only -/
/-- the function that lex.only hands back -/
def Pf (b : Nat) : Value := .func (.func 125) #[] #[.pointer (some ⟨b, 0, none⟩)]
/-- v is a function that tells a mark of the kind k -/
def Po (k : Nat) (w : World) (v : Value) : Prop := ∃ b, v = Pf b ∧ b < w.heap.size ∧ w.cell? ⟨b, 0, none⟩ = some (.int .u8 (k : Int))
theorem Po.below {k : Nat} {w w' : World} {v : Value} (h : Po k w v) (hb : Below w.heap.size w w') : Po k w' v := by
  obtain ⟨b, h1, h2, h3⟩ := h
  exact ⟨b, h1, Nat.lt_of_lt_of_le h2 hb.size, (World.cell?_of_block (a := ⟨b, 0, none⟩) (hb.block b h2)).trans h3⟩
set_option maxHeartbeats 400000 in
theorem lexOnly_any (k : Nat) (w : World) {k' : Int} (h : k' = (k : Int)) :
    Calls Tryz.prog 105 #[.int .u8 k'] w fun e w' => ∃ v, e = .returned v ∧ Po k w' v ∧ Below w.heap.size w w' := by
  subst h
  have hmf : ∀ (fn : Fn) (first cap : Array Value) (w : World), (Instr.makeFunc fn first cap).run Tryz.prog w = .ok (.func fn first cap) w := fun _ _ _ _ => rfl
  have hc : (w.alloc (.cells #[.int .u8 (k : Int)] 5)).cell? ⟨w.heap.size, 0, none⟩ = some (.int .u8 (k : Int)) := by
    rw [cell_of_row _ _ 0 _ _ _ (heap_alloc_new w _)]; rfl
  have HC := Lib.hid hc
  clear hc
  go_enter Tryz.func105, Tryz.ntmps105
  go_wp2_with fail
  go_ret
  exact ⟨_, rfl, ⟨w.heap.size, rfl, by simp, HC.out⟩, (Below.refl _ _).alloc (Nat.le_refl _) _⟩
set_option maxHeartbeats 400000 in
theorem lexOnly1_any (l : List UInt8) (p b k : Nat) (w : World) (hp : p ≤ 100000000) {x : Lm.Mark × Nat} (hx : x = (⟨k, p, p + 1, 0, []⟩, 0)) (hb : b < w.heap.size) (h : w.cell? ⟨b, 0, none⟩ = some (.int .u8 (k : Int))) :
    Calls Tryz.prog 125 #[.string (S l), .int .i64 (p : Int), .pointer (some ⟨b, 0, none⟩)] w fun e w' => e = Lm.MR x ∧ Below w.heap.size w w' := by
  have HX := Lib.hid hx
  clear hx
  have hc : (w.alloc (.cells #[.int .u8 0, .int .i64 0, .int .i64 0, .int .i64 0, .string ⟨#[]⟩] 85)).cell? ⟨b, 0, none⟩ = some (.int .u8 (k : Int)) :=
    (World.cell?_of_block (a := ⟨b, 0, none⟩) (Below.heap_alloc _ _ _ hb)).trans h
  clear h
  go_enter Tryz.func125, Tryz.ntmps125
  go_wp2_with fail
  go_returns
  exact ⟨Lm.ret_mr HX.out rfl rfl (by omega) rfl rfl, (Below.refl _ _).alloc (Nat.le_refl _) _⟩

/-! text, number -/
set_option maxHeartbeats 1000000 in
set_option maxRecDepth 3000 in
theorem lexText_any (l : List UInt8) (p : Nat) (w : World) (hT : TabL w) (hl : l.length ≤ 50000000) {x : Lm.Mark × Nat}
    (hx : x = if (Qm.RD l (p : Int)).2.2 = 0 then (⟨10, p, (Qm.RD l (p : Int)).2.1, 0, (Qm.RD l (p : Int)).1⟩, 0) else (Lm.zero, (Qm.RD l (p : Int)).2.2)) :
    Calls Tryz.prog 106 #[.string (S l), .int .i64 (p : Int)] w fun e w' => e = Lm.MR x ∧ Below w.heap.size w w' := by
  obtain ⟨t, b, y, hR⟩ : ∃ t b y, Qm.RD l (p : Int) = (t, b, y) := ⟨_, _, _, rfl⟩
  have cR : ∀ w, TabL w → Calls Tryz.prog 126 #[.string (S l), .int .i64 (p : Int)] w fun e w' => e = .returned (.tuple #[.string (S t), .int .i64 (b : Int), .int .i64 (y : Int)]) ∧ Below w.heap.size w w' := fun w hT => by
    have h := Read_any l (p : Int) w (by omega) hT.1
    rw [hR] at h
    exact h
  rw [hR] at hx
  clear hR
  obtain ⟨W1, hW1⟩ : ∃ W1, W1 = w.alloc (.cells #[.int .u8 0, .int .i64 0, .int .i64 0, .int .i64 0, .string ⟨#[]⟩] 85) := ⟨_, rfl⟩
  have HB1 : Hid (Below w.heap.size w W1) := by rw [hW1]; exact (Below.refl _ _).alloc (Nat.le_refl _) _
  have HH1 : NAt w.heap.size W1 := by rw [hW1]; exact MkAt.new ..
  have T1 := hT.below HB1.out
  by_cases hy : (y : Int) = 0
  · obtain rfl : y = 0 := by omega
    have HX : Hid (x = (⟨10, p, b, 0, t⟩, 0)) := by rw [Hid, hx]; exact if_pos rfl
    clear hx hy
    go_enter Tryz.func106, Tryz.ntmps106
    go_wp2_with fail
    rw [← hW1]
    clear hW1
    refine (cR _ T1).mono ?_; rintro e w2 ⟨rfl, b2⟩
    have HH2 := HH1.below b2
    obtain ⟨⟨q0, q1, q2, q3, q4⟩, qf⟩ := HH2.cells
    have HB2 := Lib.hid (HB1.out.trans (b2.mono HB1.out.size))
    clear b2 cR T1
    go_wp2_with fail
    refine bodyPost_ret (results_lex (fn := Tryz.f106) (t := 4) (u := 5) rfl _ _ rfl (NAt.set5 HH2 _ _ _ _ _) rfl) rfl ?_
    exact ⟨Lm.ret_mr HX.out rfl rfl rfl rfl rfl, below_set5 HB2.out (Nat.le_refl _) _ _ _ _ _⟩
  · have hyb : ((y : Int) != 0) = true := bne_iff_ne.2 hy
    have HX : Hid (x = (⟨0, 0, 0, 0, []⟩, y)) := by rw [Hid, hx]; exact if_neg (by show ¬ y = 0; omega)
    clear hx hy
    go_enter Tryz.func106, Tryz.ntmps106
    go_wp2_with fail
    rw [← hW1]
    clear hW1
    refine (cR _ T1).mono ?_; rintro e w2 ⟨rfl, b2⟩
    have HH2 := HH1.below b2
    obtain ⟨⟨q0, q1, q2, q3, q4⟩, qf⟩ := HH2.cells
    have HB2 := Lib.hid (HB1.out.trans (b2.mono HB1.out.size))
    clear b2 cR T1
    go_wp2_with fail
    refine bodyPost_ret (results_lex (fn := Tryz.f106) (t := 4) (u := 5) rfl _ _ rfl (NAt.set5 HH2 _ _ _ _ _) rfl) rfl ?_
    exact ⟨Lm.ret_mr HX.out rfl rfl rfl rfl rfl, below_set5 HB2.out (Nat.le_refl _) _ _ _ _ _⟩
theorem Lm.READ_nn' (l : List UInt8) (k : Nat) : 0 ≤ (Nm.READ l (k : Int)).2.1 ∧ 0 ≤ (Nm.READ l (k : Int)).2.2 := by
  unfold Nm.READ
  split
  · split
    · split
      · constructor
        · show 0 ≤ (k : Int) + _; omega
        · exact Int.le_refl _
      · decide
    · decide
  · decide
set_option maxHeartbeats 1000000 in
set_option maxRecDepth 3000 in
theorem lexNumber_any (l : List UInt8) (p : Nat) (w : World) (hT : TabL w) (hl : l.length ≤ 50000000) {x : Lm.Mark × Nat}
    (hx : x = if (Nm.READ l (p : Int)).2.2 = 0 then (⟨9, p, (Nm.READ l (p : Int)).2.1.toNat, (Nm.READ l (p : Int)).1, []⟩, 0) else (Lm.zero, (Nm.READ l (p : Int)).2.2.toNat)) :
    Calls Tryz.prog 107 #[.string (S l), .int .i64 (p : Int)] w fun e w' => e = Lm.MR x ∧ Below w.heap.size w w' := by
  have hnn := Lm.READ_nn' l p
  obtain ⟨n, b, y, hR⟩ : ∃ n b y, Nm.READ l (p : Int) = (n, b, y) := ⟨_, _, _, rfl⟩
  have cR := fun w (hT : TabL w) => numRead_any l (p : Int) w hT.2 hl
  rw [hR] at hx cR hnn
  have cR : ∀ w, TabL w → Calls Tryz.prog 127 #[.string (S l), .int .i64 (p : Int)] w fun e w' => e = .returned (.tuple #[.int .i64 n, .int .i64 b, .int .i64 y]) ∧ Below w.heap.size w w' := cR
  clear hR
  obtain ⟨W1, hW1⟩ : ∃ W1, W1 = w.alloc (.cells #[.int .u8 0, .int .i64 0, .int .i64 0, .int .i64 0, .string ⟨#[]⟩] 85) := ⟨_, rfl⟩
  have HB1 : Hid (Below w.heap.size w W1) := by rw [hW1]; exact (Below.refl _ _).alloc (Nat.le_refl _) _
  have HH1 : NAt w.heap.size W1 := by rw [hW1]; exact MkAt.new ..
  have T1 := hT.below HB1.out
  by_cases hy : y = 0
  · subst hy
    have HX : Hid (x = (⟨9, p, b.toNat, n, []⟩, 0)) := by rw [Hid, hx]; exact if_pos rfl
    clear hx
    go_enter Tryz.func107, Tryz.ntmps107
    go_wp2_with fail
    rw [← hW1]
    clear hW1
    refine (cR _ T1).mono ?_; rintro e w2 ⟨rfl, b2⟩
    have HH2 := HH1.below b2
    obtain ⟨⟨q0, q1, q2, q3, q4⟩, qf⟩ := HH2.cells
    have HB2 := Lib.hid (HB1.out.trans (b2.mono HB1.out.size))
    clear b2 cR T1
    go_wp2_with fail
    refine bodyPost_ret (results_lex (fn := Tryz.f107) (t := 4) (u := 5) rfl _ _ rfl (NAt.set5 HH2 _ _ _ _ _) rfl) rfl ?_
    exact ⟨Lm.ret_mr HX.out rfl rfl (by have := hnn.1; omega) rfl rfl, below_set5 HB2.out (Nat.le_refl _) _ _ _ _ _⟩
  · have hyb : (y != 0) = true := bne_iff_ne.2 hy
    have HX : Hid (x = (⟨0, 0, 0, 0, []⟩, y.toNat)) := by rw [Hid, hx]; exact if_neg hy
    clear hx hy
    go_enter Tryz.func107, Tryz.ntmps107
    go_wp2_with fail
    rw [← hW1]
    clear hW1
    refine (cR _ T1).mono ?_; rintro e w2 ⟨rfl, b2⟩
    have HH2 := HH1.below b2
    obtain ⟨⟨q0, q1, q2, q3, q4⟩, qf⟩ := HH2.cells
    have HB2 := Lib.hid (HB1.out.trans (b2.mono HB1.out.size))
    clear b2 cR T1
    go_wp2_with fail
    refine bodyPost_ret (results_lex (fn := Tryz.f107) (t := 4) (u := 5) rfl _ _ rfl (NAt.set5 HH2 _ _ _ _ _) rfl) rfl ?_
    exact ⟨Lm.ret_mr HX.out rfl rfl rfl (by have := hnn.2; omega) rfl, below_set5 HB2.out (Nat.le_refl _) _ _ _ _ _⟩
end Go.Proofs.YtpifbmcgadjhbaaGreatDoor
