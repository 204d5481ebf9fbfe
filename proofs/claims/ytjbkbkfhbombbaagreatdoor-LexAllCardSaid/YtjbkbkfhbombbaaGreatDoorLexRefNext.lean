/-
  What the document's Next comes to.
-/
import Derived.Test.YtjbkbkfhbombbaaGreatDoorLexRefRun
import Derived.Test.YtjbkbkfhbombbaaGreatDoorQuoteRefRead
import Derived.Test.YtjbkbkfhbombbaaGreatDoorNumRefRead
import Derived.Handy
import Derived.Laws.CopyOwn
namespace Go.Proofs.YtjbkbkfhbombbaaGreatDoor
open Go.RowKit

theorem ret_mark {x : Lm.Mark × Nat} {k a b : Nat} {n : Int} {t : List UInt8} {y : Nat} (h : x = (⟨k, a, b, n, t⟩, y)) {k' a' b' y' : Int} {t' : ByteArray} (hk : k' = (k : Int)) (ha : a' = (a : Int)) (hb : b' = (b : Int)) (hy : y' = (y : Int)) (ht : t' = S t) :
    Ending.returned (.tuple #[.agg #[.int .u8 k', .int .i64 a', .int .i64 b', .int .i64 n, .string t'], .int .i64 y']) = .returned (.tuple #[Lm.MV x.1, .int .i64 (x.2 : Int)]) := by
  subst hk ha hb hy ht h
  rfl
theorem mark_size : (Tryz.prog.info? 28).map (·.size) = some 5 := by kernel_rfl
theorem wpList_mark {ops : Array Oper} {rest : List Oper} {o : Oper} {a : Act} {w : World} {Q : Exit → Act → World → Prop} (hgd : o.guard = none) (x y : Operand) (ho : o.op = .store 28 x y)
    (g : Nat) (cells : Array Value) (hx : a.eval x = .pointer (some ⟨g, 0, none⟩)) (hy : a.eval y = .agg cells) (hs : cells.size = 5) (h1 : cells.all (·.oneCell') = true)
    (old : Array Value) (hg : w.heap[g]? = some (.cells old 28 (0, 0))) (hold : old.size = 5)
    (h : wpList Tryz.prog ops Q rest (a.put o.dst undef) (w.setRow g cells)) : wpList Tryz.prog ops Q (o :: rest) a w :=
  wpList_store_row hgd 28 x y ho g cells hx hy 28 old hg (by rw [hs]; exact mark_size) (by rw [hs, hold]) h1 h
theorem results_mark {fn : Func} {t u : Tmp} (h : fn.results = #[.cell t 28, .tmp u]) (tmps : Array Value) (w : World) {b : Nat} {m : Array Value} {fr : Nat × Nat}
    (ht : tmps.getD t undef = .pointer (some ⟨b, 0, none⟩)) (hg : w.heap[b]? = some (.cells m 28 fr)) (hm : m.size = 5) :
    (results fn tmps).run Tryz.prog w = .ok (.tuple #[.agg m, tmps.getD u undef]) w := by
  have hl := run_loadVar_row (P := Tryz.prog) w b 28 28 m fr _ hg Tryz.underlying28 rfl (by rw [hm]; exact mark_size)
  have ht' : tmps[t]?.getD undef = .pointer (some ⟨b, 0, none⟩) := by rw [← Array.getD_eq_getD_getElem?]; exact ht
  simp [results, h, ht', asAddr, hl]
/-- the mark that is not told yet -/
def Z5 : Array Value := #[.int .u8 0, .int .i64 0, .int .i64 0, .int .i64 0, .string ⟨#[]⟩]
/-- the result's own block is as it was laid -/
def ZAt (b : Nat) (w : World) : Prop := w.heap[b]? = some (.cells Z5 28 (0, 0))
theorem ZAt.below {b : Nat} {w w' : World} (h : ZAt b w) (hb : Below w.heap.size w w') : ZAt b w' := (hb.block b (Array.getElem?_eq_some_iff.1 h).1).trans h
theorem ZAt.drew {b : Nat} {w : World} (h : ZAt b w) : ZAt b w.drew := h
theorem ZAt.cells {b : Nat} {w : World} (h : ZAt b w) : (w.cell? ⟨b, 0, none⟩ = some (.int .u8 0) ∧ w.cell? ⟨b, 1, none⟩ = some (.int .i64 0) ∧ w.cell? ⟨b, 2, none⟩ = some (.int .i64 0) ∧ w.cell? ⟨b, 3, none⟩ = some (.int .i64 0) ∧ w.cell? ⟨b, 4, none⟩ = some (.string ⟨#[]⟩))
    ∧ ∀ o, w.frozen? ⟨b, o, none⟩ = false := by
  refine ⟨⟨?_, ?_, ?_, ?_, ?_⟩, fun o => ?_⟩
  all_goals first | (rw [cell_of_row w b _ _ _ _ h]; rfl) | (unfold World.frozen?; rw [show w.heap[b]? = _ from h]; simp)
theorem set5_heap {b : Nat} {w : World} (h : ZAt b w) (v0 v1 v2 v3 v4 : Value) : (((((w.setCell ⟨b, 0, none⟩ v0).setCell ⟨b, 1, none⟩ v1).setCell ⟨b, 2, none⟩ v2).setCell ⟨b, 3, none⟩ v3).setCell ⟨b, 4, none⟩ v4).heap[b]? = some (.cells #[v0, v1, v2, v3, v4] 28 (0, 0)) := by
  have h0 := heap_setCell_same w b 0 _ _ v0 h
  have h1 := heap_setCell_same _ b 1 _ _ v1 h0
  have h2 := heap_setCell_same _ b 2 _ _ v2 h1
  have h3 := heap_setCell_same _ b 3 _ _ v3 h2
  exact heap_setCell_same _ b 4 _ _ v4 h3
theorem set5_below {b B : Nat} {w0 w : World} (h : Below B w0 w) (hb : B ≤ b) (v0 v1 v2 v3 v4 : Value) : Below B w0 (((((w.setCell ⟨b, 0, none⟩ v0).setCell ⟨b, 1, none⟩ v1).setCell ⟨b, 2, none⟩ v2).setCell ⟨b, 3, none⟩ v3).setCell ⟨b, 4, none⟩ v4) :=
  ((((h.setCell (p := ⟨b, 0, none⟩) hb _).setCell (p := ⟨b, 1, none⟩) hb _).setCell (p := ⟨b, 2, none⟩) hb _).setCell (p := ⟨b, 3, none⟩) hb _).setCell (p := ⟨b, 4, none⟩) hb _
theorem Nm.READ_ways' (l : List UInt8) (a : Int) : Nm.READ l a = (0, 0, 1) ∨ Nm.READ l a = (0, 0, 3) ∨ Nm.READ l a = (0, 0, 9) ∨ ∃ (v : Int) (z : Nat), Nm.READ l a = (v, a + (z : Int), 0) := by
  unfold Nm.READ
  split
  · split
    · split
      · exact .inr (.inr (.inr ⟨_, _, rfl⟩))
      · exact .inr (.inr (.inl rfl))
    · exact .inr (.inl rfl)
  · exact .inl rfl
theorem Nm.READ_nn (l : List UInt8) (k : Nat) : 0 ≤ (Nm.READ l (k : Int)).2.1 ∧ 0 ≤ (Nm.READ l (k : Int)).2.2 := by
  rcases Nm.READ_ways' l (k : Int) with h | h | h | ⟨v, z, h⟩
  · rw [h]; decide
  · rw [h]; decide
  · rw [h]; decide
  · rw [h]; exact ⟨by show 0 ≤ (k : Int) + (z : Int); omega, Int.le_refl _⟩
set_option maxHeartbeats 40000000 in
set_option maxRecDepth 3000 in
theorem refLexNext_any (l : List UInt8) (a : Int) (w : World) (hl : l.length ≤ 50000000) :
    Calls Tryz.prog 7 #[.string (S l), .int .i64 a] w fun e w' => e = .returned (.tuple #[Lm.MV (Lm.NEXT l a).1, .int .i64 ((Lm.NEXT l a).2 : Int)]) ∧ Below w.heap.size w w' := by
  have z1 := S_size l
  have hat := Tx_at l
  by_cases h1 : a < 0
  · have HR : Hid (Lm.NEXT l a = (⟨0, 0, 0, 0, []⟩, 1)) := by unfold Lm.NEXT Hid; rw [if_neg (by omega)]; rfl
    go_enter Tryz.func7, Tryz.ntmps7
    go_wp2_with fail
    go_returns
    exact ⟨ret_mark HR.out rfl rfl rfl rfl rfl, (Below.refl _ _).alloc (Nat.le_refl _) _⟩
  by_cases h2 : (l.length : Int) < a
  · have HR : Hid (Lm.NEXT l a = (⟨0, 0, 0, 0, []⟩, 1)) := by unfold Lm.NEXT Hid; rw [if_neg (by omega)]; rfl
    go_enter Tryz.func7, Tryz.ntmps7
    go_wp2_with fail
    go_returns
    exact ⟨ret_mark HR.out rfl rfl rfl rfl rfl, (Below.refl _ _).alloc (Nat.le_refl _) _⟩
  obtain ⟨k, rfl⟩ : ∃ k : Nat, a = (k : Int) := ⟨a.toNat, by omega⟩
  have hk : k ≤ l.length := by omega
  have hR := Lm.NEXT_in hk
  obtain ⟨p, hp⟩ : ∃ p, Lm.skip l k = p := ⟨_, rfl⟩
  have hpl : p ≤ l.length := by rw [← hp]; exact Lm.run_le _ _ _ hk
  have cB := fun w => behind_any l k w hk (by omega) (E := p) hp
  rw [hp] at hR
  clear hp
  by_cases hend : (p : Int) = (l.length : Int)
  · have HR : Hid (Lm.NEXT l (k : Int) = (⟨11, p, p, 0, []⟩, 0)) := by
      rw [Hid, hR]
      unfold Lm.mark
      rw [List.drop_of_length_le (by omega)]
    have hee : ((p : Int) == (l.length : Int)) = true := beq_iff_eq.2 hend
    clear hend hR
    go_enter Tryz.func7, Tryz.ntmps7
    go_wp2_with fail
    refine (cB _).mono ?_; rintro e w1 ⟨rfl, rfl⟩
    go_wp2_with fail
    go_returns
    exact ⟨ret_mark HR.out rfl rfl rfl rfl rfl, (Below.refl _ _).alloc (Nat.le_refl _) _⟩
  have hee : ((p : Int) == (l.length : Int)) = false := beq_eq_false_iff_ne.2 hend
  have hpl1 : p < l.length := by omega
  have hpl2 : (p : Int) < (l.length : Int) := by omega
  obtain ⟨c, hc, hdr⟩ := Tx.drop_cons hpl1
  have HC := Lib.hid hc
  have HD := Lib.hid hdr
  have HR := Lib.hid hR
  have hby := Tx.bt_lt l p
  clear hend hc hdr hR
  obtain ⟨W1, hW1⟩ : ∃ W1, W1 = w.alloc (.cells Z5 28) := ⟨_, rfl⟩
  have HB1 : Hid (Below w.heap.size w W1) := by rw [hW1]; exact (Below.refl _ _).alloc (Nat.le_refl _) _
  have HH1 : ZAt w.heap.size W1 := by
    rw [hW1]
    exact heap_alloc_new w _
  go_enter Tryz.func7, Tryz.ntmps7
  go_wp2_with fail
  refine (cB _).mono ?_; rintro e w1 ⟨rfl, rfl⟩
  go_wp2_with fail
  rw [show w.alloc (.cells #[.int .u8 0, .int .i64 0, .int .i64 0, .int .i64 0, .string ⟨#[]⟩] 28) = W1 from hW1.symm]
  clear hW1
  go_loopw [7] (fun iv wr => ∃ i : Nat, iv = .int .i64 (i : Int) ∧ i ≤ 6 ∧ Hid (∀ j, j < i → ([123, 125, 91, 93, 44, 58] : List Nat).getD j 0 ≠ c.toNat) ∧ Below W1.heap.size W1 wr) (fun iv _ => 6 - (intOf iv).toNat)
  case atStart => exact ⟨0, rfl, by omega, fun j hj => by omega, Below.refl _ _⟩
  case round =>
    obtain ⟨i, rfl, hi, HN, hbel⟩ := hrel
    have HHr : ZAt w.heap.size wr := HH1.below hbel
    have HBr : Hid (Below w.heap.size w wr) := HB1.out.trans (hbel.mono HB1.out.size)
    by_cases h6 : (i : Int) < 6
    · rcases (show i = 0 ∨ i = 1 ∨ i = 2 ∨ i = 3 ∨ i = 4 ∨ i = 5 by omega) with rfl | rfl | rfl | rfl | rfl | rfl
      · have hli : ∀ h, ((⟨#[123, 125, 91, 93, 44, 58]⟩ : ByteArray)[0]'h).toNat = 123 := fun _ => rfl
        by_cases hm : (Tx.bt l p : Int) = 123
        · have HM : Hid (Lm.NEXT l (k : Int) = (⟨1, p, p + 1, 0, []⟩, 0)) := by
            have hcc : c = 123 := UInt8.toNat.inj (by rw [HC.out, show Tx.bt l p = 123 by omega]; rfl)
            rw [Hid, HR.out]
            exact Lm.mark_punct HD.out (by rw [hcc]; rfl) (by decide)
          obtain ⟨⟨q0, q1, q2, q3, q4⟩, qf⟩ := HHr.cells
          go_wp2_with fail
          go_region
          all_goals
            go_wp2_with fail
            refine bodyPost_ret (results_mark (fn := Tryz.f7) (t := 4) (u := 5) rfl _ _ rfl (set5_heap HHr.drew _ _ _ _ _) rfl) rfl ?_
            exact ⟨ret_mark HM.out rfl rfl (by omega) rfl rfl, (set5_below HBr.out (Nat.le_refl _) _ _ _ _ _).drew⟩
        · have hmb : ((Tx.bt l p : Int) == 123) = false := beq_eq_false_iff_ne.2 hm
          have HNN : Hid (∀ j, j < 1 → ([123, 125, 91, 93, 44, 58] : List Nat).getD j 0 ≠ c.toNat) := fun j hj => by
            by_cases e : j = 0
            · subst e
              show 123 ≠ c.toNat
              rw [HC.out]
              omega
            · exact HN.out j (by omega)
          clear hm
          go_wp2_with fail
          go_region
          all_goals
            go_wp2_with fail
            go_roundw
            case rel => exact ⟨1, rfl, by omega, HNN, hbel.drew⟩
            case measure => simp [intOf]
      · have hli : ∀ h, ((⟨#[123, 125, 91, 93, 44, 58]⟩ : ByteArray)[1]'h).toNat = 125 := fun _ => rfl
        by_cases hm : (Tx.bt l p : Int) = 125
        · have HM : Hid (Lm.NEXT l (k : Int) = (⟨2, p, p + 1, 0, []⟩, 0)) := by
            have hcc : c = 125 := UInt8.toNat.inj (by rw [HC.out, show Tx.bt l p = 125 by omega]; rfl)
            rw [Hid, HR.out]
            exact Lm.mark_punct HD.out (by rw [hcc]; rfl) (by decide)
          obtain ⟨⟨q0, q1, q2, q3, q4⟩, qf⟩ := HHr.cells
          go_wp2_with fail
          go_region
          all_goals
            go_wp2_with fail
            refine bodyPost_ret (results_mark (fn := Tryz.f7) (t := 4) (u := 5) rfl _ _ rfl (set5_heap HHr.drew _ _ _ _ _) rfl) rfl ?_
            exact ⟨ret_mark HM.out rfl rfl (by omega) rfl rfl, (set5_below HBr.out (Nat.le_refl _) _ _ _ _ _).drew⟩
        · have hmb : ((Tx.bt l p : Int) == 125) = false := beq_eq_false_iff_ne.2 hm
          have HNN : Hid (∀ j, j < 2 → ([123, 125, 91, 93, 44, 58] : List Nat).getD j 0 ≠ c.toNat) := fun j hj => by
            by_cases e : j = 1
            · subst e
              show 125 ≠ c.toNat
              rw [HC.out]
              omega
            · exact HN.out j (by omega)
          clear hm
          go_wp2_with fail
          go_region
          all_goals
            go_wp2_with fail
            go_roundw
            case rel => exact ⟨2, rfl, by omega, HNN, hbel.drew⟩
            case measure => simp [intOf]
      · have hli : ∀ h, ((⟨#[123, 125, 91, 93, 44, 58]⟩ : ByteArray)[2]'h).toNat = 91 := fun _ => rfl
        by_cases hm : (Tx.bt l p : Int) = 91
        · have HM : Hid (Lm.NEXT l (k : Int) = (⟨3, p, p + 1, 0, []⟩, 0)) := by
            have hcc : c = 91 := UInt8.toNat.inj (by rw [HC.out, show Tx.bt l p = 91 by omega]; rfl)
            rw [Hid, HR.out]
            exact Lm.mark_punct HD.out (by rw [hcc]; rfl) (by decide)
          obtain ⟨⟨q0, q1, q2, q3, q4⟩, qf⟩ := HHr.cells
          go_wp2_with fail
          go_region
          all_goals
            go_wp2_with fail
            refine bodyPost_ret (results_mark (fn := Tryz.f7) (t := 4) (u := 5) rfl _ _ rfl (set5_heap HHr.drew _ _ _ _ _) rfl) rfl ?_
            exact ⟨ret_mark HM.out rfl rfl (by omega) rfl rfl, (set5_below HBr.out (Nat.le_refl _) _ _ _ _ _).drew⟩
        · have hmb : ((Tx.bt l p : Int) == 91) = false := beq_eq_false_iff_ne.2 hm
          have HNN : Hid (∀ j, j < 3 → ([123, 125, 91, 93, 44, 58] : List Nat).getD j 0 ≠ c.toNat) := fun j hj => by
            by_cases e : j = 2
            · subst e
              show 91 ≠ c.toNat
              rw [HC.out]
              omega
            · exact HN.out j (by omega)
          clear hm
          go_wp2_with fail
          go_region
          all_goals
            go_wp2_with fail
            go_roundw
            case rel => exact ⟨3, rfl, by omega, HNN, hbel.drew⟩
            case measure => simp [intOf]
      · have hli : ∀ h, ((⟨#[123, 125, 91, 93, 44, 58]⟩ : ByteArray)[3]'h).toNat = 93 := fun _ => rfl
        by_cases hm : (Tx.bt l p : Int) = 93
        · have HM : Hid (Lm.NEXT l (k : Int) = (⟨4, p, p + 1, 0, []⟩, 0)) := by
            have hcc : c = 93 := UInt8.toNat.inj (by rw [HC.out, show Tx.bt l p = 93 by omega]; rfl)
            rw [Hid, HR.out]
            exact Lm.mark_punct HD.out (by rw [hcc]; rfl) (by decide)
          obtain ⟨⟨q0, q1, q2, q3, q4⟩, qf⟩ := HHr.cells
          go_wp2_with fail
          go_region
          all_goals
            go_wp2_with fail
            refine bodyPost_ret (results_mark (fn := Tryz.f7) (t := 4) (u := 5) rfl _ _ rfl (set5_heap HHr.drew _ _ _ _ _) rfl) rfl ?_
            exact ⟨ret_mark HM.out rfl rfl (by omega) rfl rfl, (set5_below HBr.out (Nat.le_refl _) _ _ _ _ _).drew⟩
        · have hmb : ((Tx.bt l p : Int) == 93) = false := beq_eq_false_iff_ne.2 hm
          have HNN : Hid (∀ j, j < 4 → ([123, 125, 91, 93, 44, 58] : List Nat).getD j 0 ≠ c.toNat) := fun j hj => by
            by_cases e : j = 3
            · subst e
              show 93 ≠ c.toNat
              rw [HC.out]
              omega
            · exact HN.out j (by omega)
          clear hm
          go_wp2_with fail
          go_region
          all_goals
            go_wp2_with fail
            go_roundw
            case rel => exact ⟨4, rfl, by omega, HNN, hbel.drew⟩
            case measure => simp [intOf]
      · have hli : ∀ h, ((⟨#[123, 125, 91, 93, 44, 58]⟩ : ByteArray)[4]'h).toNat = 44 := fun _ => rfl
        by_cases hm : (Tx.bt l p : Int) = 44
        · have HM : Hid (Lm.NEXT l (k : Int) = (⟨5, p, p + 1, 0, []⟩, 0)) := by
            have hcc : c = 44 := UInt8.toNat.inj (by rw [HC.out, show Tx.bt l p = 44 by omega]; rfl)
            rw [Hid, HR.out]
            exact Lm.mark_punct HD.out (by rw [hcc]; rfl) (by decide)
          obtain ⟨⟨q0, q1, q2, q3, q4⟩, qf⟩ := HHr.cells
          go_wp2_with fail
          go_region
          all_goals
            go_wp2_with fail
            refine bodyPost_ret (results_mark (fn := Tryz.f7) (t := 4) (u := 5) rfl _ _ rfl (set5_heap HHr.drew _ _ _ _ _) rfl) rfl ?_
            exact ⟨ret_mark HM.out rfl rfl (by omega) rfl rfl, (set5_below HBr.out (Nat.le_refl _) _ _ _ _ _).drew⟩
        · have hmb : ((Tx.bt l p : Int) == 44) = false := beq_eq_false_iff_ne.2 hm
          have HNN : Hid (∀ j, j < 5 → ([123, 125, 91, 93, 44, 58] : List Nat).getD j 0 ≠ c.toNat) := fun j hj => by
            by_cases e : j = 4
            · subst e
              show 44 ≠ c.toNat
              rw [HC.out]
              omega
            · exact HN.out j (by omega)
          clear hm
          go_wp2_with fail
          go_region
          all_goals
            go_wp2_with fail
            go_roundw
            case rel => exact ⟨5, rfl, by omega, HNN, hbel.drew⟩
            case measure => simp [intOf]
      · have hli : ∀ h, ((⟨#[123, 125, 91, 93, 44, 58]⟩ : ByteArray)[5]'h).toNat = 58 := fun _ => rfl
        by_cases hm : (Tx.bt l p : Int) = 58
        · have HM : Hid (Lm.NEXT l (k : Int) = (⟨6, p, p + 1, 0, []⟩, 0)) := by
            have hcc : c = 58 := UInt8.toNat.inj (by rw [HC.out, show Tx.bt l p = 58 by omega]; rfl)
            rw [Hid, HR.out]
            exact Lm.mark_punct HD.out (by rw [hcc]; rfl) (by decide)
          obtain ⟨⟨q0, q1, q2, q3, q4⟩, qf⟩ := HHr.cells
          go_wp2_with fail
          go_region
          all_goals
            go_wp2_with fail
            refine bodyPost_ret (results_mark (fn := Tryz.f7) (t := 4) (u := 5) rfl _ _ rfl (set5_heap HHr.drew _ _ _ _ _) rfl) rfl ?_
            exact ⟨ret_mark HM.out rfl rfl (by omega) rfl rfl, (set5_below HBr.out (Nat.le_refl _) _ _ _ _ _).drew⟩
        · have hmb : ((Tx.bt l p : Int) == 58) = false := beq_eq_false_iff_ne.2 hm
          have HNN : Hid (∀ j, j < 6 → ([123, 125, 91, 93, 44, 58] : List Nat).getD j 0 ≠ c.toNat) := fun j hj => by
            by_cases e : j = 5
            · subst e
              show 58 ≠ c.toNat
              rw [HC.out]
              omega
            · exact HN.out j (by omega)
          clear hm
          go_wp2_with fail
          go_region
          all_goals
            go_wp2_with fail
            go_roundw
            case rel => exact ⟨6, rfl, by omega, HNN, hbel.drew⟩
            case measure => simp [intOf]
    · have HP0 : Hid (Lm.punct c = 0) := by
        have h := fun j hj => HN.out j (show j < i by omega)
        have key : ∀ u : UInt8, (∃ j, j < 6 ∧ ([123, 125, 91, 93, 44, 58] : List Nat).getD j 0 = u.toNat) → c ≠ u := fun u ⟨j, hj, hu⟩ e => HN.out j (by omega) (by rw [e]; exact hu)
        rw [Hid]
        unfold Lm.punct
        rw [if_neg (key 123 ⟨0, by omega, rfl⟩), if_neg (key 125 ⟨1, by omega, rfl⟩), if_neg (key 91 ⟨2, by omega, rfl⟩), if_neg (key 93 ⟨3, by omega, rfl⟩), if_neg (key 44 ⟨4, by omega, rfl⟩), if_neg (key 58 ⟨5, by omega, rfl⟩)]
      obtain ⟨x, hx⟩ : ∃ x : Int, x = (c.toNat : Int) := ⟨_, rfl⟩
      have hbx : (Tx.bt l p : Int) = x := by rw [hx, HC.out]
      have hx0 : 0 ≤ x ∧ x ≤ 255 := by have := c.toNat_lt; omega
      by_cases h34 : x = 34
      · have hcc : c = 34 := UInt8.toNat.inj (by show c.toNat = 34; omega)
        obtain ⟨t, n, e, hX⟩ : ∃ t n e, Qm.RD l (p : Int) = (t, n, e) := ⟨_, _, _, rfl⟩
        have cQ : ∀ w, Calls Tryz.prog 13 #[.string (S l), .int .i64 (p : Int)] w fun en w' => en = .returned (.tuple #[.string (S t), .int .i64 (n : Int), .int .i64 (e : Int)]) ∧ Below w.heap.size w w' := fun w => by
          have h := refQuoteRead_any l (p : Int) w (by omega)
          rw [hX] at h
          exact h
        have HX := Lib.hid hX
        have hmk : Lm.mark l p = if e = 0 then (⟨10, p, n, 0, t⟩, 0) else (Lm.zero, e) := by
          unfold Lm.mark
          rw [HD.out]
          show (if Lm.punct c ≠ 0 then _ else if c = 34 then _ else _) = _
          rw [if_neg (fun h => h HP0.out), if_pos hcc, HX.out]
        clear hX hx hcc
        by_cases he : e = 0
        · subst he
          have HM : Hid (Lm.NEXT l (k : Int) = (⟨10, p, n, 0, t⟩, 0)) := by rw [Hid, HR.out, hmk]; rfl
          clear hmk
          go_wp2_with fail
          refine (cQ _).mono ?_; rintro e w2 ⟨rfl, b2⟩
          have HH2 := HHr.below b2
          obtain ⟨⟨q0, q1, q2, q3, q4⟩, qf⟩ := HH2.cells
          have HB2 := Lib.hid (HBr.out.trans (b2.mono HBr.out.size))
          clear b2 cQ
          go_wp2_with fail
          refine bodyPost_ret (results_mark (fn := Tryz.f7) (t := 4) (u := 5) rfl _ _ rfl (set5_heap HH2 _ _ _ _ _) rfl) rfl ?_
          exact ⟨ret_mark HM.out rfl rfl rfl rfl rfl, set5_below HB2.out (Nat.le_refl _) _ _ _ _ _⟩
        · have heb : ((e : Int) != 0) = true := bne_iff_ne.2 (by omega)
          have HM : Hid (Lm.NEXT l (k : Int) = (⟨0, 0, 0, 0, []⟩, e)) := by rw [Hid, HR.out, hmk, if_neg he]; rfl
          clear hmk he
          go_wp2_with fail
          refine (cQ _).mono ?_; rintro en w2 ⟨rfl, b2⟩
          have HH2 := HHr.below b2
          obtain ⟨⟨q0, q1, q2, q3, q4⟩, qf⟩ := HH2.cells
          have HB2 := Lib.hid (HBr.out.trans (b2.mono HBr.out.size))
          clear b2 cQ
          go_wp2_with fail
          refine bodyPost_ret (results_mark (fn := Tryz.f7) (t := 4) (u := 5) rfl _ _ rfl (set5_heap HH2 _ _ _ _ _) rfl) rfl ?_
          exact ⟨ret_mark HM.out rfl rfl rfl rfl rfl, set5_below HB2.out (Nat.le_refl _) _ _ _ _ _⟩
      have HNQ : Hid (c ≠ 34) := fun e => h34 (by rw [hx, e]; rfl)
      have hNB : Lm.numb c = (decide (48 ≤ x) && decide (x ≤ 57) || decide (x = 45) || decide (x = 43) || decide (x = 46)) := by
        subst hx
        unfold Lm.numb Nm.dig
        rw [Lm.eq_nat c 45, Lm.eq_nat c 43, Lm.eq_nat c 46]
        rw [Bool.eq_iff_iff]
        simp
        omega
      clear hx
      by_cases hd1 : 48 ≤ x
      · by_cases hd2 : x ≤ 57
        · have HNB : Hid (Lm.numb c = true) := by rw [Hid, hNB]; simp; omega
          clear hNB
          have hnn := Nm.READ_nn l p
          obtain ⟨n, nx, x, hX⟩ : ∃ n nx x, Nm.READ l (p : Int) = (n, nx, x) := ⟨_, _, _, rfl⟩
          have cN := fun w => refNumRead_any l (p : Int) w hl
          rw [hX] at cN hnn
          have HX := Lib.hid hX
          clear hX
          by_cases hx0 : x = 0
          · subst hx0
            have HM : Hid (Lm.NEXT l (k : Int) = (⟨9, p, nx.toNat, n, []⟩, 0)) := by
              rw [Hid, HR.out]
              unfold Lm.mark
              rw [HD.out]
              show (if Lm.punct c ≠ 0 then _ else if c = 34 then _ else if Lm.numb c then _ else _) = _
              rw [if_neg (fun h => h HP0.out), if_neg HNQ.out, if_pos HNB.out, HX.out, if_pos rfl]
            go_wp2_with fail
            refine (cN _).mono ?_; rintro e w2 ⟨rfl, b2⟩
            have HH2 := HHr.below b2
            obtain ⟨⟨q0, q1, q2, q3, q4⟩, qf⟩ := HH2.cells
            have HB2 := Lib.hid (HBr.out.trans (b2.mono HBr.out.size))
            clear b2 cN
            go_wp2_with fail
            refine bodyPost_ret (results_mark (fn := Tryz.f7) (t := 4) (u := 5) rfl _ _ rfl (set5_heap HH2 _ _ _ _ _) rfl) rfl ?_
            exact ⟨ret_mark HM.out rfl rfl (by have := hnn.1; omega) rfl rfl, set5_below HB2.out (Nat.le_refl _) _ _ _ _ _⟩
          · have hxb : (x != 0) = true := bne_iff_ne.2 hx0
            have HM : Hid (Lm.NEXT l (k : Int) = (⟨0, 0, 0, 0, []⟩, x.toNat)) := by
              rw [Hid, HR.out]
              unfold Lm.mark
              rw [HD.out]
              show (if Lm.punct c ≠ 0 then _ else if c = 34 then _ else if Lm.numb c then _ else _) = _
              rw [if_neg (fun h => h HP0.out), if_neg HNQ.out, if_pos HNB.out, HX.out, if_neg hx0]
              rfl
            go_wp2_with fail
            refine (cN _).mono ?_; rintro e w2 ⟨rfl, b2⟩
            have HH2 := HHr.below b2
            obtain ⟨⟨q0, q1, q2, q3, q4⟩, qf⟩ := HH2.cells
            have HB2 := Lib.hid (HBr.out.trans (b2.mono HBr.out.size))
            clear b2 cN
            go_wp2_with fail
            refine bodyPost_ret (results_mark (fn := Tryz.f7) (t := 4) (u := 5) rfl _ _ rfl (set5_heap HH2 _ _ _ _ _) rfl) rfl ?_
            exact ⟨ret_mark HM.out rfl rfl rfl (by have := hnn.2; omega) rfl, set5_below HB2.out (Nat.le_refl _) _ _ _ _ _⟩
        · have HNB : Hid (Lm.numb c = false) := by rw [Hid, hNB, Bool.eq_false_iff]; simp; omega
          have x45 : (x == 45) = false := beq_eq_false_iff_ne.2 (by omega)
          have x43 : (x == 43) = false := beq_eq_false_iff_ne.2 (by omega)
          have x46 : (x == 46) = false := beq_eq_false_iff_ne.2 (by omega)
          clear hNB
          obtain ⟨E, hE⟩ : ∃ E, p + Lm.run Lm.az l p = E := ⟨_, rfl⟩
          have cW := fun w => word_any l p w hpl (by omega) hE
          have hEl : E ≤ l.length := by rw [← hE]; exact Lm.run_le _ _ _ hpl
          have hEp : p ≤ E := by omega
          have hEl' : (E : Int) ≤ (l.length : Int) := by omega
          have hEp' : (p : Int) ≤ (E : Int) := by omega
          have hsl : (S l).extract p E = S (Lm.word l p) := by rw [← hE, Tx_mid, Lm.word_take]
          have HE := Lib.hid hE
          have eT : (⟨#[116, 114, 117, 101]⟩ : ByteArray).toList = Lm.TRUE := S_toList Lm.TRUE
          have eF : (⟨#[102, 97, 108, 115, 101]⟩ : ByteArray).toList = Lm.FALSE := S_toList Lm.FALSE
          have eS := S_toList (Lm.word l p)
          clear hE
          by_cases hw : Lm.word l p = Lm.TRUE
          · have hb1 : ((S (Lm.word l p)).toList == Lm.TRUE) = true := by rw [eS, hw]; rfl
            have hb1' : ((S (Lm.word l p)).toList == [116, 114, 117, 101]) = true := hb1
            have HM : Hid (Lm.NEXT l (k : Int) = (⟨7, p, p + 4, 0, []⟩, 0)) := by
              rw [Hid, HR.out]
              unfold Lm.mark
              rw [HD.out]
              show (if Lm.punct c ≠ 0 then _ else if c = 34 then _ else if Lm.numb c then _ else if Lm.word l p = Lm.TRUE then _ else if Lm.word l p = Lm.FALSE then _ else _) = _
              rw [if_neg (fun h => h HP0.out), if_neg HNQ.out, if_neg (by rw [HNB.out]; exact Bool.false_ne_true), if_pos hw]
            have hE4 : E = p + 4 := by rw [← HE.out]; show p + (Lm.word l p).length = _; rw [hw]; rfl
            have HE4 := Lib.hid hE4
            clear hE4 hw
            generalize Lm.word l p = W at *
            clear eS
            go_wp2_with fail
            refine (cW _).mono ?_; rintro e w2 ⟨rfl, rfl⟩
            obtain ⟨⟨q0, q1, q2, q3, q4⟩, qf⟩ := HHr.cells
            go_wp2_with fail
            refine bodyPost_ret (results_mark (fn := Tryz.f7) (t := 4) (u := 5) rfl _ _ rfl (set5_heap HHr _ _ _ _ _) rfl) rfl ?_
            exact ⟨ret_mark HM.out rfl rfl (by have := HE4.out; omega) rfl rfl, set5_below HBr.out (Nat.le_refl _) _ _ _ _ _⟩
          by_cases hw2 : Lm.word l p = Lm.FALSE
          · have hw := hw2
            have hb1 : ((S (Lm.word l p)).toList == Lm.TRUE) = false := by rw [eS, hw]; rfl
            have hb1' : ((S (Lm.word l p)).toList == [116, 114, 117, 101]) = false := hb1
            have hb2 : ((S (Lm.word l p)).toList == Lm.FALSE) = true := by rw [eS, hw]; rfl
            have hb2' : ((S (Lm.word l p)).toList == [102, 97, 108, 115, 101]) = true := hb2
            have HM : Hid (Lm.NEXT l (k : Int) = (⟨8, p, p + 5, 0, []⟩, 0)) := by
              rw [Hid, HR.out]
              unfold Lm.mark
              rw [HD.out]
              show (if Lm.punct c ≠ 0 then _ else if c = 34 then _ else if Lm.numb c then _ else if Lm.word l p = Lm.TRUE then _ else if Lm.word l p = Lm.FALSE then _ else _) = _
              rw [if_neg (fun h => h HP0.out), if_neg HNQ.out, if_neg (by rw [HNB.out]; exact Bool.false_ne_true), if_neg (by rw [hw]; decide), if_pos hw]
            have hE4 : E = p + 5 := by rw [← HE.out]; show p + (Lm.word l p).length = _; rw [hw]; rfl
            have HE4 := Lib.hid hE4
            clear hE4 hw
            clear hw2
            generalize Lm.word l p = W at *
            clear eS
            go_wp2_with fail
            refine (cW _).mono ?_; rintro e w2 ⟨rfl, rfl⟩
            obtain ⟨⟨q0, q1, q2, q3, q4⟩, qf⟩ := HHr.cells
            go_wp2_with fail
            refine bodyPost_ret (results_mark (fn := Tryz.f7) (t := 4) (u := 5) rfl _ _ rfl (set5_heap HHr _ _ _ _ _) rfl) rfl ?_
            exact ⟨ret_mark HM.out rfl rfl (by have := HE4.out; omega) rfl rfl, set5_below HBr.out (Nat.le_refl _) _ _ _ _ _⟩
          have HM : Hid (Lm.NEXT l (k : Int) = (⟨0, 0, 0, 0, []⟩, 3)) := by
            rw [Hid, HR.out]
            unfold Lm.mark
            rw [HD.out]
            show (if Lm.punct c ≠ 0 then _ else if c = 34 then _ else if Lm.numb c then _ else if Lm.word l p = Lm.TRUE then _ else if Lm.word l p = Lm.FALSE then _ else _) = _
            rw [if_neg (fun h => h HP0.out), if_neg HNQ.out, if_neg (by rw [HNB.out]; exact Bool.false_ne_true), if_neg hw, if_neg hw2]
            rfl
          have hb1 : ((S (Lm.word l p)).toList == Lm.TRUE) = false := by rw [eS]; exact beq_eq_false_iff_ne.2 hw
          have hb1' : ((S (Lm.word l p)).toList == [116, 114, 117, 101]) = false := hb1
          have hb2 : ((S (Lm.word l p)).toList == Lm.FALSE) = false := by rw [eS]; exact beq_eq_false_iff_ne.2 hw2
          have hb2' : ((S (Lm.word l p)).toList == [102, 97, 108, 115, 101]) = false := hb2
          clear hw hw2
          generalize Lm.word l p = W at *
          clear eS
          go_wp2_with fail
          refine (cW _).mono ?_; rintro e w2 ⟨rfl, rfl⟩
          obtain ⟨⟨q0, q1, q2, q3, q4⟩, qf⟩ := HHr.cells
          go_wp2_with fail
          refine bodyPost_ret (results_mark (fn := Tryz.f7) (t := 4) (u := 5) rfl _ _ rfl (set5_heap HHr _ _ _ _ _) rfl) rfl ?_
          exact ⟨ret_mark HM.out rfl rfl rfl rfl rfl, set5_below HBr.out (Nat.le_refl _) _ _ _ _ _⟩
      by_cases h45 : x = 45
      · have HNB : Hid (Lm.numb c = true) := by rw [Hid, hNB]; simp; omega
        clear hNB
        have hnn := Nm.READ_nn l p
        obtain ⟨n, nx, x, hX⟩ : ∃ n nx x, Nm.READ l (p : Int) = (n, nx, x) := ⟨_, _, _, rfl⟩
        have cN := fun w => refNumRead_any l (p : Int) w hl
        rw [hX] at cN hnn
        have HX := Lib.hid hX
        clear hX
        by_cases hx0 : x = 0
        · subst hx0
          have HM : Hid (Lm.NEXT l (k : Int) = (⟨9, p, nx.toNat, n, []⟩, 0)) := by
            rw [Hid, HR.out]
            unfold Lm.mark
            rw [HD.out]
            show (if Lm.punct c ≠ 0 then _ else if c = 34 then _ else if Lm.numb c then _ else _) = _
            rw [if_neg (fun h => h HP0.out), if_neg HNQ.out, if_pos HNB.out, HX.out, if_pos rfl]
          go_wp2_with fail
          refine (cN _).mono ?_; rintro e w2 ⟨rfl, b2⟩
          have HH2 := HHr.below b2
          obtain ⟨⟨q0, q1, q2, q3, q4⟩, qf⟩ := HH2.cells
          have HB2 := Lib.hid (HBr.out.trans (b2.mono HBr.out.size))
          clear b2 cN
          go_wp2_with fail
          refine bodyPost_ret (results_mark (fn := Tryz.f7) (t := 4) (u := 5) rfl _ _ rfl (set5_heap HH2 _ _ _ _ _) rfl) rfl ?_
          exact ⟨ret_mark HM.out rfl rfl (by have := hnn.1; omega) rfl rfl, set5_below HB2.out (Nat.le_refl _) _ _ _ _ _⟩
        · have hxb : (x != 0) = true := bne_iff_ne.2 hx0
          have HM : Hid (Lm.NEXT l (k : Int) = (⟨0, 0, 0, 0, []⟩, x.toNat)) := by
            rw [Hid, HR.out]
            unfold Lm.mark
            rw [HD.out]
            show (if Lm.punct c ≠ 0 then _ else if c = 34 then _ else if Lm.numb c then _ else _) = _
            rw [if_neg (fun h => h HP0.out), if_neg HNQ.out, if_pos HNB.out, HX.out, if_neg hx0]
            rfl
          go_wp2_with fail
          refine (cN _).mono ?_; rintro e w2 ⟨rfl, b2⟩
          have HH2 := HHr.below b2
          obtain ⟨⟨q0, q1, q2, q3, q4⟩, qf⟩ := HH2.cells
          have HB2 := Lib.hid (HBr.out.trans (b2.mono HBr.out.size))
          clear b2 cN
          go_wp2_with fail
          refine bodyPost_ret (results_mark (fn := Tryz.f7) (t := 4) (u := 5) rfl _ _ rfl (set5_heap HH2 _ _ _ _ _) rfl) rfl ?_
          exact ⟨ret_mark HM.out rfl rfl rfl (by have := hnn.2; omega) rfl, set5_below HB2.out (Nat.le_refl _) _ _ _ _ _⟩
      by_cases h43 : x = 43
      · have HNB : Hid (Lm.numb c = true) := by rw [Hid, hNB]; simp; omega
        clear hNB
        have hnn := Nm.READ_nn l p
        obtain ⟨n, nx, x, hX⟩ : ∃ n nx x, Nm.READ l (p : Int) = (n, nx, x) := ⟨_, _, _, rfl⟩
        have cN := fun w => refNumRead_any l (p : Int) w hl
        rw [hX] at cN hnn
        have HX := Lib.hid hX
        clear hX
        by_cases hx0 : x = 0
        · subst hx0
          have HM : Hid (Lm.NEXT l (k : Int) = (⟨9, p, nx.toNat, n, []⟩, 0)) := by
            rw [Hid, HR.out]
            unfold Lm.mark
            rw [HD.out]
            show (if Lm.punct c ≠ 0 then _ else if c = 34 then _ else if Lm.numb c then _ else _) = _
            rw [if_neg (fun h => h HP0.out), if_neg HNQ.out, if_pos HNB.out, HX.out, if_pos rfl]
          go_wp2_with fail
          refine (cN _).mono ?_; rintro e w2 ⟨rfl, b2⟩
          have HH2 := HHr.below b2
          obtain ⟨⟨q0, q1, q2, q3, q4⟩, qf⟩ := HH2.cells
          have HB2 := Lib.hid (HBr.out.trans (b2.mono HBr.out.size))
          clear b2 cN
          go_wp2_with fail
          refine bodyPost_ret (results_mark (fn := Tryz.f7) (t := 4) (u := 5) rfl _ _ rfl (set5_heap HH2 _ _ _ _ _) rfl) rfl ?_
          exact ⟨ret_mark HM.out rfl rfl (by have := hnn.1; omega) rfl rfl, set5_below HB2.out (Nat.le_refl _) _ _ _ _ _⟩
        · have hxb : (x != 0) = true := bne_iff_ne.2 hx0
          have HM : Hid (Lm.NEXT l (k : Int) = (⟨0, 0, 0, 0, []⟩, x.toNat)) := by
            rw [Hid, HR.out]
            unfold Lm.mark
            rw [HD.out]
            show (if Lm.punct c ≠ 0 then _ else if c = 34 then _ else if Lm.numb c then _ else _) = _
            rw [if_neg (fun h => h HP0.out), if_neg HNQ.out, if_pos HNB.out, HX.out, if_neg hx0]
            rfl
          go_wp2_with fail
          refine (cN _).mono ?_; rintro e w2 ⟨rfl, b2⟩
          have HH2 := HHr.below b2
          obtain ⟨⟨q0, q1, q2, q3, q4⟩, qf⟩ := HH2.cells
          have HB2 := Lib.hid (HBr.out.trans (b2.mono HBr.out.size))
          clear b2 cN
          go_wp2_with fail
          refine bodyPost_ret (results_mark (fn := Tryz.f7) (t := 4) (u := 5) rfl _ _ rfl (set5_heap HH2 _ _ _ _ _) rfl) rfl ?_
          exact ⟨ret_mark HM.out rfl rfl rfl (by have := hnn.2; omega) rfl, set5_below HB2.out (Nat.le_refl _) _ _ _ _ _⟩
      by_cases h46 : x = 46
      · have HNB : Hid (Lm.numb c = true) := by rw [Hid, hNB]; simp; omega
        clear hNB
        have hnn := Nm.READ_nn l p
        obtain ⟨n, nx, x, hX⟩ : ∃ n nx x, Nm.READ l (p : Int) = (n, nx, x) := ⟨_, _, _, rfl⟩
        have cN := fun w => refNumRead_any l (p : Int) w hl
        rw [hX] at cN hnn
        have HX := Lib.hid hX
        clear hX
        by_cases hx0 : x = 0
        · subst hx0
          have HM : Hid (Lm.NEXT l (k : Int) = (⟨9, p, nx.toNat, n, []⟩, 0)) := by
            rw [Hid, HR.out]
            unfold Lm.mark
            rw [HD.out]
            show (if Lm.punct c ≠ 0 then _ else if c = 34 then _ else if Lm.numb c then _ else _) = _
            rw [if_neg (fun h => h HP0.out), if_neg HNQ.out, if_pos HNB.out, HX.out, if_pos rfl]
          go_wp2_with fail
          refine (cN _).mono ?_; rintro e w2 ⟨rfl, b2⟩
          have HH2 := HHr.below b2
          obtain ⟨⟨q0, q1, q2, q3, q4⟩, qf⟩ := HH2.cells
          have HB2 := Lib.hid (HBr.out.trans (b2.mono HBr.out.size))
          clear b2 cN
          go_wp2_with fail
          refine bodyPost_ret (results_mark (fn := Tryz.f7) (t := 4) (u := 5) rfl _ _ rfl (set5_heap HH2 _ _ _ _ _) rfl) rfl ?_
          exact ⟨ret_mark HM.out rfl rfl (by have := hnn.1; omega) rfl rfl, set5_below HB2.out (Nat.le_refl _) _ _ _ _ _⟩
        · have hxb : (x != 0) = true := bne_iff_ne.2 hx0
          have HM : Hid (Lm.NEXT l (k : Int) = (⟨0, 0, 0, 0, []⟩, x.toNat)) := by
            rw [Hid, HR.out]
            unfold Lm.mark
            rw [HD.out]
            show (if Lm.punct c ≠ 0 then _ else if c = 34 then _ else if Lm.numb c then _ else _) = _
            rw [if_neg (fun h => h HP0.out), if_neg HNQ.out, if_pos HNB.out, HX.out, if_neg hx0]
            rfl
          go_wp2_with fail
          refine (cN _).mono ?_; rintro e w2 ⟨rfl, b2⟩
          have HH2 := HHr.below b2
          obtain ⟨⟨q0, q1, q2, q3, q4⟩, qf⟩ := HH2.cells
          have HB2 := Lib.hid (HBr.out.trans (b2.mono HBr.out.size))
          clear b2 cN
          go_wp2_with fail
          refine bodyPost_ret (results_mark (fn := Tryz.f7) (t := 4) (u := 5) rfl _ _ rfl (set5_heap HH2 _ _ _ _ _) rfl) rfl ?_
          exact ⟨ret_mark HM.out rfl rfl rfl (by have := hnn.2; omega) rfl, set5_below HB2.out (Nat.le_refl _) _ _ _ _ _⟩
      have HNB : Hid (Lm.numb c = false) := by rw [Hid, hNB, Bool.eq_false_iff]; simp; omega
      have x45 : (x == 45) = false := beq_eq_false_iff_ne.2 (by omega)
      have x43 : (x == 43) = false := beq_eq_false_iff_ne.2 (by omega)
      have x46 : (x == 46) = false := beq_eq_false_iff_ne.2 (by omega)
      clear hNB h45 h43 h46
      obtain ⟨E, hE⟩ : ∃ E, p + Lm.run Lm.az l p = E := ⟨_, rfl⟩
      have cW := fun w => word_any l p w hpl (by omega) hE
      have hEl : E ≤ l.length := by rw [← hE]; exact Lm.run_le _ _ _ hpl
      have hEp : p ≤ E := by omega
      have hEl' : (E : Int) ≤ (l.length : Int) := by omega
      have hEp' : (p : Int) ≤ (E : Int) := by omega
      have hsl : (S l).extract p E = S (Lm.word l p) := by rw [← hE, Tx_mid, Lm.word_take]
      have HE := Lib.hid hE
      have eT : (⟨#[116, 114, 117, 101]⟩ : ByteArray).toList = Lm.TRUE := S_toList Lm.TRUE
      have eF : (⟨#[102, 97, 108, 115, 101]⟩ : ByteArray).toList = Lm.FALSE := S_toList Lm.FALSE
      have eS := S_toList (Lm.word l p)
      clear hE
      by_cases hw : Lm.word l p = Lm.TRUE
      · have hb1 : ((S (Lm.word l p)).toList == Lm.TRUE) = true := by rw [eS, hw]; rfl
        have hb1' : ((S (Lm.word l p)).toList == [116, 114, 117, 101]) = true := hb1
        have HM : Hid (Lm.NEXT l (k : Int) = (⟨7, p, p + 4, 0, []⟩, 0)) := by
          rw [Hid, HR.out]
          unfold Lm.mark
          rw [HD.out]
          show (if Lm.punct c ≠ 0 then _ else if c = 34 then _ else if Lm.numb c then _ else if Lm.word l p = Lm.TRUE then _ else if Lm.word l p = Lm.FALSE then _ else _) = _
          rw [if_neg (fun h => h HP0.out), if_neg HNQ.out, if_neg (by rw [HNB.out]; exact Bool.false_ne_true), if_pos hw]
        have hE4 : E = p + 4 := by rw [← HE.out]; show p + (Lm.word l p).length = _; rw [hw]; rfl
        have HE4 := Lib.hid hE4
        clear hE4 hw
        generalize Lm.word l p = W at *
        clear eS
        go_wp2_with fail
        refine (cW _).mono ?_; rintro e w2 ⟨rfl, rfl⟩
        obtain ⟨⟨q0, q1, q2, q3, q4⟩, qf⟩ := HHr.cells
        go_wp2_with fail
        refine bodyPost_ret (results_mark (fn := Tryz.f7) (t := 4) (u := 5) rfl _ _ rfl (set5_heap HHr _ _ _ _ _) rfl) rfl ?_
        exact ⟨ret_mark HM.out rfl rfl (by have := HE4.out; omega) rfl rfl, set5_below HBr.out (Nat.le_refl _) _ _ _ _ _⟩
      by_cases hw2 : Lm.word l p = Lm.FALSE
      · have hw := hw2
        have hb1 : ((S (Lm.word l p)).toList == Lm.TRUE) = false := by rw [eS, hw]; rfl
        have hb1' : ((S (Lm.word l p)).toList == [116, 114, 117, 101]) = false := hb1
        have hb2 : ((S (Lm.word l p)).toList == Lm.FALSE) = true := by rw [eS, hw]; rfl
        have hb2' : ((S (Lm.word l p)).toList == [102, 97, 108, 115, 101]) = true := hb2
        have HM : Hid (Lm.NEXT l (k : Int) = (⟨8, p, p + 5, 0, []⟩, 0)) := by
          rw [Hid, HR.out]
          unfold Lm.mark
          rw [HD.out]
          show (if Lm.punct c ≠ 0 then _ else if c = 34 then _ else if Lm.numb c then _ else if Lm.word l p = Lm.TRUE then _ else if Lm.word l p = Lm.FALSE then _ else _) = _
          rw [if_neg (fun h => h HP0.out), if_neg HNQ.out, if_neg (by rw [HNB.out]; exact Bool.false_ne_true), if_neg (by rw [hw]; decide), if_pos hw]
        have hE4 : E = p + 5 := by rw [← HE.out]; show p + (Lm.word l p).length = _; rw [hw]; rfl
        have HE4 := Lib.hid hE4
        clear hE4 hw
        clear hw2
        generalize Lm.word l p = W at *
        clear eS
        go_wp2_with fail
        refine (cW _).mono ?_; rintro e w2 ⟨rfl, rfl⟩
        obtain ⟨⟨q0, q1, q2, q3, q4⟩, qf⟩ := HHr.cells
        go_wp2_with fail
        refine bodyPost_ret (results_mark (fn := Tryz.f7) (t := 4) (u := 5) rfl _ _ rfl (set5_heap HHr _ _ _ _ _) rfl) rfl ?_
        exact ⟨ret_mark HM.out rfl rfl (by have := HE4.out; omega) rfl rfl, set5_below HBr.out (Nat.le_refl _) _ _ _ _ _⟩
      have HM : Hid (Lm.NEXT l (k : Int) = (⟨0, 0, 0, 0, []⟩, 3)) := by
        rw [Hid, HR.out]
        unfold Lm.mark
        rw [HD.out]
        show (if Lm.punct c ≠ 0 then _ else if c = 34 then _ else if Lm.numb c then _ else if Lm.word l p = Lm.TRUE then _ else if Lm.word l p = Lm.FALSE then _ else _) = _
        rw [if_neg (fun h => h HP0.out), if_neg HNQ.out, if_neg (by rw [HNB.out]; exact Bool.false_ne_true), if_neg hw, if_neg hw2]
        rfl
      have hb1 : ((S (Lm.word l p)).toList == Lm.TRUE) = false := by rw [eS]; exact beq_eq_false_iff_ne.2 hw
      have hb1' : ((S (Lm.word l p)).toList == [116, 114, 117, 101]) = false := hb1
      have hb2 : ((S (Lm.word l p)).toList == Lm.FALSE) = false := by rw [eS]; exact beq_eq_false_iff_ne.2 hw2
      have hb2' : ((S (Lm.word l p)).toList == [102, 97, 108, 115, 101]) = false := hb2
      clear hw hw2
      generalize Lm.word l p = W at *
      clear eS
      go_wp2_with fail
      refine (cW _).mono ?_; rintro e w2 ⟨rfl, rfl⟩
      obtain ⟨⟨q0, q1, q2, q3, q4⟩, qf⟩ := HHr.cells
      go_wp2_with fail
      refine bodyPost_ret (results_mark (fn := Tryz.f7) (t := 4) (u := 5) rfl _ _ rfl (set5_heap HHr _ _ _ _ _) rfl) rfl ?_
      exact ⟨ret_mark HM.out rfl rfl rfl rfl rfl, set5_below HBr.out (Nat.le_refl _) _ _ _ _ _⟩
end Go.Proofs.YtjbkbkfhbombbaaGreatDoor
