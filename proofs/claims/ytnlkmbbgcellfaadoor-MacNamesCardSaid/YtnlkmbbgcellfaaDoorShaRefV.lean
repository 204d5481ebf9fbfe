/-
  The document's Sum: 'h = step(h, s[i:i+64])', in whatever order.
-/
import Derived.Test.YtnlkmbbgcellfaaDoorShaRefT
import Derived.Test.YtnlkmbbgcellfaaDoorShaSum
namespace Go.Proofs.YtnlkmbbgcellfaaDoor
open Go.RowKit

theorem op_slice {P : Program} {Q : Exit → Act → World → Prop} {K : Act → World → Prop} {a : Act} {w : World} {o : Oper} {t : TypeId} {x lo hi : Operand} {v vl vh u : Value} (ho : o.op = .slice t x (some lo) (some hi) none) (hx : a.eval x = v) (hl : a.eval lo = vl) (hh : a.eval hi = vh)
    (hr : (Instr.sliceAt t v (some vl) (some vh) none).run P w = .ok u w) (hk : K (a.put o.dst u) w) : o.wp P a w K Q :=
  wp_val (by simp [execOp, ho, hx, hl, hh, hr]) hk
theorem op_add {Q : Exit → Act → World → Prop} {K : Act → World → Prop} {a : Act} {w : World} {o : Oper} {x : Operand} {n m k : Int} (ho : o.op = .binOp .add 3 x (.const (.int .i64 m)) 3) (hx : a.eval x = .int .i64 n) (hw : IntKind.i64.wrap (n + m) = k)
    (hk : K (a.put o.dst (.int .i64 k)) w) : o.wp Tryd.prog a w K Q :=
  wp_val (by
    have hc : a.eval (.const (.int .i64 m)) = .int .i64 m := rfl
    subst hw
    simp [execOp, ho, hx, hc, eqGuard, binOp_add, Op.intArith]) hk
theorem slice_S (P : List UInt8) (i : Nat) (h : i + 64 ≤ P.length) (w : World) :
    (Instr.sliceAt 9 (.string (S P)) (some (.int .i64 (i : Int))) (some (.int .i64 ((i + 64 : Nat) : Int))) none).run Tryd.prog w = .ok (.string (S ((P.drop i).take 64))) w := by
  have hu : Tryd.prog.underlying 9 = some .string := by kernel_rfl
  have hs : (S P).size = P.length := S_size P
  have he : (S P).extract i (i + 64) = S ((P.drop i).take 64) := by
    apply ByteArray.ext
    apply Array.toList_inj.1
    simp only [S, ByteArray.data_extract, Array.toList_extract, List.extract_eq_take_drop]
    rw [Nat.add_sub_cancel_left]
  have hr := run_slice_string_if (P := Tryd.prog) (w := w) 9 (S P) .i64 .i64 (i : Int) ((i + 64 : Nat) : Int) hu
  rw [if_pos (by rw [hs]; omega), if_pos (by omega), Int.toNat_natCast, Int.toNat_natCast, he] at hr
  simpa [Instr.sliceAt] using hr
def T18 : List (Option Tmp × Op × List Nat) :=
  [(some 49, .load 46 (.tmp 7), []), (some 50, .move (.tmp 0), []), (some 51, .move (.tmp 8), []), (some 52, .move (.tmp 8), []), (some 53, .binOp .add 3 (.tmp 52) (.const (.int .i64 64)) 3, [3]),
   (some 54, .slice 9 (.tmp 50) (some (.tmp 51)) (some (.tmp 53)) none, [1, 2, 4]),
   (some 55, .call { callee := .value (.func 27), args := #[.tmp 49, .tmp 54], argTypes := #[46, 9] }, [0, 5]),
   (none, .store 46 (.tmp 7) (.tmp 55), [6, 6, 0, 1, 2, 3, 4, 5, 6])]
def V18 (P : List UInt8) (i : Nat) (s : Sm.St) : Nat → Option Value
  | 0 => some (.agg (AR s.list))
  | 1 => some (.string (S P))
  | 2 => some (.int .i64 (i : Int))
  | 3 => some (.int .i64 (i : Int))
  | 4 => some (.int .i64 ((i + 64 : Nat) : Int))
  | 5 => some (.string (S ((P.drop i).take 64)))
  | 6 => some (.agg (AR (Sm.mix s (Sm.words ((P.drop i).take 64))).list))
  | _ => none
def p18 : Nat → Bool := fun i => decide (49 ≤ i) && decide (i ≤ 55)
structure W18 (g : Nat) (old new : Sm.St) (w0 : World) (listed : Array Bool) (w : World) : Prop where
  before : listed.getD 7 false = false → w.heap[g]? = some (.cells (AR old.list) 46 (0, 0))
  behind : listed.getD 7 false = true → w.heap[g]? = some (.cells (AR new.list) 46 (0, 0))
  kp : Kp g w0 w
  dep : listed.getD 7 false = true → listed.getD 0 false = true
theorem W18.grow {g : Nat} {old new : Sm.St} {w0 : World} {listed : Array Bool} {w w' : World} (h : W18 g old new w0 listed w) (hg : g < w0.heap.size) {k : Nat} (hk : k ≠ 7) (hb : Below w.heap.size w w') : W18 g old new w0 (listed.setIfInBounds k true) w' := by
  have hl : g < w.heap.size := Nat.lt_of_lt_of_le hg h.kp.size
  have e : (listed.setIfInBounds k true).getD 7 false = listed.getD 7 false := getD_set_other (Ne.symm hk)
  refine ⟨fun x => (hb.block g hl).trans (h.before (e ▸ x)), fun x => (hb.block g hl).trans (h.behind (e ▸ x)), h.kp.trans (Kp.of hb), fun x => ?_⟩
  have := h.dep (e ▸ x)
  by_cases c : (0 : Nat) = k
  · subst c
    by_cases hz : 0 < listed.size
    · exact getD_set_self hz
    · simp [hz] at this
  · rw [getD_set_other c]; exact this
theorem call_step (args : Array Value) (w : World) : (callFunc 27 args).run Tryd.prog w = .ok (.enter 27 args) w := by kernel_rfl
set_option maxRecDepth 100000 in
set_option maxHeartbeats 800000 in
theorem sum_region {ops : Array Oper} {Q : Exit → Act → World → Prop} {A : Act} {id g i : Nat} {w1 : World} {s : Sm.St} {P : List UInt8}
    (hkey : ops.toList.map keyOf = T18.map fun x => (x.1, x.2.1, true, x.2.2)) (hlow : (List.range ops.size).all (fun i => match ops[i]? with | some o => o.after.all (fun e => !Region.binds .any e || decide (e.on < i)) | none => true) = true)
    (hA0 : A.eval (.tmp 0) = .string (S P)) (hA7 : A.eval (.tmp 7) = .pointer (some ⟨g, 0, none⟩)) (hA8 : A.eval (.tmp 8) = .int .i64 (i : Int)) (hsz : 55 < A.tmps.size) (hi : i + 64 ≤ P.length) (hP : P.length ≤ 1000000) (hok : Sm.Ok s)
    (hh : w1.heap[g]? = some (.cells (AR s.list) 46 (0, 0)))
    (fin : ∀ (f : Nat → Value) w2, w2.heap[g]? = some (.cells (AR (Sm.mix s (Sm.words ((P.drop i).take 64))).list) 46 (0, 0)) → Kp g w1 w2 → Q .normal (putR A p18 f) w2) : (Code.region id ops true).wp Tryd.prog Q A w1 := by
  have hg : g < w1.heap.size := (Array.getElem?_eq_some_iff.1 hh).1
  have hbl : ((P.drop i).take 64).length = 64 := by simp; omega
  refine wp_region_tab (by kernel_rfl) T18 hkey hlow p18 (fun listed f w => Tbl 49 (V18 P i s) listed f ∧ listed.size = 8 ∧ W18 g s (Sm.mix s (Sm.words ((P.drop i).take 64))) w1 listed w) ?_ ?_ ?_
  · exact ⟨Tbl.zero _ _ _ _, rfl, fun _ => hh, fun h => (by simp [T18] at h), Kp.drew _ _, fun h => (by simp [T18] at h)⟩
  · intro listed f w2 j x hI hx hun hdep o hd hop
    obtain ⟨hT, hs, hW⟩ := hI
    have EV (j : Nat) (hj : p18 j = true) (hj2 : j ≤ 55) : (putR A p18 f).eval (.tmp j) = f j := putR_in A p18 f j hj (by omega)
    have fin1 (k : Nat) (v : Value) (hk : k ≤ 6) (hv : V18 P i s k = some v) (ho : o.dst = some (49 + k)) (w3 : World) (hb : Below w2.heap.size w2 w3) :
        ∃ f', (putR A p18 f).put o.dst v = putR A p18 f' ∧ Tbl 49 (V18 P i s) (listed.setIfInBounds k true) f' ∧ (listed.setIfInBounds k true).size = 8 ∧ W18 g s (Sm.mix s (Sm.words ((P.drop i).take 64))) w1 (listed.setIfInBounds k true) w3 :=
      ⟨_, by rw [ho]; exact putR_put _ _ _ (49 + k) _ (by unfold p18; simp; omega), hT.put hv, by simpa using hs, hW.grow hg (by omega) hb⟩
    rcases j with _ | _ | _ | _ | _ | _ | _ | _ | j
    all_goals simp only [T18, List.getElem?_cons_zero, List.getElem?_cons_succ, List.getElem?_nil, Option.some.injEq, reduceCtorEq] at hx
    all_goals subst hx
    · have h7 : listed.getD 7 false = false := by
        rcases e : listed.getD 7 false with _ | _
        · rfl
        · exact absurd hun (fun x => getD_clash (hW.dep e) x)
      exact op_load hop ((putR_out _ _ _ 7 rfl).trans hA7) (run_load_row w2 g _ s.list 8 _ (hW.before h7) Tryd.underlying46 rfl (by kernel_rfl) rfl) (fin1 0 _ (by omega) rfl hd w2 (Below.refl _ _))
    · exact op_move hop ((putR_out _ _ _ 0 rfl).trans hA0) (fin1 1 _ (by omega) rfl hd w2 (Below.refl _ _))
    · exact op_move hop ((putR_out _ _ _ 8 rfl).trans hA8) (fin1 2 _ (by omega) rfl hd w2 (Below.refl _ _))
    · exact op_move hop ((putR_out _ _ _ 8 rfl).trans hA8) (fin1 3 _ (by omega) rfl hd w2 (Below.refl _ _))
    · exact op_add hop ((EV 52 rfl (by omega)).trans (hT 3 _ (hdep 3 (by simp)) rfl)) (k := ((i + 64 : Nat) : Int)) (by rw [IntWalk.i64_in _ (by omega)]; omega) (fin1 4 _ (by omega) rfl hd w2 (Below.refl _ _))
    · exact op_slice hop ((EV 50 rfl (by omega)).trans (hT 1 _ (hdep 1 (by simp)) rfl)) ((EV 51 rfl (by omega)).trans (hT 2 _ (hdep 2 (by simp)) rfl)) ((EV 53 rfl (by omega)).trans (hT 4 _ (hdep 4 (by simp)) rfl)) (slice_S P i hi w2) (fin1 5 _ (by omega) rfl hd w2 (Below.refl _ _))
    · have e49 := (EV 49 rfl (by omega)).trans (hT 0 _ (hdep 0 (by simp)) rfl)
      have e54 := (EV 54 rfl (by omega)).trans (hT 5 _ (hdep 5 (by simp)) rfl)
      exact wp_enter (f := 27) (v := .agg (AR (Sm.mix s (Sm.words ((P.drop i).take 64))).list)) (args := #[.agg (AR s.list), .string (S ((P.drop i).take 64))]) (R := fun w' => Below w2.heap.size w2 w') (exec_call _ hop (by simp [e49, e54]) call_step)
        (step_any s _ w2 hbl hok) (fun w3 hb => fin1 6 _ (by omega) rfl hd w3 hb)
    · have h7 : listed.getD 7 false = false := by simpa [hs] using hun
      refine op_store hop ((putR_out _ _ _ 7 rfl).trans hA7) ((EV 55 rfl (by omega)).trans (hT 6 _ (hdep 6 (by simp)) rfl)) hd (run_store_row w2 g _ s.list _ 8 (hW.before h7) (by kernel_rfl) rfl rfl) ⟨f, rfl, hT.skip rfl, by simpa using hs, ⟨fun h => ?_, fun _ => setRow_heap _ _ _ _ _ _ (hW.before h7), hW.kp.trans (Kp.setRow _ _ _), fun _ => ?_⟩⟩
      · rw [getD_set_self (by omega)] at h; cases h
      · rw [getD_set_other (by decide)]; exact hdep 0 (by simp)
  · intro listed f w2 hI hall
    obtain ⟨hT, hs, hW⟩ := hI
    exact fin f w2 (hW.behind (hall 7 (by decide))) hW.kp
end Go.Proofs.YtnlkmbbgcellfaaDoor
