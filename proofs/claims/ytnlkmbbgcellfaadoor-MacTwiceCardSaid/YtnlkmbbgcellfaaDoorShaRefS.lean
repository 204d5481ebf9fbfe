/-
  The document's step: 'w, k, v := words(block), keys(), h', in whatever order.
-/
import Derived.Test.YtnlkmbbgcellfaaDoorShaRefW
import Derived.Test.YtnlkmbbgcellfaaDoorRegInv
import Derived.Laws.CopyOwn
import Derived.Deep.MidRow
namespace Go.Proofs.YtnlkmbbgcellfaaDoor
open Go.RowKit

def Z8 : List Nat := [0, 0, 0, 0, 0, 0, 0, 0]
theorem zero_64 (w : World) : (zeroValue 51).run Tryd.prog w = .ok (.agg (AR Sm.Z64)) w := by kernel_rfl
theorem zero_8 (w : World) : (zeroValue 46).run Tryd.prog w = .ok (.agg (AR Z8)) w := by kernel_rfl
theorem alloc_64 (w : World) : (Instr.alloc 51 true (.tuple #[])).run Tryd.prog w = .ok (.pointer (some ⟨w.heap.size, 0, none⟩)) (w.alloc (.cells (AR Sm.Z64) 51)) := by
  simp [Instr.alloc, Sem.run_bind, newVar, newRow, Value.cells]
  rfl
theorem alloc_8 (w : World) : (Instr.alloc 46 true (.tuple #[])).run Tryd.prog w = .ok (.pointer (some ⟨w.heap.size, 0, none⟩)) (w.alloc (.cells (AR Z8) 46)) := by
  simp [Instr.alloc, Sem.run_bind, newVar, newRow, Value.cells]
  rfl
theorem op_alloc {P : Program} {Q : Exit → Act → World → Prop} {K : Act → World → Prop} {a : Act} {w w' : World} {o : Oper} {t : TypeId} {u : Value} (ho : o.op = .alloc t) (hr : (Instr.alloc t true (.tuple #[])).run P w = .ok u w') (hk : K (a.put o.dst u) w') : o.wp P a w K Q :=
  wp_val (by simp [execOp, ho, hr]) hk
theorem run_store_row (w : World) (g : Nat) (t : TypeId) (old new : List Nat) (n : Nat) (hg : w.heap[g]? = some (.cells (AR old) t (0, 0))) (hi : (Tryd.prog.info? t).map (·.size) = some n) (h1 : old.length = n) (h2 : new.length = n) :
    (Instr.storeAt t (.pointer (some ⟨g, 0, none⟩)) (.agg (AR new))).run Tryd.prog w = .ok () (w.setRow g (AR new)) := by
  simp only [Instr.storeAt, Instr.sureAddr, Sem.run_bind, Sem.run_pure, Result.andThen_ok]
  exact run_storeVar_row w g t t (AR old) (AR new) hg (by rw [hi, AR_size, h2]) (by rw [AR_size, AR_size, h1, h2]) (AR_one _)
theorem run_load_row (w : World) (g : Nat) (t : TypeId) (l : List Nat) (n : Nat) (d : TypeDesc) (hg : w.heap[g]? = some (.cells (AR l) t (0, 0))) (hu : Tryd.prog.underlying t = some d) (hd : d.isRow = true) (hi : (Tryd.prog.info? t).map (·.size) = some n) (h1 : l.length = n) :
    (Instr.loadAt t (.pointer (some ⟨g, 0, none⟩))).run Tryd.prog w = .ok (.agg (AR l)) w := by
  have hr := World.rangeAt_of_block hg 0 n
  have e : ((AR l).extract 0 (0 + n)).toList = WV l := by
    simp [AR]
    exact List.take_of_length_le (by rw [WV_length]; omega)
  rw [e] at hr
  exact run_loadAt_mid w g 0 t _ d hr hu hd (by rw [hi, WV_length, h1])

/-- v is a variable of the region's own, of the cells c -/
def Own (B : Nat) (w : World) (v : Value) (c : List Nat) (t : TypeId) : Prop := ∃ g, v = .pointer (some ⟨g, 0, none⟩) ∧ B ≤ g ∧ g < w.heap.size ∧ w.heap[g]? = some (.cells (AR c) t (0, 0))
theorem Own.below {B : Nat} {w w' : World} {v : Value} {c : List Nat} {t : TypeId} (h : Own B w v c t) (hb : Below w.heap.size w w') : Own B w' v c t := by
  obtain ⟨g, h1, h2, h3, h4⟩ := h
  exact ⟨g, h1, h2, Nat.lt_of_lt_of_le h3 hb.size, (hb.block g h3).trans h4⟩
theorem Own.setRow {B : Nat} {w : World} {v : Value} {c : List Nat} {t : TypeId} (h : Own B w v c t) (k : Nat) (cs : Array Value) (hn : v ≠ .pointer (some ⟨k, 0, none⟩)) : Own B (w.setRow k cs) v c t := by
  obtain ⟨g, rfl, h2, h3, h4⟩ := h
  have hk : g ≠ k := fun e => hn (by rw [e])
  exact ⟨g, rfl, h2, by simpa using h3, (setRow_other w k g cs hk).trans h4⟩
theorem Own.ne {B : Nat} {w : World} {v : Value} {c : List Nat} {t : TypeId} (h : Own B w v c t) : v ≠ .pointer (some ⟨w.heap.size, 0, none⟩) := by
  obtain ⟨g, rfl, h2, h3, h4⟩ := h
  intro e
  injection e with e
  injection e with e
  injection e with e
  omega
theorem Own.new {B : Nat} (w : World) (c : List Nat) (t : TypeId) (hB : B ≤ w.heap.size) : Own B (w.alloc (.cells (AR c) t)) (.pointer (some ⟨w.heap.size, 0, none⟩)) c t :=
  ⟨w.heap.size, rfl, hB, by simp, heap_alloc_new w _⟩
/-- the operations of that statement -/
def T1 : List (Option Tmp × Op × List Nat) :=
  [(some 14, .move (.tmp 1), []), (some 15, .call { callee := .value (.func 32), args := #[.tmp 14], argTypes := #[9] }, [0]), (some 16, .call { callee := .value (.func 33), args := #[], argTypes := #[] }, [1]),
   (some 17, .load 46 (.tmp 2), []), (some 5, .alloc 51, []), (some 6, .alloc 51, []), (some 7, .alloc 46, []),
   (none, .store 51 (.tmp 5) (.tmp 15), [4, 1, 2, 0, 1, 4, 5, 6]), (none, .store 51 (.tmp 6) (.tmp 16), [5, 2, 7, 0, 1, 2, 4, 5, 6, 7]), (none, .store 46 (.tmp 7) (.tmp 17), [6, 3, 8, 0, 1, 2, 3, 4, 5, 6, 7, 8])]
def p1 : Nat → Bool := fun i => i == 5 || i == 6 || i == 7 || i == 14 || i == 15 || i == 16 || i == 17
/-- what holds of the operations that have come up -/
structure I1 (W : World) (b : List UInt8) (s : Sm.St) (listed : Array Bool) (f : Nat → Value) (w : World) : Prop where
  size : listed.size = 10
  v14 : listed.getD 0 false = true → f 14 = .string (S b)
  v15 : listed.getD 1 false = true → f 15 = .agg (AR (Sm.words b))
  v16 : listed.getD 2 false = true → f 16 = .agg (AR Sm.K)
  v17 : listed.getD 3 false = true → f 17 = .agg (AR s.list)
  c5 : listed.getD 4 false = true → Own W.heap.size w (f 5) (bif listed.getD 7 false then Sm.words b else Sm.Z64) 51
  c6 : listed.getD 5 false = true → Own W.heap.size w (f 6) (bif listed.getD 8 false then Sm.K else Sm.Z64) 51
  c7 : listed.getD 6 false = true → Own W.heap.size w (f 7) (bif listed.getD 9 false then s.list else Z8) 46
  n56 : listed.getD 4 false = true → listed.getD 5 false = true → f 5 ≠ f 6
  n57 : listed.getD 4 false = true → listed.getD 6 false = true → f 5 ≠ f 7
  n67 : listed.getD 5 false = true → listed.getD 6 false = true → f 6 ≠ f 7
  s5 : listed.getD 7 false = true → listed.getD 4 false = true
  s6 : listed.getD 8 false = true → listed.getD 5 false = true
  s7 : listed.getD 9 false = true → listed.getD 6 false = true
  bel : Below W.heap.size W w
theorem call_words (args : Array Value) (w : World) : (callFunc 32 args).run Tryd.prog w = .ok (.enter 32 args) w := by kernel_rfl
theorem call_keys (args : Array Value) (w : World) : (callFunc 33 args).run Tryd.prog w = .ok (.enter 33 args) w := by kernel_rfl
/-- an operation that leaves a value in one of the slots 14 to 17, the world at most grown -/
theorem I1.val {W : World} {b : List UInt8} {s : Sm.St} {listed : Array Bool} {f : Nat → Value} {w w' : World} (h : I1 W b s listed f w) {k : Nat} {v : Value} (hk : k ≤ 3)
    (hv : (k = 0 → v = .string (S b)) ∧ (k = 1 → v = .agg (AR (Sm.words b))) ∧ (k = 2 → v = .agg (AR Sm.K)) ∧ (k = 3 → v = .agg (AR s.list))) (hb : Below w.heap.size w w') :
    I1 W b s (listed.setIfInBounds k true) (fun i => if i = 14 + k then v else f i) w' := by
  have g (j : Nat) (hj : j ≠ k) : (listed.setIfInBounds k true).getD j false = listed.getD j false := getD_set_other hj
  have e5 : (if 5 = 14 + k then v else f 5) = f 5 := if_neg (by omega)
  have e6 : (if 6 = 14 + k then v else f 6) = f 6 := if_neg (by omega)
  have e7 : (if 7 = 14 + k then v else f 7) = f 7 := if_neg (by omega)
  have at_ (j : Nat) (u : Value) (hj : j ≤ 3) (hu : k = j → v = u) (ho : listed.getD j false = true → f (14 + j) = u) : (listed.setIfInBounds k true).getD j false = true → (if 14 + j = 14 + k then v else f (14 + j)) = u := fun e => by
    by_cases c : j = k
    · subst c
      rw [if_pos rfl]; exact hu rfl
    · rw [if_neg (by omega)]
      rw [g j c] at e
      exact ho e
  refine ⟨by simpa using h.size, at_ 0 _ (by omega) hv.1 h.v14, at_ 1 _ (by omega) hv.2.1 h.v15, at_ 2 _ (by omega) hv.2.2.1 h.v16, at_ 3 _ (by omega) hv.2.2.2 h.v17, ?_, ?_, ?_, ?_, ?_, ?_, ?_, ?_, ?_, h.bel.trans (hb.mono h.bel.size)⟩
  · rw [g 4 (by omega), g 7 (by omega), e5]; exact fun e => (h.c5 e).below hb
  · rw [g 5 (by omega), g 8 (by omega), e6]; exact fun e => (h.c6 e).below hb
  · rw [g 6 (by omega), g 9 (by omega), e7]; exact fun e => (h.c7 e).below hb
  · rw [g 4 (by omega), g 5 (by omega), e5, e6]; exact h.n56
  · rw [g 4 (by omega), g 6 (by omega), e5, e7]; exact h.n57
  · rw [g 5 (by omega), g 6 (by omega), e6, e7]; exact h.n67
  · rw [g 4 (by omega), g 7 (by omega)]; exact h.s5
  · rw [g 5 (by omega), g 8 (by omega)]; exact h.s6
  · rw [g 6 (by omega), g 9 (by omega)]; exact h.s7
theorem getD_clash1 {l : Array Bool} {j : Nat} (h1 : l.getD j false = true) (h2 : l.getD j true = false) : False := by
  by_cases hl : j < l.size
  · simp [hl] at h1 h2
    rw [h1] at h2; cases h2
  · simp [hl] at h1
theorem I1.new5 {W : World} {b : List UInt8} {s : Sm.St} {listed : Array Bool} {f : Nat → Value} {w : World} (h : I1 W b s listed f w) (hun : listed.getD 4 true = false) :
    I1 W b s (listed.setIfInBounds 4 true) (fun i => if i = 5 then .pointer (some ⟨w.heap.size, 0, none⟩) else f i) (w.alloc (.cells (AR Sm.Z64) 51)) := by
  have g (j : Nat) (hj : j ≠ 4) : (listed.setIfInBounds 4 true).getD j false = listed.getD j false := getD_set_other hj
  have hb : Below w.heap.size w (w.alloc (.cells (AR Sm.Z64) 51)) := (Below.refl _ _).alloc (Nat.le_refl _) _
  have hB := h.bel.size
  have hs : listed.getD 7 false = false := by
    rcases e : listed.getD 7 false with _ | _
    · rfl
    · exact absurd (h.s5 e) (fun x => getD_clash1 x hun)
  refine ⟨by simpa using h.size, ?_, ?_, ?_, ?_, ?_, ?_, ?_, ?_, ?_, ?_, ?_, ?_, ?_, h.bel.trans (hb.mono hB)⟩
  · rw [g 0 (by omega), if_neg (by omega : ¬ 14 = 5)]; exact h.v14
  · rw [g 1 (by omega), if_neg (by omega : ¬ 15 = 5)]; exact h.v15
  · rw [g 2 (by omega), if_neg (by omega : ¬ 16 = 5)]; exact h.v16
  · rw [g 3 (by omega), if_neg (by omega : ¬ 17 = 5)]; exact h.v17
  · intro _
    rw [g 7 (by omega), hs, if_pos rfl]
    exact Own.new w _ _ hB
  · rw [g 5 (by omega), g 8 (by omega), if_neg (by omega : ¬ 6 = 5)]; exact fun e => (h.c6 e).below hb
  · rw [g 6 (by omega), g 9 (by omega), if_neg (by omega : ¬ 7 = 5)]; exact fun e => (h.c7 e).below hb
  · intro _ e
    rw [g 5 (by omega)] at e
    rw [if_pos rfl, if_neg (by omega : ¬ 6 = 5)]
    exact fun x => (h.c6 e).ne x.symm
  · intro _ e
    rw [g 6 (by omega)] at e
    rw [if_pos rfl, if_neg (by omega : ¬ 7 = 5)]
    exact fun x => (h.c7 e).ne x.symm
  · rw [g 5 (by omega), g 6 (by omega), if_neg (by omega : ¬ 6 = 5), if_neg (by omega : ¬ 7 = 5)]; exact h.n67
  · rw [g 7 (by omega), hs]; exact fun e => by cases e
  · rw [g 5 (by omega), g 8 (by omega)]; exact h.s6
  · rw [g 6 (by omega), g 9 (by omega)]; exact h.s7
theorem I1.new6 {W : World} {b : List UInt8} {s : Sm.St} {listed : Array Bool} {f : Nat → Value} {w : World} (h : I1 W b s listed f w) (hun : listed.getD 5 true = false) :
    I1 W b s (listed.setIfInBounds 5 true) (fun i => if i = 6 then .pointer (some ⟨w.heap.size, 0, none⟩) else f i) (w.alloc (.cells (AR Sm.Z64) 51)) := by
  have g (j : Nat) (hj : j ≠ 5) : (listed.setIfInBounds 5 true).getD j false = listed.getD j false := getD_set_other hj
  have hb : Below w.heap.size w (w.alloc (.cells (AR Sm.Z64) 51)) := (Below.refl _ _).alloc (Nat.le_refl _) _
  have hB := h.bel.size
  have hs : listed.getD 8 false = false := by
    rcases e : listed.getD 8 false with _ | _
    · rfl
    · exact absurd (h.s6 e) (fun x => getD_clash1 x hun)
  refine ⟨by simpa using h.size, ?_, ?_, ?_, ?_, ?_, ?_, ?_, ?_, ?_, ?_, ?_, ?_, ?_, h.bel.trans (hb.mono hB)⟩
  · rw [g 0 (by omega), if_neg (by omega : ¬ 14 = 6)]; exact h.v14
  · rw [g 1 (by omega), if_neg (by omega : ¬ 15 = 6)]; exact h.v15
  · rw [g 2 (by omega), if_neg (by omega : ¬ 16 = 6)]; exact h.v16
  · rw [g 3 (by omega), if_neg (by omega : ¬ 17 = 6)]; exact h.v17
  · rw [g 4 (by omega), g 7 (by omega), if_neg (by omega : ¬ 5 = 6)]; exact fun e => (h.c5 e).below hb
  · intro _
    rw [g 8 (by omega), hs, if_pos rfl]
    exact Own.new w _ _ hB
  · rw [g 6 (by omega), g 9 (by omega), if_neg (by omega : ¬ 7 = 6)]; exact fun e => (h.c7 e).below hb
  · intro e _
    rw [g 4 (by omega)] at e
    rw [if_pos rfl, if_neg (by omega : ¬ 5 = 6)]
    exact (h.c5 e).ne
  · rw [g 4 (by omega), g 6 (by omega), if_neg (by omega : ¬ 5 = 6), if_neg (by omega : ¬ 7 = 6)]; exact h.n57
  · intro _ e
    rw [g 6 (by omega)] at e
    rw [if_pos rfl, if_neg (by omega : ¬ 7 = 6)]
    exact fun x => (h.c7 e).ne x.symm
  · rw [g 4 (by omega), g 7 (by omega)]; exact h.s5
  · rw [g 8 (by omega), hs]; exact fun e => by cases e
  · rw [g 6 (by omega), g 9 (by omega)]; exact h.s7
theorem I1.new7 {W : World} {b : List UInt8} {s : Sm.St} {listed : Array Bool} {f : Nat → Value} {w : World} (h : I1 W b s listed f w) (hun : listed.getD 6 true = false) :
    I1 W b s (listed.setIfInBounds 6 true) (fun i => if i = 7 then .pointer (some ⟨w.heap.size, 0, none⟩) else f i) (w.alloc (.cells (AR Z8) 46)) := by
  have g (j : Nat) (hj : j ≠ 6) : (listed.setIfInBounds 6 true).getD j false = listed.getD j false := getD_set_other hj
  have hb : Below w.heap.size w (w.alloc (.cells (AR Z8) 46)) := (Below.refl _ _).alloc (Nat.le_refl _) _
  have hB := h.bel.size
  have hs : listed.getD 9 false = false := by
    rcases e : listed.getD 9 false with _ | _
    · rfl
    · exact absurd (h.s7 e) (fun x => getD_clash1 x hun)
  refine ⟨by simpa using h.size, ?_, ?_, ?_, ?_, ?_, ?_, ?_, ?_, ?_, ?_, ?_, ?_, ?_, h.bel.trans (hb.mono hB)⟩
  · rw [g 0 (by omega), if_neg (by omega : ¬ 14 = 7)]; exact h.v14
  · rw [g 1 (by omega), if_neg (by omega : ¬ 15 = 7)]; exact h.v15
  · rw [g 2 (by omega), if_neg (by omega : ¬ 16 = 7)]; exact h.v16
  · rw [g 3 (by omega), if_neg (by omega : ¬ 17 = 7)]; exact h.v17
  · rw [g 4 (by omega), g 7 (by omega), if_neg (by omega : ¬ 5 = 7)]; exact fun e => (h.c5 e).below hb
  · rw [g 5 (by omega), g 8 (by omega), if_neg (by omega : ¬ 6 = 7)]; exact fun e => (h.c6 e).below hb
  · intro _
    rw [g 9 (by omega), hs, if_pos rfl]
    exact Own.new w _ _ hB
  · rw [g 4 (by omega), g 5 (by omega), if_neg (by omega : ¬ 5 = 7), if_neg (by omega : ¬ 6 = 7)]; exact h.n56
  · intro e _
    rw [g 4 (by omega)] at e
    rw [if_pos rfl, if_neg (by omega : ¬ 5 = 7)]
    exact (h.c5 e).ne
  · intro e _
    rw [g 5 (by omega)] at e
    rw [if_pos rfl, if_neg (by omega : ¬ 6 = 7)]
    exact (h.c6 e).ne
  · rw [g 4 (by omega), g 7 (by omega)]; exact h.s5
  · rw [g 5 (by omega), g 8 (by omega)]; exact h.s6
  · rw [g 9 (by omega), hs]; exact fun e => by cases e
theorem I1.put5 {W : World} {b : List UInt8} {s : Sm.St} {listed : Array Bool} {f : Nat → Value} {w : World} (h : I1 W b s listed f w) (hun : listed.getD 7 true = false) (ha : listed.getD 4 false = true) :
    ∃ g, f 5 = .pointer (some ⟨g, 0, none⟩) ∧ w.heap[g]? = some (.cells (AR Sm.Z64) 51 (0, 0)) ∧ I1 W b s (listed.setIfInBounds 7 true) f (w.setRow g (AR (Sm.words b))) := by
  have g (j : Nat) (hj : j ≠ 7) : (listed.setIfInBounds 7 true).getD j false = listed.getD j false := getD_set_other hj
  have hs : listed.getD 7 false = false := by
    rcases e : listed.getD 7 false with _ | _
    · rfl
    · exact absurd hun (fun x => getD_clash1 e x)
  have hself : (listed.setIfInBounds 7 true).getD 7 false = true := getD_set_self (by rw [h.size]; omega)
  obtain ⟨q, hq, hq1, hq2, hq3⟩ := h.c5 ha
  rw [hs] at hq3
  refine ⟨q, hq, hq3, by simpa using h.size, ?_, ?_, ?_, ?_, ?_, ?_, ?_, ?_, ?_, ?_, ?_, ?_, ?_, below_setRow h.bel hq1 _⟩
  · rw [g 0 (by omega)]; exact h.v14
  · rw [g 1 (by omega)]; exact h.v15
  · rw [g 2 (by omega)]; exact h.v16
  · rw [g 3 (by omega)]; exact h.v17
  · intro _
    rw [hself]
    exact ⟨q, hq, hq1, by simpa using hq2, setRow_heap _ _ _ _ _ _ hq3⟩
  · rw [g 5 (by omega), g 8 (by omega)]
    intro e
    refine (h.c6 e).setRow q _ ?_
    rw [← hq]
    exact fun x => (h.n56 ha e) x.symm
  · rw [g 6 (by omega), g 9 (by omega)]
    intro e
    refine (h.c7 e).setRow q _ ?_
    rw [← hq]
    exact fun x => (h.n57 ha e) x.symm
  · rw [g 4 (by omega), g 5 (by omega)]; exact h.n56
  · rw [g 4 (by omega), g 6 (by omega)]; exact h.n57
  · rw [g 5 (by omega), g 6 (by omega)]; exact h.n67
  · intro _; rw [g 4 (by omega)]; exact ha
  · rw [g 5 (by omega), g 8 (by omega)]; exact h.s6
  · rw [g 6 (by omega), g 9 (by omega)]; exact h.s7
theorem I1.put6 {W : World} {b : List UInt8} {s : Sm.St} {listed : Array Bool} {f : Nat → Value} {w : World} (h : I1 W b s listed f w) (hun : listed.getD 8 true = false) (ha : listed.getD 5 false = true) :
    ∃ g, f 6 = .pointer (some ⟨g, 0, none⟩) ∧ w.heap[g]? = some (.cells (AR Sm.Z64) 51 (0, 0)) ∧ I1 W b s (listed.setIfInBounds 8 true) f (w.setRow g (AR (Sm.K))) := by
  have g (j : Nat) (hj : j ≠ 8) : (listed.setIfInBounds 8 true).getD j false = listed.getD j false := getD_set_other hj
  have hs : listed.getD 8 false = false := by
    rcases e : listed.getD 8 false with _ | _
    · rfl
    · exact absurd hun (fun x => getD_clash1 e x)
  have hself : (listed.setIfInBounds 8 true).getD 8 false = true := getD_set_self (by rw [h.size]; omega)
  obtain ⟨q, hq, hq1, hq2, hq3⟩ := h.c6 ha
  rw [hs] at hq3
  refine ⟨q, hq, hq3, by simpa using h.size, ?_, ?_, ?_, ?_, ?_, ?_, ?_, ?_, ?_, ?_, ?_, ?_, ?_, below_setRow h.bel hq1 _⟩
  · rw [g 0 (by omega)]; exact h.v14
  · rw [g 1 (by omega)]; exact h.v15
  · rw [g 2 (by omega)]; exact h.v16
  · rw [g 3 (by omega)]; exact h.v17
  · rw [g 4 (by omega), g 7 (by omega)]
    intro e
    refine (h.c5 e).setRow q _ ?_
    rw [← hq]
    exact h.n56 e ha
  · intro _
    rw [hself]
    exact ⟨q, hq, hq1, by simpa using hq2, setRow_heap _ _ _ _ _ _ hq3⟩
  · rw [g 6 (by omega), g 9 (by omega)]
    intro e
    refine (h.c7 e).setRow q _ ?_
    rw [← hq]
    exact fun x => (h.n67 ha e) x.symm
  · rw [g 4 (by omega), g 5 (by omega)]; exact h.n56
  · rw [g 4 (by omega), g 6 (by omega)]; exact h.n57
  · rw [g 5 (by omega), g 6 (by omega)]; exact h.n67
  · rw [g 4 (by omega), g 7 (by omega)]; exact h.s5
  · intro _; rw [g 5 (by omega)]; exact ha
  · rw [g 6 (by omega), g 9 (by omega)]; exact h.s7
theorem I1.put7 {W : World} {b : List UInt8} {s : Sm.St} {listed : Array Bool} {f : Nat → Value} {w : World} (h : I1 W b s listed f w) (hun : listed.getD 9 true = false) (ha : listed.getD 6 false = true) :
    ∃ g, f 7 = .pointer (some ⟨g, 0, none⟩) ∧ w.heap[g]? = some (.cells (AR Z8) 46 (0, 0)) ∧ I1 W b s (listed.setIfInBounds 9 true) f (w.setRow g (AR (s.list))) := by
  have g (j : Nat) (hj : j ≠ 9) : (listed.setIfInBounds 9 true).getD j false = listed.getD j false := getD_set_other hj
  have hs : listed.getD 9 false = false := by
    rcases e : listed.getD 9 false with _ | _
    · rfl
    · exact absurd hun (fun x => getD_clash1 e x)
  have hself : (listed.setIfInBounds 9 true).getD 9 false = true := getD_set_self (by rw [h.size]; omega)
  obtain ⟨q, hq, hq1, hq2, hq3⟩ := h.c7 ha
  rw [hs] at hq3
  refine ⟨q, hq, hq3, by simpa using h.size, ?_, ?_, ?_, ?_, ?_, ?_, ?_, ?_, ?_, ?_, ?_, ?_, ?_, below_setRow h.bel hq1 _⟩
  · rw [g 0 (by omega)]; exact h.v14
  · rw [g 1 (by omega)]; exact h.v15
  · rw [g 2 (by omega)]; exact h.v16
  · rw [g 3 (by omega)]; exact h.v17
  · rw [g 4 (by omega), g 7 (by omega)]
    intro e
    refine (h.c5 e).setRow q _ ?_
    rw [← hq]
    exact h.n57 e ha
  · rw [g 5 (by omega), g 8 (by omega)]
    intro e
    refine (h.c6 e).setRow q _ ?_
    rw [← hq]
    exact h.n67 e ha
  · intro _
    rw [hself]
    exact ⟨q, hq, hq1, by simpa using hq2, setRow_heap _ _ _ _ _ _ hq3⟩
  · rw [g 4 (by omega), g 5 (by omega)]; exact h.n56
  · rw [g 4 (by omega), g 6 (by omega)]; exact h.n57
  · rw [g 5 (by omega), g 6 (by omega)]; exact h.n67
  · rw [g 4 (by omega), g 7 (by omega)]; exact h.s5
  · rw [g 5 (by omega), g 8 (by omega)]; exact h.s6
  · intro _; rw [g 6 (by omega)]; exact ha
set_option maxRecDepth 100000 in
set_option maxHeartbeats 800000 in
theorem step_region {ops : Array Oper} {Q : Exit → Act → World → Prop} {A : Act} {id q : Nat} {W : World} {b : List UInt8} {s : Sm.St}
    (hkey : ops.toList.map keyOf = T1.map fun x => (x.1, x.2.1, true, x.2.2)) (hlow : (List.range ops.size).all (fun i => match ops[i]? with | some o => o.after.all (fun e => !Region.binds .any e || decide (e.on < i)) | none => true) = true)
    (hA1 : A.eval (.tmp 1) = .string (S b)) (hA2 : A.eval (.tmp 2) = .pointer (some ⟨q, 0, none⟩)) (hsz : 17 < A.tmps.size) (hb : b.length = 64) (hq : W.heap[q]? = some (.cells (AR s.list) 46 (0, 0)))
    (fin : ∀ (f : Nat → Value) (g5 g6 g7 : Nat) w2, f 5 = .pointer (some ⟨g5, 0, none⟩) → f 6 = .pointer (some ⟨g6, 0, none⟩) → f 7 = .pointer (some ⟨g7, 0, none⟩) → W.heap.size ≤ g5 → W.heap.size ≤ g6 → W.heap.size ≤ g7 →
      g7 ≠ g5 → g7 ≠ g6 → w2.heap[g5]? = some (.cells (AR (Sm.words b)) 51 (0, 0)) → w2.heap[g6]? = some (.cells (AR Sm.K) 51 (0, 0)) → w2.heap[g7]? = some (.cells (AR s.list) 46 (0, 0)) → Below W.heap.size W w2 → Q .normal (putR A p1 f) w2) :
    (Code.region id ops true).wp Tryd.prog Q A W := by
  have hql : q < W.heap.size := (Array.getElem?_eq_some_iff.1 hq).1
  have hw64 := Sm.words_length b
  refine wp_region_tab (by kernel_rfl) T1 hkey hlow p1 (I1 W b s) ?_ ?_ ?_
  · refine ⟨rfl, ?_, ?_, ?_, ?_, ?_, ?_, ?_, ?_, ?_, ?_, ?_, ?_, ?_, Below.drew (Below.refl _ _)⟩
    all_goals (intro h; simp [T1] at h)
  · intro listed f w i x hI hx hun hdep o hd hop
    have EV (j : Nat) (hj : p1 j = true) (hj2 : j ≤ 17) : (putR A p1 f).eval (.tmp j) = f j := putR_in A p1 f j hj (by omega)
    have put14 (k : Nat) (v : Value) (hk : k ≤ 3) (ho : o.dst = some (14 + k)) : (putR A p1 f).put o.dst v = putR A p1 (fun i => if i = 14 + k then v else f i) := by
      rw [ho]
      exact putR_put _ _ _ (14 + k) _ (by obtain rfl | rfl | rfl | rfl : k = 0 ∨ k = 1 ∨ k = 2 ∨ k = 3 := by omega
                                          all_goals rfl)
    rcases i with _ | _ | _ | _ | _ | _ | _ | _ | _ | _ | i
    all_goals simp only [T1, List.getElem?_cons_zero, List.getElem?_cons_succ, List.getElem?_nil, Option.some.injEq, reduceCtorEq] at hx
    all_goals subst hx
    · exact op_move hop ((putR_out _ _ _ 1 rfl).trans hA1) ⟨_, put14 0 (.string (S b)) (by omega) hd, hI.val (k := 0) (v := .string (S b)) (by omega) (by refine ⟨?_, ?_, ?_, ?_⟩ <;> intro h <;> first | exact absurd h (by decide) | rfl) (Below.refl _ _)⟩
    · have e14 := (EV 14 rfl (by omega)).trans (hI.v14 (hdep 0 (by simp)))
      exact wp_enter (f := 32) (v := .agg (AR (Sm.words b))) (args := #[.string (S b)]) (R := fun w' => Below w.heap.size w w') (exec_call _ hop (by simp [e14]) call_words) (words_any b w hb)
        (fun w3 hb3 => ⟨_, put14 1 (.agg (AR (Sm.words b))) (by omega) hd, hI.val (k := 1) (v := .agg (AR (Sm.words b))) (by omega) (by refine ⟨?_, ?_, ?_, ?_⟩ <;> intro h <;> first | exact absurd h (by decide) | rfl) hb3⟩)
    · exact wp_enter (f := 33) (v := .agg (AR Sm.K)) (args := #[]) (R := fun w' => Below w.heap.size w w') (exec_call _ hop (by simp) call_keys) (keys_any w)
        (fun w3 hb3 => ⟨_, put14 2 (.agg (AR Sm.K)) (by omega) hd, hI.val (k := 2) (v := .agg (AR Sm.K)) (by omega) (by refine ⟨?_, ?_, ?_, ?_⟩ <;> intro h <;> first | exact absurd h (by decide) | rfl) hb3⟩)
    · exact op_load hop ((putR_out _ _ _ 2 rfl).trans hA2) (run_load_row w q _ s.list 8 _ ((hI.bel.block q hql).trans hq) Tryd.underlying46 rfl (by kernel_rfl) rfl)
        ⟨_, put14 3 (.agg (AR s.list)) (by omega) hd, hI.val (k := 3) (v := .agg (AR s.list)) (by omega) (by refine ⟨?_, ?_, ?_, ?_⟩ <;> intro h <;> first | exact absurd h (by decide) | rfl) (Below.refl _ _)⟩
    · exact op_alloc hop (alloc_64 w) ⟨_, by rw [hd]; exact putR_put _ _ _ 5 _ rfl, hI.new5 hun⟩
    · exact op_alloc hop (alloc_64 w) ⟨_, by rw [hd]; exact putR_put _ _ _ 6 _ rfl, hI.new6 hun⟩
    · exact op_alloc hop (alloc_8 w) ⟨_, by rw [hd]; exact putR_put _ _ _ 7 _ rfl, hI.new7 hun⟩
    · obtain ⟨g, hg, hc, hI'⟩ := hI.put5 hun (hdep 4 (by simp))
      exact op_store hop ((EV 5 rfl (by omega)).trans hg) ((EV 15 rfl (by omega)).trans (hI.v15 (hdep 1 (by simp)))) hd (run_store_row w g _ Sm.Z64 _ 64 hc (by kernel_rfl) rfl hw64) ⟨f, rfl, hI'⟩
    · obtain ⟨g, hg, hc, hI'⟩ := hI.put6 hun (hdep 5 (by simp))
      exact op_store hop ((EV 6 rfl (by omega)).trans hg) ((EV 16 rfl (by omega)).trans (hI.v16 (hdep 2 (by simp)))) hd (run_store_row w g _ Sm.Z64 _ 64 hc (by kernel_rfl) rfl rfl) ⟨f, rfl, hI'⟩
    · obtain ⟨g, hg, hc, hI'⟩ := hI.put7 hun (hdep 6 (by simp))
      exact op_store hop ((EV 7 rfl (by omega)).trans hg) ((EV 17 rfl (by omega)).trans (hI.v17 (hdep 3 (by simp)))) hd (run_store_row w g _ Z8 _ 8 hc (by kernel_rfl) rfl rfl) ⟨f, rfl, hI'⟩
  · intro listed f w hI hall
    obtain ⟨g5, a1, a2, a3, a4⟩ := hI.c5 (hall 4 (by decide))
    obtain ⟨g6, b1, b2, b3, b4⟩ := hI.c6 (hall 5 (by decide))
    obtain ⟨g7, c1, c2, c3, c4⟩ := hI.c7 (hall 6 (by decide))
    rw [hall 7 (by decide)] at a4
    rw [hall 8 (by decide)] at b4
    rw [hall 9 (by decide)] at c4
    have n1 := hI.n57 (hall 4 (by decide)) (hall 6 (by decide))
    have n2 := hI.n67 (hall 5 (by decide)) (hall 6 (by decide))
    exact fin f g5 g6 g7 w a1 b1 c1 a2 b2 c2 (fun e => n1 (by rw [a1, c1, e])) (fun e => n2 (by rw [b1, c1, e])) a4 b4 c4 hI.bel
end Go.Proofs.YtnlkmbbgcellfaaDoor
