/-
  A region that draws its order, walked by an invariant: of whatever operations have come up, and of the frame's slots that the region writes. One case an operation, whatever the orders.
-/
import Derived.Test.YtpifbmcgadjhbaaGreatDoorBase
namespace Go.Proofs.YtpifbmcgadjhbaaGreatDoor
open Go.RowKit

/-- the frame A, but for the slots of p, which hold what f says -/
def putR (A : Act) (p : Nat → Bool) (f : Nat → Value) : Act := { A with tmps := A.tmps.mapIdx fun i x => if p i then f i else x }
theorem putR_put (A : Act) (p : Nat → Bool) (f : Nat → Value) (j : Nat) (v : Value) (h : p j = true) : (putR A p f).put (some j) v = putR A p (fun i => if i = j then v else f i) := by
  unfold putR Act.put
  simp only [Act.mk.injEq, and_true]
  apply Array.ext_getElem?
  intro i
  by_cases e : j = i
  · subst e
    by_cases hs : j < A.tmps.size <;> simp [h, hs]
  · have e' : ¬ i = j := fun x => e x.symm
    simp [e, e']
/-- a frame that is written out -/
def putL (p : Nat → Bool) (f : Nat → Value) : List Value → Nat → List Value
  | [], _ => []
  | x :: r, k => (bif p k then f k else x) :: putL p f r (k + 1)
theorem putL_eq (p : Nat → Bool) (f : Nat → Value) : ∀ (l : List Value) (k : Nat), putL p f l k = l.mapIdx fun i x => if p (k + i) then f (k + i) else x
  | [], _ => rfl
  | x :: r, k => by
    rw [putL, putL_eq p f r (k + 1), List.mapIdx_cons]
    have e (i : Nat) : k + 1 + i = k + (i + 1) := by omega
    simp only [e, Nat.add_zero]
    cases p k <;> simp
theorem putR_lit (p : Nat → Bool) (f : Nat → Value) (l : List Value) (d : List Deferred) : putR ⟨l.toArray, d⟩ p f = ⟨(putL p f l 0).toArray, d⟩ := by
  unfold putR
  rw [putL_eq]
  simp
theorem putR_self (A : Act) (p : Nat → Bool) : putR A p (fun i => A.tmps.getD i undef) = A := by
  cases A
  unfold putR
  simp only [Act.mk.injEq, and_true]
  apply Array.ext
  · simp
  · intro i h1 h2
    simp at h1
    simp [h1]
theorem putR_in (A : Act) (p : Nat → Bool) (f : Nat → Value) (j : Nat) (h : p j = true) (hs : j < A.tmps.size) : (putR A p f).eval (.tmp j) = f j := by
  simp [putR, Act.eval, hs, h]
theorem putR_out (A : Act) (p : Nat → Bool) (f : Nat → Value) (j : Nat) (h : p j = false) : (putR A p f).eval (.tmp j) = A.eval (.tmp j) := by
  simp only [putR, Act.eval]
  by_cases hs : j < A.tmps.size
  · simp [hs, h]
  · simp [hs]
theorem putR_defers (A : Act) (p : Nat → Bool) (f : Nat → Value) : (putR A p f).defers = A.defers := rfl

section
variable {P : Program} {ops : Array Oper} {Q : Exit → Act → World → Prop} {A : Act} {p : Nat → Bool}
theorem count_set {l : Array Bool} {i : Nat} (h : l.getD i true = false) : (l.setIfInBounds i true).toList.count false + 1 = l.toList.count false := by
  have hi : i < l.size := by
    rcases Nat.lt_or_ge i l.size with h' | h'
    · exact h'
    · simp [h'] at h
  have hv : l.toList[i]'(by simpa using hi) = false := by simpa [hi] using h
  rw [Array.toList_setIfInBounds]
  have e1 := List.count_set (l := l.toList) (i := i) (a := true) (b := false) (by simpa using hi)
  have hp : 0 < l.toList.count false := List.count_pos_iff.2 (hv ▸ List.getElem_mem _)
  have h1 : (l.toList[i]'(by simpa using hi) == false) = true := by rw [hv]; rfl
  rw [e1, h1]
  simp only [if_true]
  have : (if (true == false) = true then 1 else 0) = 0 := rfl
  omega
/-- One operation without a guard. -/
theorem wpOp_at {i : Nat} {o : Oper} {K : Act → World → Prop} {a : Act} {w : World} (hi : ops[i]? = some o) (hg : o.guard = none) (h : o.wp P a w K Q) : wpOp P ops Q i K a w := by
  have hw : Region.wanted o (yielded ops a.tmps) = true := by simp [Region.wanted, hg]
  unfold wpOp
  simp only [hi, hw, if_true]
  exact .inl h
theorem wpAny_inv (I : Array Bool → (Nat → Value) → World → Prop)
    (step : ∀ listed f w i o, listed.size = ops.size → I listed f w → ops[i]? = some o → listed.getD i true = false → (∀ e ∈ o.after, Region.binds .any e = true → listed.getD e.on false = true) →
      wpOp P ops Q i (fun a' w' => ∃ f', a' = putR A p f' ∧ I (listed.setIfInBounds i true) f' w') (putR A p f) w)
    (fin : ∀ listed f w, listed.size = ops.size → I listed f w → Region.ready .any ops listed = [] → Q .normal (putR A p f) w) :
    ∀ (fuel : Nat) (listed : Array Bool) (f : Nat → Value) (w : World), listed.size = ops.size → listed.toList.count false ≤ fuel → I listed f w → wpAny P .any ops Q fuel listed (putR A p f) w
  | 0, listed, f, w, hs, hc, hI => by
    have hr : Region.ready .any ops listed = [] := by
      rcases hq : Region.ready .any ops listed with _ | ⟨i, r⟩
      · rfl
      · have hi : i ∈ Region.ready .any ops listed := by rw [hq]; exact List.mem_cons_self
        have := count_set (mem_ready.1 hi).1
        omega
    exact ⟨hr, fin listed f w hs hI hr⟩
  | fuel + 1, listed, f, w, hs, hc, hI => by
    refine ⟨fun hr => fin listed f w hs hI hr, fun i hi => ?_⟩
    obtain ⟨h1, o, ho, hd⟩ := mem_ready.1 hi
    refine wpOp_mono (fun a' w' ⟨f', ha, hI'⟩ => ?_) (step listed f w i o hs hI ho h1 hd)
    rw [ha]
    exact wpAny_inv I step fin fuel _ f' w' (by simpa using hs) (by have := count_set h1; omega) hI'
/-- THE RULE. -/
theorem wp_region_inv {id : Nat} {w : World} (hm : P.follows .mixedOrders = true) (p : Nat → Bool) (I : Array Bool → (Nat → Value) → World → Prop)
    (h0 : I (Array.replicate ops.size false) (fun i => A.tmps.getD i undef) w.drew)
    (step : ∀ listed f w i o, listed.size = ops.size → I listed f w → ops[i]? = some o → listed.getD i true = false → (∀ e ∈ o.after, Region.binds .any e = true → listed.getD e.on false = true) →
      wpOp P ops Q i (fun a' w' => ∃ f', a' = putR A p f' ∧ I (listed.setIfInBounds i true) f' w') (putR A p f) w)
    (fin : ∀ listed f w, listed.size = ops.size → I listed f w → Region.ready .any ops listed = [] → Q .normal (putR A p f) w) : (Code.region id ops true).wp P Q A w := by
  refine wp_region_any hm ?_
  have h := wpAny_inv (Q := Q) (A := A) (p := p) I step fin ops.size (Array.replicate ops.size false) (fun i => A.tmps.getD i undef) w.drew (by simp) (by simp) h0
  rw [putR_self] at h
  exact h
/-- whatever has come up: all, where nothing is left that may -/
theorem all_of_ready {listed : Array Bool} (hs : listed.size = ops.size) (hr : Region.ready .any ops listed = [])
    (hlow : (List.range ops.size).all (fun i => match ops[i]? with | some o => o.after.all (fun e => !Region.binds .any e || decide (e.on < i)) | none => true) = true) : ∀ n i, i < n → i < ops.size → listed.getD i false = true
  | 0, i, h, _ => by omega
  | n + 1, i, h, hi => by
    have ih := all_of_ready hs hr hlow n
    rcases hv : listed.getD i true with _ | _
    · exfalso
      have ho : ops[i]? = some ops[i] := Array.getElem?_eq_getElem hi
      have hmem : i ∈ Region.ready .any ops listed := by
        refine mem_ready.2 ⟨hv, ops[i], ho, fun e he hb => ?_⟩
        have h1 := List.all_eq_true.1 hlow i (List.mem_range.2 hi)
        rw [ho] at h1
        have h2 := Array.all_eq_true_iff_forall_mem.1 h1 e he
        simp only [hb, Bool.not_true, Bool.false_or, decide_eq_true_eq] at h2
        exact ih e.on (by omega) (by omega)
      rw [hr] at hmem
      cases hmem
    · have : i < listed.size := by omega
      simpa [this] using hv
theorem getD_set_self {l : Array Bool} {i : Nat} (h : i < l.size) : (l.setIfInBounds i true).getD i false = true := by simp [h]
theorem getD_set_other {l : Array Bool} {i k : Nat} (h : k ≠ i) : (l.setIfInBounds i true).getD k false = l.getD k false := by
  have : ¬ i = k := fun e => h e.symm
  simp only [Array.getD_eq_getD_getElem?, Array.getElem?_setIfInBounds, this, if_false]
end
/-- what matters of an operation: where it writes, what it does, that it has no guard, for which it waits -/
def keyOf (o : Oper) : Option Tmp × Op × Bool × List Nat := (o.dst, o.op, o.guard.isNone, (o.after.toList.filter (Region.binds .any)).map (·.on))
/-- THE RULE, over a table of the operations. -/
theorem wp_region_tab {P : Program} {ops : Array Oper} {Q : Exit → Act → World → Prop} {A : Act} {id : Nat} {w : World} (hm : P.follows .mixedOrders = true) (T : List (Option Tmp × Op × List Nat))
    (hkey : ops.toList.map keyOf = T.map fun x => (x.1, x.2.1, true, x.2.2)) (hlow : (List.range ops.size).all (fun i => match ops[i]? with | some o => o.after.all (fun e => !Region.binds .any e || decide (e.on < i)) | none => true) = true)
    (p : Nat → Bool) (I : Array Bool → (Nat → Value) → World → Prop)
    (h0 : I (Array.replicate T.length false) (fun i => A.tmps.getD i undef) w.drew)
    (step : ∀ listed f w i x, I listed f w → T[i]? = some x → listed.getD i true = false → (∀ n ∈ x.2.2, listed.getD n false = true) → ∀ o : Oper, o.dst = x.1 → o.op = x.2.1 →
      o.wp P (putR A p f) w (fun a' w' => ∃ f', a' = putR A p f' ∧ I (listed.setIfInBounds i true) f' w') Q)
    (fin : ∀ listed f w, I listed f w → (∀ i, i < T.length → listed.getD i false = true) → Q .normal (putR A p f) w) : (Code.region id ops true).wp P Q A w := by
  have hlen : ops.size = T.length := by have := congrArg List.length hkey; simpa using this
  refine wp_region_inv hm p I (by rw [hlen]; exact h0) (fun listed f w i o hs hI hi hun hdep => ?_) (fun listed f w hs hI hr => fin listed f w hI (fun i hi => all_of_ready hs hr hlow (i + 1) i (Nat.lt_succ_self i) (by omega)))
  have hl : ops.toList[i]? = some o := by rw [Array.getElem?_toList]; exact hi
  have h1 : (ops.toList.map keyOf)[i]? = some (keyOf o) := by rw [List.getElem?_map, hl]; rfl
  rw [hkey, List.getElem?_map] at h1
  rcases hx : T[i]? with _ | x
  · rw [hx] at h1; cases h1
  · rw [hx] at h1
    simp only [Option.map_some, Option.some.injEq, keyOf, Prod.mk.injEq] at h1
    obtain ⟨e1, e2, e3, e4⟩ := h1
    have hg : o.guard = none := by
      rcases hq : o.guard with _ | g
      · rfl
      · rw [hq] at e3; cases e3
    refine wpOp_at hi hg (step listed f w i x hI hx hun (fun n hn => ?_) o e1.symm e2.symm)
    rw [e4] at hn
    obtain ⟨e, he, rfl⟩ := List.mem_map.1 hn
    have := List.mem_filter.1 he
    exact hdep e (by simpa using this.1) this.2

section
variable {P : Program} {Q : Exit → Act → World → Prop} {K : Act → World → Prop} {a : Act} {w : World} {o : Oper}
theorem wp_val {v : Value} {w' : World} (h : (execOp a.eval o).run P w = .ok (.value v) w') (hk : K (a.put o.dst v) w') : o.wp P a w K Q := by
  unfold Oper.wp
  rw [h]
  exact hk
theorem wp_none {w' : World} (h : (execOp a.eval o).run P w = .ok .skip w') (hd : o.dst = none) (hk : K a w') : o.wp P a w K Q := by
  unfold Oper.wp
  rw [h, Oper.upon_skip, hd]
  exact hk
theorem wp_enter {f : FuncId} {args : Array Value} {v : Value} {R : World → Prop} (h : (execOp a.eval o).run P w = .ok (.enter f args) w) (hc : Calls P f args w fun e w' => e = .returned v ∧ R w')
    (hk : ∀ w', R w' → K (a.put o.dst v) w') : o.wp P a w K Q := by
  unfold Oper.wp
  rw [h, Oper.upon_enter]
  refine hc.mono fun e w' ⟨he, hr⟩ => ?_
  subst he
  exact hk w' hr
theorem op_move {x : Operand} {v : Value} (ho : o.op = .move x) (hx : a.eval x = v) (hk : K (a.put o.dst v) w) : o.wp P a w K Q :=
  wp_val (by simp [execOp, ho, hx]) hk
theorem op_nil {x : Operand} {p : Addr} (ho : o.op = .nilCheck x) (hx : a.eval x = .pointer (some p)) (hk : K (a.put o.dst (.pointer (some p))) w) : o.wp P a w K Q :=
  wp_val (by simp [execOp, ho, hx]) hk
theorem op_field {x : Operand} {t : TypeId} {i : Nat} {v u : Value} (ho : o.op = .fieldAddr t x i) (hx : a.eval x = v) (hr : (Instr.fieldAt t v i).run P w = .ok u w) (hk : K (a.put o.dst u) w) : o.wp P a w K Q :=
  wp_val (by simp [execOp, ho, hx, hr]) hk
theorem op_load {x : Operand} {t : TypeId} {v u : Value} (ho : o.op = .load t x) (hx : a.eval x = v) (hr : (Instr.loadAt t v).run P w = .ok u w) (hk : K (a.put o.dst u) w) : o.wp P a w K Q :=
  wp_val (by simp [execOp, ho, hx, hr]) hk
theorem op_store {x y : Operand} {t : TypeId} {v u : Value} {w' : World} (ho : o.op = .store t x y) (hx : a.eval x = v) (hy : a.eval y = u) (hd : o.dst = none) (hr : (Instr.storeAt t v u).run P w = .ok () w') (hk : K a w') : o.wp P a w K Q :=
  wp_none (by simp [execOp, ho, hx, hy, hr]) hd hk
end
theorem exec_call {P : Program} {a : Act} {w : World} {o : Oper} (f : FuncId) {xs : Array Operand} {ts : Array TypeId} {args : Array Value} (ho : o.op = .call { callee := .value (.func f), args := xs, argTypes := ts }) (hx : xs.map a.eval = args)
    (hf : ∀ args w, (callFunc f args).run P w = .ok (.enter f args) w) : (execOp a.eval o).run P w = .ok (.enter f args) w := by
  subst hx
  simp [execOp, ho, resolve, invoke, Act.eval, Deferred.ofValue, hf]
/-- of the operations that have come up: what each has left in its slot; operation k writes slot s + k -/
def Tbl (s : Nat) (V : Nat → Option Value) (listed : Array Bool) (f : Nat → Value) : Prop := ∀ k v, listed.getD k false = true → V k = some v → f (s + k) = v
theorem Tbl.zero (s : Nat) (V : Nat → Option Value) (n : Nat) (f : Nat → Value) : Tbl s V (Array.replicate n false) f := fun k v h _ => by
  simp [Array.getElem?_replicate] at h
  split at h <;> simp at h
theorem Tbl.put {s : Nat} {V : Nat → Option Value} {listed : Array Bool} {f : Nat → Value} (h : Tbl s V listed f) {k : Nat} {v : Value} (hv : V k = some v) : Tbl s V (listed.setIfInBounds k true) (fun i => if i = s + k then v else f i) := fun j u hj hu => by
  by_cases e : j = k
  · subst e
    rw [hv] at hu
    simp at hu
    simp [hu]
  · rw [getD_set_other e] at hj
    have : ¬ s + j = s + k := by omega
    simp only [this, if_false]
    exact h j u hj hu
theorem Tbl.skip {s : Nat} {V : Nat → Option Value} {listed : Array Bool} {f : Nat → Value} (h : Tbl s V listed f) {k : Nat} (hv : V k = none) : Tbl s V (listed.setIfInBounds k true) f := fun j u hj hu => by
  by_cases e : j = k
  · subst e
    rw [hv] at hu
    cases hu
  · rw [getD_set_other e] at hj
    exact h j u hj hu
end Go.Proofs.YtpifbmcgadjhbaaGreatDoor
