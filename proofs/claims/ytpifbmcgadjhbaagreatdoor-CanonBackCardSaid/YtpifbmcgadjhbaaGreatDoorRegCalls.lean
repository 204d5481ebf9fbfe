/-
  A region that draws its order, in which each operation leaves something in a slot of its own and otherwise only lays more memory: calls, loads, moves.
-/
import Derived.Test.YtpifbmcgadjhbaaGreatDoorRegInv
namespace Go.Proofs.YtpifbmcgadjhbaaGreatDoor
open Go.RowKit

theorem lt_of_listed {l : Array Bool} {k : Nat} (h : l.getD k false = true) : k < l.size := by
  rcases Nat.lt_or_ge k l.size with h' | h'
  · exact h'
  · simp [h'] at h
/-- THE RULE: F k tells what operation k leaves; it stands in later worlds too. -/
theorem wp_region_calls {P : Program} {ops : Array Oper} {Q : Exit → Act → World → Prop} {A : Act} {id : Nat} {w : World} (hm : P.follows .mixedOrders = true) (T : List (Option Tmp × Op × List Nat))
    (hkey : ops.toList.map keyOf = T.map fun x => (x.1, x.2.1, true, x.2.2)) (hlow : (List.range ops.size).all (fun i => match ops[i]? with | some o => o.after.all (fun e => !Region.binds .any e || decide (e.on < i)) | none => true) = true)
    (p : Nat → Bool) (D : Nat → Nat) (hD : ∀ k x, T[k]? = some x → x.1 = some (D k) ∧ p (D k) = true ∧ D k < A.tmps.size) (hinj : ∀ i j, i < T.length → j < T.length → D i = D j → i = j)
    (F : Nat → World → Value → Prop) (hF : ∀ k u u' v, Below u.heap.size u u' → F k u v → F k u' v)
    (step : ∀ k x a u, T[k]? = some x → Below w.heap.size w u → (∀ j, p j = false → a.eval (.tmp j) = A.eval (.tmp j)) → (∀ n, n ∈ x.2.2 → F n u (a.eval (.tmp (D n)))) → ∀ o : Oper, o.dst = x.1 → o.op = x.2.1 →
      o.wp P a u (fun a' u' => ∃ v, a' = a.put o.dst v ∧ F k u' v ∧ Below u.heap.size u u') Q)
    (fin : ∀ f u, (∀ k, k < T.length → F k u (f (D k))) → Below w.heap.size w u → Q .normal (putR A p f) u) : (Code.region id ops true).wp P Q A w := by
  refine wp_region_tab hm T hkey hlow p (fun listed f u => listed.size = T.length ∧ (∀ k, listed.getD k false = true → F k u (f (D k))) ∧ Below w.heap.size w u) ?_ ?_ ?_
  · refine ⟨by simp, fun k h => ?_, (Below.refl _ _).drew⟩
    have hk := lt_of_listed h
    simp at hk
    simp [hk] at h
  · intro listed f u i x hI hx hun hdep o hd hop
    obtain ⟨hs, hV, hb⟩ := hI
    have hin (n : Nat) (hn : n < T.length) : (putR A p f).eval (.tmp (D n)) = f (D n) := by
      obtain ⟨_, h1, h2⟩ := hD n T[n] (List.getElem?_eq_getElem hn)
      exact putR_in A p f (D n) h1 h2
    have hil : i < T.length := (List.getElem?_eq_some_iff.1 hx).1
    refine Oper.wp_mono (fun a' u' ⟨v, ha, hv, hb'⟩ => ?_) (step i x (putR A p f) u hx hb (fun j hj => putR_out _ _ _ j hj) (fun n hn => ?_) o hd hop)
    · have hl := hdep n hn
      have hnl : n < T.length := by rw [← hs]; exact lt_of_listed hl
      rw [hin n hnl]
      exact hV n hl
    · refine ⟨fun j => if j = D i then v else f j, ?_, by simpa using hs, fun k hk => ?_, hb.trans (hb'.mono hb.size)⟩
      · rw [ha, hd, (hD i x hx).1]
        exact putR_put _ _ _ _ _ (hD i x hx).2.1
      · by_cases e : k = i
        · subst e
          simp only [if_true]
          exact hv
        · have hk2 : listed.getD k false = true := by rwa [getD_set_other e] at hk
          have hk3 : k < T.length := by rw [← hs]; exact lt_of_listed hk2
          have hne : ¬ D k = D i := fun h => e (hinj k i hk3 hil h)
          simp only [hne, if_false]
          exact hF k u u' _ hb' (hV k hk2)
  · intro listed f u hI hall
    obtain ⟨hs, hV, hb⟩ := hI
    exact fin f u (fun k hk => hV k (hall k hk)) hb
section
variable {P : Program} {Q : Exit → Act → World → Prop} {a : Act} {w : World} {o : Oper} {F : World → Value → Prop}
/-- an operation that leaves v and the world as it was -/
theorem rc_val {v : Value} (h : (execOp a.eval o).run P w = .ok (.value v) w) (hv : F w v) : o.wp P a w (fun a' u' => ∃ v, a' = a.put o.dst v ∧ F u' v ∧ Below w.heap.size w u') Q :=
  wp_val h ⟨v, rfl, hv, Below.refl _ _⟩
theorem rc_move {x : Operand} {v : Value} (ho : o.op = .move x) (hx : a.eval x = v) (hv : F w v) : o.wp P a w (fun a' u' => ∃ v, a' = a.put o.dst v ∧ F u' v ∧ Below w.heap.size w u') Q :=
  rc_val (by simp [execOp, ho, hx]) hv
theorem rc_assign {x : Operand} {v : Value} (ho : o.op = .assign x) (hx : a.eval x = v) (hv : F w v) : o.wp P a w (fun a' u' => ∃ v, a' = a.put o.dst v ∧ F u' v ∧ Below w.heap.size w u') Q :=
  rc_val (by simp [execOp, ho, hx]) hv
theorem rc_load {x : Operand} {t : TypeId} {v u : Value} (ho : o.op = .load t x) (hx : a.eval x = v) (hr : (Instr.loadAt t v).run P w = .ok u w) (hv : F w u) : o.wp P a w (fun a' u' => ∃ v, a' = a.put o.dst v ∧ F u' v ∧ Below w.heap.size w u') Q :=
  rc_val (by simp [execOp, ho, hx, hr]) hv
/-- a call of a function by its name -/
theorem rc_call (f : FuncId) {xs : Array Operand} {ts : Array TypeId} {args : Array Value} (ho : o.op = .call { callee := .value (.func f), args := xs, argTypes := ts }) (hx : xs.map a.eval = args)
    (hf : ∀ args w, (callFunc f args).run P w = .ok (.enter f args) w) (hc : Calls P f args w fun e w' => ∃ v, e = .returned v ∧ F w' v ∧ Below w.heap.size w w') :
    o.wp P a w (fun a' u' => ∃ v, a' = a.put o.dst v ∧ F u' v ∧ Below w.heap.size w u') Q := by
  unfold Oper.wp
  rw [exec_call f ho hx hf, Oper.upon_enter]
  refine hc.mono fun e w' ⟨v, he, hr⟩ => ?_
  subst he
  exact ⟨v, rfl, hr⟩
end
end Go.Proofs.YtpifbmcgadjhbaaGreatDoor
