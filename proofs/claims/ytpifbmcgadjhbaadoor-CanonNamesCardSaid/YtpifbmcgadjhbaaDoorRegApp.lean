/-
  A region that draws its order and holds one append: 'x.F = append(x.F, y.F[i])', by an invariant: whatever the order, one end.
-/
import Derived.Test.YtpifbmcgadjhbaaDoorRegInv
namespace Go.Proofs.YtpifbmcgadjhbaaDoor
open Go.RowKit

/-- what an operation waits for has come up before it -/
def Closed (T : List (Option Tmp × Op × List Nat)) (listed : Array Bool) : Prop := ∀ k x, T[k]? = some x → listed.getD k false = true → ∀ n ∈ x.2.2, listed.getD n false = true
theorem Closed.set {T : List (Option Tmp × Op × List Nat)} {listed : Array Bool} {k : Nat} {x : Option Tmp × Op × List Nat} (h : Closed T listed) (hx : T[k]? = some x) (hd : ∀ n ∈ x.2.2, listed.getD n false = true) : Closed T (listed.setIfInBounds k true) := by
  have mono (j : Nat) (hj : listed.getD j false = true) : (listed.setIfInBounds k true).getD j false = true := by
    by_cases e : j = k
    · subst e
      by_cases hl : j < listed.size
      · exact getD_set_self hl
      · simp [hl] at hj
    · rw [getD_set_other e]; exact hj
  intro j y hy hj n hn
  by_cases e : j = k
  · subst e
    rw [hx] at hy
    obtain rfl : x = y := by simpa using hy
    exact mono n (hd n hn)
  · rw [getD_set_other e] at hj
    exact mono n (h j y hy hj n hn)
theorem Closed.zero (T : List (Option Tmp × Op × List Nat)) (n : Nat) : Closed T (Array.replicate n false) := fun k x _ h => by
  simp [Array.getElem?_replicate] at h
  split at h <;> simp at h
theorem not_of_unlisted {l : Array Bool} {j : Nat} (h1 : l.getD j true = false) (h2 : l.getD j false = true) : False := by
  by_cases hl : j < l.size
  · simp [hl] at h1 h2
    rw [h1] at h2; cases h2
  · simp [hl] at h2
/-- the operations of 'x.F = append(x.F, y.F[i])' -/
def TApp (s ot vt it fi : Nat) (S E tV : TypeId) : List (Option Tmp × Op × List Nat) :=
  [(some s, .fieldAddr tV (.tmp ot) fi, []), (some (s + 1), .load S (.tmp s), [0]), (some (s + 2), .fieldAddr tV (.tmp vt) fi, []), (some (s + 3), .load S (.tmp (s + 2)), [2]),
  (some (s + 4), .move (.tmp it), []), (some (s + 5), .indexAddr S (.tmp (s + 3)) (.tmp (s + 4)), [3, 4]), (some (s + 6), .load E (.tmp (s + 5)), [5]),
  (some (s + 7), .buildSlice S 1 #[(0, .tmp (s + 6))], [6]),
  (some (s + 8), .call { callee := .builtin .append, args := #[.tmp (s + 1), .tmp (s + 7)], argTypes := #[S, S] }, [1, 7]),
  (some (s + 9), .fieldAddr tV (.tmp ot) fi, [0, 1, 2, 3, 4, 5, 6, 7, 8]),
  (none, .store S (.tmp (s + 9)) (.tmp (s + 8)), [9, 8, 8, 0, 1, 2, 3, 4, 5, 6, 7, 8])]
def VApp (fo vo fv vs vi px x bs v' : Value) : Nat → Option Value
  | 0 => some fo | 1 => some vo | 2 => some fv | 3 => some vs | 4 => some vi | 5 => some px | 6 => some x | 7 => some bs | 8 => some v' | 9 => some fo | _ => none
def pApp (s : Nat) : Nat → Bool := fun i => decide (s ≤ i) && decide (i ≤ s + 9)
/-- where the world stands -/
def WApp (W1 W2 : World) (Post Fin : Value → World → Prop) (v' : Value) (listed : Array Bool) (w : World) : Prop :=
  (listed.getD 7 false = false → w = W1) ∧ (listed.getD 7 false = true → listed.getD 8 false = false → w = W2) ∧ (listed.getD 8 false = true → listed.getD 10 false = false → Post v' w) ∧ (listed.getD 10 false = true → Fin v' w)
theorem WApp.keep {W1 W2 : World} {Post Fin : Value → World → Prop} {v' : Value} {listed : Array Bool} {w : World} (h : WApp W1 W2 Post Fin v' listed w) {k : Nat} (h7 : 7 ≠ k) (h8 : 8 ≠ k) (h10 : 10 ≠ k) : WApp W1 W2 Post Fin v' (listed.setIfInBounds k true) w := by
  unfold WApp at *
  rw [getD_set_other h7, getD_set_other h8, getD_set_other h10]
  exact h
section
variable {s ot vt it fi : Nat} {S E tV : TypeId} {listed : Array Bool}
theorem app_8 (h : Closed (TApp s ot vt it fi S E tV) listed) (h8 : listed.getD 8 false = true) : ∀ k, k < 8 → listed.getD k false = true := by
  have h1 := h 8 _ rfl h8 1 (by simp)
  have h7 := h 8 _ rfl h8 7 (by simp)
  have h0 := h 1 _ rfl h1 0 (by simp)
  have h6 := h 7 _ rfl h7 6 (by simp)
  have h5 := h 6 _ rfl h6 5 (by simp)
  have h3 := h 5 _ rfl h5 3 (by simp)
  have h4 := h 5 _ rfl h5 4 (by simp)
  have h2 := h 3 _ rfl h3 2 (by simp)
  intro k hk
  rcases k with _ | _ | _ | _ | _ | _ | _ | _ | k
  all_goals first | assumption | omega
theorem app_10 (h : Closed (TApp s ot vt it fi S E tV) listed) (h10 : listed.getD 10 false = true) : listed.getD 8 false = true := h 10 _ rfl h10 8 (by simp)
theorem app_not8 (h : Closed (TApp s ot vt it fi S E tV) listed) {k : Nat} (hk : k < 8) (hun : listed.getD k true = false) : listed.getD 8 false = false := by
  rcases e : listed.getD 8 false with _ | _
  · rfl
  · exact (not_of_unlisted hun (app_8 h e k hk)).elim
end
set_option maxRecDepth 100000 in
theorem wp_region_app {P : Program} {ops : Array Oper} {Q : Exit → Act → World → Prop} {A : Act} {id : Nat} {w1 : World} (s ot vt it fi : Nat) (S E tV : TypeId) (hm : P.follows .mixedOrders = true)
    (hkey : ops.toList.map keyOf = (TApp s ot vt it fi S E tV).map fun x => (x.1, x.2.1, true, x.2.2)) (hlow : (List.range ops.size).all (fun i => match ops[i]? with | some o => o.after.all (fun e => !Region.binds .any e || decide (e.on < i)) | none => true) = true)
    (hsz : s + 9 < A.tmps.size) (hot : ot < s) (hvt : vt < s) (hit : it < s)
    (po pv fo vo fv vs vi px x bs : Value) (eo : A.eval (.tmp ot) = po) (ev : A.eval (.tmp vt) = pv) (ei : A.eval (.tmp it) = vi)
    (W2 : World)
    (r0 : ∀ w, (Instr.fieldAt tV po fi).run P w = .ok fo w)
    (r2 : ∀ w, (Instr.fieldAt tV pv fi).run P w = .ok fv w)
    (r1 : ∀ w, w = w1.drew ∨ w = W2 → (Instr.loadAt S fo).run P w = .ok vo w)
    (r3 : ∀ w, w = w1.drew ∨ w = W2 → (Instr.loadAt S fv).run P w = .ok vs w)
    (r5 : ∀ (o : Oper) (a : Act) (K : Act → World → Prop) w, w = w1.drew ∨ w = W2 → o.op = .indexAddr S (.tmp (s + 3)) (.tmp (s + 4)) → a.eval (.tmp (s + 3)) = vs → a.eval (.tmp (s + 4)) = vi → K (a.put o.dst px) w → o.wp P a w K Q)
    (r6 : ∀ w, w = w1.drew ∨ w = W2 → (Instr.loadAt E px).run P w = .ok x w)
    (r7 : ∀ (o : Oper) (a : Act) (K : Act → World → Prop), o.op = .buildSlice S 1 #[(0, .tmp (s + 6))] → a.eval (.tmp (s + 6)) = x → K (a.put o.dst bs) W2 → o.wp P a w1.drew K Q)
    (Post Fin : Value → World → Prop)
    (r8 : ∀ (o : Oper) (a : Act) (K : Act → World → Prop), o.op = .call { callee := .builtin .append, args := #[.tmp (s + 1), .tmp (s + 7)], argTypes := #[S, S] } → a.eval (.tmp (s + 1)) = vo → a.eval (.tmp (s + 7)) = bs → (∀ v' w', Post v' w' → K (a.put o.dst v') w') → o.wp P a W2 K Q)
    (r10 : ∀ v' w', Post v' w' → ∃ w'', (Instr.storeAt S fo v').run P w' = .ok () w'' ∧ Fin v' w'')
    (fin : ∀ (f : Nat → Value) v' w', Fin v' w' → Q .normal (putR A (pApp s) f) w') : (Code.region id ops true).wp P Q A w1 := by
  refine wp_region_tab hm (TApp s ot vt it fi S E tV) hkey hlow (pApp s) (fun listed f w => listed.size = 11 ∧ Closed (TApp s ot vt it fi S E tV) listed ∧ ∃ v', Tbl s (VApp fo vo fv vs vi px x bs v') listed f ∧ WApp w1.drew W2 Post Fin v' listed w) ?_ ?_ ?_
  · exact ⟨rfl, Closed.zero _ _, .int .i64 0, Tbl.zero _ _ _ _, fun _ => rfl, fun h => (by simp [TApp] at h), fun h => (by simp [TApp] at h), fun h => (by simp [TApp] at h)⟩
  · intro listed f w i y hI hy hun hdep o hd hop
    obtain ⟨hs, hC, v', hT, hW⟩ := hI
    have hC' := hC.set hy hdep
    have PO (j : Nat) (hj : j < s) : (putR A (pApp s) f).eval (.tmp j) = A.eval (.tmp j) := putR_out _ _ _ j (by unfold pApp; simp; omega)
    have EV (k : Nat) (v : Value) (hk : k ≤ 9) (hl : listed.getD k false = true) (hv : VApp fo vo fv vs vi px x bs v' k = some v) : (putR A (pApp s) f).eval (.tmp (s + k)) = v :=
      (putR_in A (pApp s) f (s + k) (by unfold pApp; simp; omega) (by omega)).trans (hT k v hl hv)
    have fin1 (k : Nat) (v : Value) (hk : k ≤ 9) (hC' : Closed (TApp s ot vt it fi S E tV) (listed.setIfInBounds k true)) (hv : VApp fo vo fv vs vi px x bs v' k = some v) (ho : o.dst = some (s + k)) (w3 : World) (hW3 : WApp w1.drew W2 Post Fin v' (listed.setIfInBounds k true) w3) :
        ∃ f', (putR A (pApp s) f).put o.dst v = putR A (pApp s) f' ∧ (listed.setIfInBounds k true).size = 11 ∧ Closed (TApp s ot vt it fi S E tV) (listed.setIfInBounds k true) ∧ ∃ v', Tbl s (VApp fo vo fv vs vi px x bs v') (listed.setIfInBounds k true) f' ∧ WApp w1.drew W2 Post Fin v' (listed.setIfInBounds k true) w3 :=
      ⟨_, by rw [ho]; exact putR_put _ _ _ (s + k) _ (by unfold pApp; simp; omega), by simpa using hs, hC', v', hT.put hv, hW3⟩
    have AB (k : Nat) (hk : k < 8) (hu : listed.getD k true = false) : w = w1.drew ∨ w = W2 := by
      have h8 := app_not8 hC hk hu
      rcases e : listed.getD 7 false with _ | _
      · exact .inl (hW.1 e)
      · exact .inr (hW.2.1 e h8)
    rcases i with _ | _ | _ | _ | _ | _ | _ | _ | _ | _ | _ | i
    all_goals simp only [TApp, List.getElem?_cons_zero, List.getElem?_cons_succ, List.getElem?_nil, Option.some.injEq, reduceCtorEq] at hy
    all_goals subst hy
    · exact op_field hop ((PO ot hot).trans eo) (r0 w) (fin1 0 _ (by omega) hC' rfl hd w (hW.keep (by decide) (by decide) (by decide)))
    · exact op_load hop (EV 0 _ (by omega) (hdep 0 (by simp)) rfl) (r1 w (AB 1 (by omega) hun)) (fin1 1 _ (by omega) hC' rfl hd w (hW.keep (by decide) (by decide) (by decide)))
    · exact op_field hop ((PO vt hvt).trans ev) (r2 w) (fin1 2 _ (by omega) hC' rfl hd w (hW.keep (by decide) (by decide) (by decide)))
    · exact op_load hop (EV 2 _ (by omega) (hdep 2 (by simp)) rfl) (r3 w (AB 3 (by omega) hun)) (fin1 3 _ (by omega) hC' rfl hd w (hW.keep (by decide) (by decide) (by decide)))
    · exact op_move hop ((PO it hit).trans ei) (fin1 4 _ (by omega) hC' rfl hd w (hW.keep (by decide) (by decide) (by decide)))
    · exact r5 o _ _ w (AB 5 (by omega) hun) hop (EV 3 _ (by omega) (hdep 3 (by simp)) rfl) (EV 4 _ (by omega) (hdep 4 (by simp)) rfl) (fin1 5 _ (by omega) hC' rfl hd w (hW.keep (by decide) (by decide) (by decide)))
    · exact op_load hop (EV 5 _ (by omega) (hdep 5 (by simp)) rfl) (r6 w (AB 6 (by omega) hun)) (fin1 6 _ (by omega) hC' rfl hd w (hW.keep (by decide) (by decide) (by decide)))
    · have h7 : listed.getD 7 false = false := by
        rcases e : listed.getD 7 false with _ | _
        · rfl
        · exact (not_of_unlisted hun e).elim
      have h8 := app_not8 hC (k := 7) (by omega) hun
      obtain rfl := hW.1 h7
      refine r7 o _ _ hop (EV 6 _ (by omega) (hdep 6 (by simp)) rfl) (fin1 7 _ (by omega) hC' rfl hd W2 ⟨fun h => ?_, fun _ _ => rfl, fun h => ?_, fun h => ?_⟩)
      · rw [getD_set_self (by omega)] at h; cases h
      · rw [getD_set_other (by decide), h8] at h; cases h
      · rw [getD_set_other (by decide)] at h
        rw [app_10 hC h] at h8; cases h8
    · have h7 := hdep 7 (by simp)
      have h8 : listed.getD 8 false = false := by
        rcases e : listed.getD 8 false with _ | _
        · rfl
        · exact (not_of_unlisted hun e).elim
      obtain rfl := hW.2.1 h7 h8
      refine r8 o _ _ hop (EV 1 _ (by omega) (hdep 1 (by simp)) rfl) (EV 7 _ (by omega) h7 rfl) fun v2 w' hp => ?_
      have hT2 : Tbl s (VApp fo vo fv vs vi px x bs v2) listed f := fun k v hl hv => hT k v hl (by
        rcases k with _ | _ | _ | _ | _ | _ | _ | _ | _ | _ | k
        all_goals first | exact hv | (rw [h8] at hl; cases hl))
      refine ⟨_, by rw [hd]; exact putR_put _ _ _ (s + 8) _ (by unfold pApp; simp), by simpa using hs, hC', v2, hT2.put rfl, fun h => ?_, fun _ h => ?_, fun _ _ => hp, fun h => ?_⟩
      · rw [getD_set_other (by decide), h7] at h; cases h
      · rw [getD_set_self (by omega)] at h; cases h
      · rw [getD_set_other (by decide)] at h
        rw [app_10 hC h] at h8; cases h8
    · exact op_field hop ((PO ot hot).trans eo) (r0 w) (fin1 9 _ (by omega) hC' rfl hd w (hW.keep (by decide) (by decide) (by decide)))
    · have h8 := hdep 8 (by simp)
      have h10 : listed.getD 10 false = false := by
        rcases e : listed.getD 10 false with _ | _
        · rfl
        · exact (not_of_unlisted hun e).elim
      obtain ⟨w'', hr, hf⟩ := r10 v' w (hW.2.2.1 h8 h10)
      refine op_store hop (EV 9 _ (by omega) (hdep 9 (by simp)) rfl) (EV 8 _ (by omega) h8 rfl) hd hr ⟨f, rfl, by simpa using hs, hC', v', hT.skip rfl, fun h => ?_, fun _ h => ?_, fun _ h => ?_, fun _ => hf⟩
      · rw [getD_set_other (by decide), hdep 7 (by simp)] at h; cases h
      · rw [getD_set_other (by decide), h8] at h; cases h
      · rw [getD_set_self (by omega)] at h; cases h
  · intro listed f w hI hall
    obtain ⟨hs, hC, v', hT, hW⟩ := hI
    exact fin f v' w (hW.2.2.2 (hall 10 (by show 10 < 11; omega)))
end Go.Proofs.YtpifbmcgadjhbaaDoor
