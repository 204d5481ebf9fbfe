/-
  'out.Items = append(out.Items, Copy(x))', in a region that draws its order: what such a statement leaves.
-/
import Derived.Test.YtcmalaabggohmaaValOwn
namespace Go.Proofs.Ytcmalaabggohmaa
open Go.RowKit

/-- the operations -/
def TCp (s ot xt : Nat) : List (Option Tmp × Op × List Nat) :=
  [(some s, .fieldAddr 25 (.tmp ot) 4, []), (some (s + 1), .load 23 (.tmp s), [0]), (some (s + 2), .load 25 (.tmp xt), []),
  (some (s + 3), .call { callee := .value (.func 23), args := #[.tmp (s + 2)], argTypes := #[25] }, [2]),
  (some (s + 4), .buildSlice 23 1 #[(0, .tmp (s + 3))], [3]),
  (some (s + 5), .call { callee := .builtin .append, args := #[.tmp (s + 1), .tmp (s + 4)], argTypes := #[23, 23] }, [1, 4, 3]),
  (some (s + 6), .fieldAddr 25 (.tmp ot) 4, [0, 1, 2, 3, 4, 5]), (none, .store 23 (.tmp (s + 6)) (.tmp (s + 5)), [6, 5, 5, 0, 1, 2, 3, 4, 5])]
def VCp (fo vo xv u bs v' : Value) : Nat → Option Value
  | 0 => some fo | 1 => some vo | 2 => some xv | 3 => some u | 4 => some bs | 5 => some v' | 6 => some fo | _ => none
def pCp (s : Nat) : Nat → Bool := fun i => decide (s ≤ i) && decide (i ≤ s + 6)
/-- where the world stands -/
def WCp (w1 : World) (R : Value → World → Prop) (B2 : Value → World → World) (Post : Value → World → Value → World → Prop) (Fin : Value → World → Value → World → Prop) (u : Value) (w2 : World) (v' : Value) (listed : Array Bool) (w : World) : Prop :=
  (listed.getD 3 false = false → w = w1.drew) ∧ (listed.getD 3 false = true → R u w2 ∧ (listed.getD 4 false = false → w = w2)) ∧ (listed.getD 4 false = true → listed.getD 5 false = false → w = B2 u w2) ∧
  (listed.getD 5 false = true → listed.getD 7 false = false → Post u w2 v' w) ∧ (listed.getD 7 false = true → Fin u w2 v' w)
theorem WCp.keep {w1 : World} {R : Value → World → Prop} {B2 : Value → World → World} {Post Fin : Value → World → Value → World → Prop} {u : Value} {w2 : World} {v' : Value} {listed : Array Bool} {w : World} (h : WCp w1 R B2 Post Fin u w2 v' listed w)
    {k : Nat} (h3 : 3 ≠ k) (h4 : 4 ≠ k) (h5 : 5 ≠ k) (h7 : 7 ≠ k) : WCp w1 R B2 Post Fin u w2 v' (listed.setIfInBounds k true) w := by
  unfold WCp at *
  rw [getD_set_other h3, getD_set_other h4, getD_set_other h5, getD_set_other h7]
  exact h
section
variable {s ot xt : Nat} {listed : Array Bool}
theorem cp_4 (h : Closed (TCp s ot xt) listed) (h4 : listed.getD 4 false = true) : listed.getD 3 false = true ∧ listed.getD 2 false = true := by
  have h3 := h 4 _ rfl h4 3 (by simp)
  exact ⟨h3, h 3 _ rfl h3 2 (by simp)⟩
theorem cp_5 (h : Closed (TCp s ot xt) listed) (h5 : listed.getD 5 false = true) : listed.getD 4 false = true ∧ listed.getD 1 false = true ∧ listed.getD 0 false = true := by
  have h1 := h 5 _ rfl h5 1 (by simp)
  exact ⟨h 5 _ rfl h5 4 (by simp), h1, h 1 _ rfl h1 0 (by simp)⟩
theorem cp_7 (h : Closed (TCp s ot xt) listed) (h7 : listed.getD 7 false = true) : listed.getD 5 false = true := h 7 _ rfl h7 5 (by simp)
theorem unlisted {l : Array Bool} {k : Nat} (h : l.getD k true = false) : l.getD k false = false := by
  rcases e : l.getD k false with _ | _
  · rfl
  · exact (not_of_unlisted h e).elim
theorem not_t {b : Bool} (h : b = false) (h2 : b = true) : False := by rw [h] at h2; cases h2
theorem nt {b : Bool} (h : ¬ b = true) : b = false := Bool.eq_false_iff.2 h
end
set_option maxHeartbeats 2000000 in
set_option maxRecDepth 100000 in
theorem region_copy {ops : Array Oper} {Q : Exit → Act → World → Prop} {A : Act} {id : Nat} {w1 : World} (s ot xt : Nat)
    (hkey : ops.toList.map keyOf = (TCp s ot xt).map fun x => (x.1, x.2.1, true, x.2.2)) (hlow : (List.range ops.size).all (fun i => match ops[i]? with | some o => o.after.all (fun e => !Region.binds .any e || decide (e.on < i)) | none => true) = true)
    (hsz : s + 6 < A.tmps.size) (hot : ot < s) (hxt : xt < s)
    {B ob xb : Nat} {a0 a1 a2 a3 v c0 c1 c2 c3 c4 : Value} {n : Nat} {xs : List Value} {y : JV}
    (eo : A.eval (.tmp ot) = .pointer (some ⟨ob, 0, none⟩)) (ex : A.eval (.tmp xt) = .pointer (some ⟨xb, 0, none⟩))
    (hO : VAt ob w1 a0 a1 a2 a3 v) (hX : VAt xb w1 c0 c1 c2 c3 c4)
    (cC : Calls Try.prog 23 #[.agg #[c0, c1, c2, c3, c4]] w1.drew fun e w' => (∃ u, e = .returned u ∧ HO w1.heap.size w' u y) ∧ Below w1.heap.size w1 w')
    (hown : w1.ownsRow B 25 5 v n xs) (hB : B ≤ w1.heap.size) (hob : ob < B) (hn : n + 1 ≤ 90000)
    (fin : ∀ (f : Nat → Value) v' w' d0 d1 d2 d3 d4, VAt ob w' a0 a1 a2 a3 v' → w'.ownsRow B 25 5 v' (n + 1) (xs ++ [d0, d1, d2, d3, d4]) → HCp (fun b => w1.heap.size ≤ b ∧ some b ≠ v'.ownBlock) w' [d0, d1, d2, d3, d4] y → Kb ob v.ownBlock w1 w' →
      (v'.ownBlock = v.ownBlock ∨ ∃ g, v'.ownBlock = some g ∧ w1.heap.size ≤ g) → Q .normal (putR A (pCp s) f) w') :
    (Code.region id ops true).wp Try.prog Q A w1 := by
  obtain ⟨i0, hi0, hz0, hz1, hz2⟩ := info_parts info_val
  have b1 := below_drew w1
  have hlt : ob < w1.heap.size := (Array.getElem?_eq_some_iff.1 hO).1
  have hrow : ∀ k, v.ownBlock = some k → B ≤ k ∧ k < w1.heap.size := fun k e => hown.lt k e
  let R : Value → World → Prop := fun u w' => HO w1.heap.size w' u y ∧ Below w1.heap.size w1 w'
  let cs : Value → Array Value := fun u => match u with | .agg cs => cs | _ => #[]
  let B2 : Value → World → World := fun u w2 => w2.alloc (.cells (cs u) 25)
  let Post : Value → World → Value → World → Prop := fun u w2 v' w' => w'.ownsRow B 25 5 v' (n + 1) (xs ++ (cs u).toList) ∧ (B2 u w2).grownBy w' v.ownBlock ∧ (v'.ownBlock = v.ownBlock ∨ v'.ownBlock = some (B2 u w2).heap.size)
  let Fin : Value → World → Value → World → Prop := fun u w2 v' w' => VAt ob w' a0 a1 a2 a3 v' ∧ w'.ownsRow B 25 5 v' (n + 1) (xs ++ (cs u).toList) ∧ R u w2 ∧ Kb ob v.ownBlock w1 w' ∧ Kb ob v.ownBlock w2 w' ∧ (v'.ownBlock = v.ownBlock ∨ v'.ownBlock = some (B2 u w2).heap.size)
  have hRu : ∀ u w2, R u w2 → ∃ d0 d1 d2 d3 d4, u = .agg #[d0, d1, d2, d3, d4] ∧ HCp (fun b => w1.heap.size ≤ b) w2 [d0, d1, d2, d3, d4] y := fun u w2 h => by
    obtain ⟨cs, h1, h2⟩ := h.1.hcp
    obtain ⟨a, b, ca, cb, h3, _⟩ := h2.one
    subst h3
    exact ⟨_, _, _, _, _, h1, h2⟩
  have bB : ∀ u w2, R u w2 → Below w1.heap.size w1 (B2 u w2) := fun u w2 h => h.2.alloc h.2.size _
  have ldO : ∀ w, Below w1.heap.size w1 w → (Instr.loadAt 23 (.pointer (some ⟨ob, 4, none⟩))).run Try.prog w = .ok v w := fun w h => ld_one agg_items w ((hO.below h).cells.1.2.2.2.2)
  have ldX : (Instr.loadAt 25 (.pointer (some ⟨xb, 0, none⟩))).run Try.prog w1.drew = .ok (.agg #[c0, c1, c2, c3, c4]) w1.drew := ld_val _ fun j u hj => by
    obtain ⟨⟨p0, p1, p2, p3, p4⟩, _⟩ := (hX.below b1).cells
    rw [Nat.zero_add]
    rcases j with _ | _ | _ | _ | _ | j
    all_goals simp only [List.getElem?_cons_zero, List.getElem?_cons_succ, List.getElem?_nil, Option.some.injEq, reduceCtorEq] at hj
    all_goals subst hj
    all_goals assumption
  have hdr : w1.drew.heap.size = w1.heap.size := rfl
  refine wp_region_tab (by kernel_rfl) (TCp s ot xt) hkey hlow (pCp s) (fun listed f w => listed.size = 8 ∧ Closed (TCp s ot xt) listed ∧ ∃ u w2 v', Tbl s (VCp (.pointer (some ⟨ob, 4, none⟩)) v (.agg #[c0, c1, c2, c3, c4]) u (.slice (some ⟨w2.heap.size, 0, none⟩) 1 1) v') listed f ∧ WCp w1 R B2 Post Fin u w2 v' listed w) ?_ ?_ ?_
  · exact ⟨rfl, Closed.zero _ _, .int .i64 0, w1, .int .i64 0, Tbl.zero _ _ _ _, fun _ => rfl, fun h => (by simp [TCp] at h), fun h => (by simp [TCp] at h), fun h => (by simp [TCp] at h), fun h => (by simp [TCp] at h)⟩
  · intro listed f w i x hI hy hun hdep o hd hop
    obtain ⟨hs, hC, u, w2, v', hT, hW⟩ := hI
    have hC' := hC.set hy hdep
    have PO (j : Nat) (hj : j < s) : (putR A (pCp s) f).eval (.tmp j) = A.eval (.tmp j) := putR_out _ _ _ j (by unfold pCp; simp; omega)
    have EV (k : Nat) (z : Value) (hk : k ≤ 6) (hl : listed.getD k false = true) (hv : VCp (.pointer (some ⟨ob, 4, none⟩)) v (.agg #[c0, c1, c2, c3, c4]) u (.slice (some ⟨w2.heap.size, 0, none⟩) 1 1) v' k = some z) : (putR A (pCp s) f).eval (.tmp (s + k)) = z :=
      (putR_in A (pCp s) f (s + k) (by unfold pCp; simp; omega) (by omega)).trans (hT k z hl hv)
    have fin1 (k : Nat) (z : Value) (hk : k ≤ 6) (hC' : Closed (TCp s ot xt) (listed.setIfInBounds k true)) (hv : VCp (.pointer (some ⟨ob, 4, none⟩)) v (.agg #[c0, c1, c2, c3, c4]) u (.slice (some ⟨w2.heap.size, 0, none⟩) 1 1) v' k = some z) (ho : o.dst = some (s + k)) (w3 : World) (hW3 : WCp w1 R B2 Post Fin u w2 v' (listed.setIfInBounds k true) w3) :
        ∃ f', (putR A (pCp s) f).put o.dst z = putR A (pCp s) f' ∧ (listed.setIfInBounds k true).size = 8 ∧ Closed (TCp s ot xt) (listed.setIfInBounds k true) ∧ ∃ u w2 v', Tbl s (VCp (.pointer (some ⟨ob, 4, none⟩)) v (.agg #[c0, c1, c2, c3, c4]) u (.slice (some ⟨w2.heap.size, 0, none⟩) 1 1) v') (listed.setIfInBounds k true) f' ∧ WCp w1 R B2 Post Fin u w2 v' (listed.setIfInBounds k true) w3 :=
      ⟨_, by rw [ho]; exact putR_put _ _ _ (s + k) _ (by unfold pCp; simp; omega), by simpa using hs, hC', u, w2, v', hT.put hv, hW3⟩
    -- ahead of the append: nothing that was there has turned
    have AB (h5 : listed.getD 5 false = false) : Below w1.heap.size w1 w := by
      rcases e3 : listed.getD 3 false with _ | _
      · rw [hW.1 e3]; exact b1
      · obtain ⟨hR, h4⟩ := hW.2.1 e3
        rcases e4 : listed.getD 4 false with _ | _
        · rw [h4 e4]; exact hR.2
        · rw [hW.2.2.1 e4 h5]; exact bB _ _ hR
    rcases i with _ | _ | _ | _ | _ | _ | _ | _ | i
    all_goals simp only [TCp, List.getElem?_cons_zero, List.getElem?_cons_succ, List.getElem?_nil, Option.some.injEq, reduceCtorEq] at hy
    all_goals subst hy
    · exact op_field hop ((PO ot hot).trans eo) (fld4 ob w) (fin1 0 _ (by omega) hC' rfl hd w (hW.keep (by decide) (by decide) (by decide) (by decide)))
    · have h5 : listed.getD 5 false = false := nt fun h => not_of_unlisted hun (cp_5 hC h).2.1
      exact op_load hop (EV 0 _ (by omega) (hdep 0 (by simp)) rfl) (ldO w (AB h5)) (fin1 1 _ (by omega) hC' rfl hd w (hW.keep (by decide) (by decide) (by decide) (by decide)))
    · have h3 : listed.getD 3 false = false := nt fun h => not_of_unlisted hun (hC 3 _ rfl h 2 (by simp))
      obtain rfl := hW.1 h3
      exact op_load hop ((PO xt hxt).trans ex) ldX (fin1 2 _ (by omega) hC' rfl hd _ (hW.keep (by decide) (by decide) (by decide) (by decide)))
    · have h3 := unlisted hun
      obtain rfl := hW.1 h3
      have h4 : listed.getD 4 false = false := nt fun h => not_t h3 (cp_4 hC h).1
      have h5 : listed.getD 5 false = false := nt fun h => not_t h4 (cp_5 hC h).1
      have h7 : listed.getD 7 false = false := nt fun h => not_t h5 (cp_7 hC h)
      have hx2 := EV 2 _ (by omega) (hdep 2 (by simp)) rfl
      have hex := exec_call (P := Try.prog) (a := putR A (pCp s) f) (w := w1.drew) 23 (args := #[.agg #[c0, c1, c2, c3, c4]]) hop (by simp only [List.map_toArray, List.map_cons, List.map_nil, hx2]) (fun args w => by kernel_rfl)
      unfold Oper.wp
      rw [hex, Oper.upon_enter]
      refine cC.mono fun e w' ⟨⟨u2, he, h1⟩, h2⟩ => ?_
      subst he
      have hT2 : Tbl s (VCp (.pointer (some ⟨ob, 4, none⟩)) v (.agg #[c0, c1, c2, c3, c4]) u2 (.slice (some ⟨w'.heap.size, 0, none⟩) 1 1) v') listed f := fun k z hl hv => hT k z hl (by
        rcases k with _ | _ | _ | _ | _ | _ | _ | k
        all_goals first | exact hv | (exact (not_t h3 hl).elim) | (exact (not_t h4 hl).elim) | (exact (not_t h5 hl).elim))
      refine ⟨_, by rw [hd]; exact putR_put _ _ _ (s + 3) _ (by unfold pCp; simp), by simpa using hs, hC', u2, w', v', hT2.put rfl, fun h => ?_, fun _ => ⟨⟨h1, h2⟩, fun _ => rfl⟩, fun h => ?_, fun h => ?_, fun h => ?_⟩
      · rw [getD_set_self (by omega)] at h; cases h
      · rw [getD_set_other (by decide)] at h; exact (not_t h4 h).elim
      · rw [getD_set_other (by decide)] at h; exact (not_t h5 h).elim
      · rw [getD_set_other (by decide)] at h; exact (not_t h7 h).elim
    · have h4 := unlisted hun
      have h3 := hdep 3 (by simp)
      have h5 : listed.getD 5 false = false := nt fun h => not_t h4 (cp_5 hC h).1
      have h7 : listed.getD 7 false = false := nt fun h => not_t h5 (cp_7 hC h)
      obtain ⟨hR, hw⟩ := hW.2.1 h3
      obtain rfl := hw h4
      obtain ⟨d0, d1, d2, d3, d4, hu, hP⟩ := hRu u w hR
      subst hu
      have hx3 := EV 3 _ (by omega) h3 rfl
      refine wp_buildSlice 23 25 1 _ hop #[d0, d1, d2, d3, d4] i0 _ Try.underlying23 hi0 hz0 (by rw [hz1]; decide) (by rw [hz1]; decide) ?_ ?_
      · rw [hz1, show (#[(0, Operand.tmp (s + 3))].map fun x : Nat × Operand => (x.1, (putR A (pCp s) f).eval x.2)).toList = [(0, Value.agg #[d0, d1, d2, d3, d4])] by simp [hx3]]
        exact fill_val d0 d1 d2 d3 d4
      · refine fin1 4 _ (by omega) hC' rfl hd _ ⟨fun h => ?_, fun _ => ⟨hR, fun h => ?_⟩, fun _ _ => rfl, fun h => ?_, fun h => ?_⟩
        · rw [getD_set_other (by decide)] at h; exact (not_t h h3).elim
        · rw [getD_set_self (by omega)] at h; cases h
        · rw [getD_set_other (by decide)] at h; exact (not_t h5 h).elim
        · rw [getD_set_other (by decide)] at h; exact (not_t h7 h).elim
    · have h5 := unlisted hun
      have h4 := hdep 4 (by simp)
      have h3 := hdep 3 (by simp)
      have h7 : listed.getD 7 false = false := nt fun h => not_t h5 (cp_7 hC h)
      obtain ⟨hR, _⟩ := hW.2.1 h3
      obtain rfl := hW.2.2.1 h4 h5
      obtain ⟨d0, d1, d2, d3, d4, hu, hP⟩ := hRu u w2 hR
      subst hu
      have hown2 : (w2.alloc (.cells #[d0, d1, d2, d3, d4] 25)).ownsRow B 25 5 v n xs := (own_stay hown fun b hb => hR.2.block b (hrow b hb).2).alloc _
      obtain ⟨ya, yb, yca, ycb, hcs, _⟩ := hP.one
      simp only [List.cons.injEq, and_true] at hcs
      obtain ⟨e0, e1, e2, e3, e4⟩ := hcs
      have hone : ∀ u ∈ [d0, d1, d2, d3, d4], u.oneCell' = true := fun u hu => by
        simp only [List.mem_cons, List.not_mem_nil, or_false] at hu
        rcases hu with rfl | rfl | rfl | rfl | rfl
        · rw [e0]; rfl
        · rw [e1]; rfl
        · rw [e2]; rfl
        · rw [e3]; rfl
        · rw [e4]; rfl
      obtain ⟨v2, w', hr, g1, g2, _, g4⟩ := run_append_own_at (P := Try.prog) (w2.alloc (.cells #[d0, d1, d2, d3, d4] 25)) B 23 o.type 25 i0 (.agg V5) 5 80 Try.underlying23 hi0 hz0 hz1 hz2 rfl (by decide) v n xs hown2 ⟨w2.heap.size, 0, none⟩ 1 1 [d0, d1, d2, d3, d4] rfl
        (World.news_of_block (cs := #[d0, d1, d2, d3, d4]) (t := 25) (fr := (0, 0)) (heap_alloc_new w2 _)) hone (by unfold maxLen; omega) (by omega) (by have := hR.2.size; simp; omega)
      have hx1 := EV 1 _ (by omega) (hdep 1 (by simp)) rfl
      have hx4 := EV 4 _ (by omega) h4 rfl
      refine wp_val (v := v2) (w' := w') (by simp [execOp, hop, resolve, invoke, builtin, hx1, hx4, B2, cs, hr]) ?_
      have hT2 : Tbl s (VCp (.pointer (some ⟨ob, 4, none⟩)) v (.agg #[c0, c1, c2, c3, c4]) (.agg #[d0, d1, d2, d3, d4]) (.slice (some ⟨w2.heap.size, 0, none⟩) 1 1) v2) listed f := fun k z hl hv => hT k z hl (by
        rcases k with _ | _ | _ | _ | _ | _ | _ | k
        all_goals first | exact hv | (exact (not_t h5 hl).elim))
      refine ⟨_, by rw [hd]; exact putR_put _ _ _ (s + 5) _ (by unfold pCp; simp), by simpa using hs, hC', .agg #[d0, d1, d2, d3, d4], w2, v2, hT2.put rfl, fun h => ?_, fun _ => ⟨hR, fun h => ?_⟩, fun _ h => ?_, fun _ _ => ⟨g1, g2, g4⟩, fun h => ?_⟩
      · rw [getD_set_other (by decide)] at h; exact (not_t h h3).elim
      · rw [getD_set_other (by decide)] at h; exact (not_t h h4).elim
      · rw [getD_set_self (by omega)] at h; cases h
      · rw [getD_set_other (by decide)] at h; exact (not_t h7 h).elim
    · exact op_field hop ((PO ot hot).trans eo) (fld4 ob w) (fin1 6 _ (by omega) hC' rfl hd w (hW.keep (by decide) (by decide) (by decide) (by decide)))
    · have h5 := hdep 5 (by simp)
      have h7 := unlisted hun
      have h4 := hdep 4 (by simp)
      have h3 := hdep 3 (by simp)
      obtain ⟨hR, _⟩ := hW.2.1 h3
      obtain ⟨g1, g2, g4⟩ := hW.2.2.2.1 h5 h7
      have bb := bB u w2 hR
      have hO' : VAt ob w a0 a1 a2 a3 v := (g2.block ob (Nat.lt_of_lt_of_le hlt bb.size) (fun e => by have := (hrow ob e.symm).1; omega)).trans (hO.below bb)
      obtain ⟨⟨_, _, _, _, q4⟩, qf⟩ := hO'.cells
      obtain ⟨pp, ll, kk, rfl⟩ : ∃ pp ll kk, v' = .slice pp ll kk := by
        rcases g1.2 with ⟨rfl, _⟩ | ⟨g, cap, _, rfl, _⟩
        · exact ⟨_, _, _, rfl⟩
        · exact ⟨_, _, _, rfl⟩
      have hk2 : ∀ k, k < w2.heap.size → k ≠ ob → some k ≠ v.ownBlock → (w.setCell ⟨ob, 4, none⟩ (.slice pp ll kk)).heap[k]? = w2.heap[k]? := fun k hk hne hg => by
        rw [heap_setCell_other w ⟨ob, 4, none⟩ k _ hne, g2.block k (by simp [B2]; omega) hg]
        exact Below.heap_alloc w2 _ k hk
      refine op_store hop (EV 6 _ (by omega) (hdep 6 (by simp)) rfl) (EV 5 _ (by omega) h5 rfl) hd (st_slice (by kernel_rfl) w q4 (qf 4)) ⟨f, rfl, by simpa using hs, hC', u, w2, _, hT.skip rfl, fun h => ?_, fun _ => ⟨hR, fun h => ?_⟩, fun _ h => ?_, fun _ h => ?_, fun _ => ⟨hO'.set4 _, ownsRow_setCell_below g1 hob _, hR, ?_, ?_, g4⟩⟩
      · rw [getD_set_other (by decide)] at h; exact (not_t h h3).elim
      · rw [getD_set_other (by decide)] at h; exact (not_t h h4).elim
      · rw [getD_set_other (by decide)] at h; exact (not_t h h5).elim
      · rw [getD_set_self (by omega)] at h; cases h
      · exact ⟨g2.os.trans bb.os, g2.tape.trans bb.tape, g2.output.trans bb.output, Nat.le_trans bb.size (by have := g2.size; simpa using this), fun k hk hne hg => (hk2 k (Nat.lt_of_lt_of_le hk hR.2.size) hne hg).trans (hR.2.block k hk)⟩
      · exact ⟨g2.os, g2.tape, g2.output, Nat.le_trans (show w2.heap.size ≤ (w2.alloc (.cells (cs u) 25)).heap.size by simp) (Nat.le_trans g2.size (by simp)), hk2⟩
  · intro listed f w hI hall
    obtain ⟨hs, hC, u, w2, v', hT, hW⟩ := hI
    obtain ⟨f1, f2, f3, f4, f5, f6⟩ := hW.2.2.2.2 (hall 7 (by show 7 < 8; omega))
    obtain ⟨d0, d1, d2, d3, d4, hu, hP⟩ := hRu u w2 f3
    subst hu
    refine fin f v' w d0 d1 d2 d3 d4 f1 f2 ?_ f4 ?_
    · refine HCp.stay (fun b hb hl => ⟨⟨hb, ?_⟩, f5.block b hl (by omega) fun e => by have := (hrow b e.symm).2; omega⟩) _ _ hP
      rcases f6 with e | e
      · rw [e]
        intro e2
        have := (hrow b e2.symm).2
        omega
      · rw [e]
        intro e2
        simp [B2] at e2
        omega
    · rcases f6 with e | e
      · exact .inl e
      · exact .inr ⟨_, e, by have := f3.2.size; simp [B2]; omega⟩
end Go.Proofs.Ytcmalaabggohmaa
