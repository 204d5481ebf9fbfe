/-
  'out.Items[at] = Copy(x)', in a region that draws its order: what it leaves.
-/
import Derived.Test.YtcmalaabggohmaaValIns
namespace Go.Proofs.Ytcmalaabggohmaa
open Go.RowKit

def TPut (s ot it xt : Nat) : List (Option Tmp × Op × List Nat) :=
  [(some s, .fieldAddr 25 (.tmp ot) 4, []), (some (s + 1), .load 23 (.tmp s), [0]), (some (s + 2), .move (.tmp it), []), (some (s + 3), .load 25 (.tmp xt), []),
  (some (s + 4), .call { callee := .value (.func 23), args := #[.tmp (s + 3)], argTypes := #[25] }, [3]),
  (some (s + 5), .indexAddr 23 (.tmp (s + 1)) (.tmp (s + 2)), [1, 2, 0, 1, 2, 3, 4]), (none, .store 25 (.tmp (s + 5)) (.tmp (s + 4)), [5, 4, 4, 0, 1, 2, 3, 4])]
def VPut (fo vo vi xv u px : Value) : Nat → Option Value
  | 0 => some fo | 1 => some vo | 2 => some vi | 3 => some xv | 4 => some u | 5 => some px | _ => none
def pPut (s : Nat) : Nat → Bool := fun i => decide (s ≤ i) && decide (i ≤ s + 5)
def WPut (w1 : World) (R : Value → World → Prop) (Fin : Value → World → World → Prop) (u : Value) (w2 : World) (listed : Array Bool) (w : World) : Prop :=
  (listed.getD 4 false = false → w = w1.drew) ∧ (listed.getD 4 false = true → R u w2 ∧ (listed.getD 6 false = false → w = w2)) ∧ (listed.getD 6 false = true → Fin u w2 w)
theorem WPut.keep {w1 : World} {R : Value → World → Prop} {Fin : Value → World → World → Prop} {u : Value} {w2 : World} {listed : Array Bool} {w : World} (h : WPut w1 R Fin u w2 listed w)
    {k : Nat} (h4 : 4 ≠ k) (h6 : 6 ≠ k) : WPut w1 R Fin u w2 (listed.setIfInBounds k true) w := by
  unfold WPut at *
  rw [getD_set_other h4, getD_set_other h6]
  exact h
theorem st_five (w : World) (g o : Nat) (cur : Array Value) (hg : w.heap[g]? = some (.cells cur 25 (0, 0))) (hl : o + 5 ≤ cur.size) (d0 d1 d2 d3 d4 : Value) (hone : ∀ u ∈ [d0, d1, d2, d3, d4], u.oneCell' = true) :
    (Instr.storeAt 25 (.pointer (some ⟨g, o, none⟩)) (.agg #[d0, d1, d2, d3, d4])).run Try.prog w = .ok () (w.setRow g (cur.toList.take o ++ [d0, d1, d2, d3, d4] ++ cur.toList.drop (o + 5)).toArray) := by
  have h := run_storeCells_at (P := Try.prog) g o 25 [d0, d1, d2, d3, d4] 0 cur w hg (by simpa using hl) hone
  simp only [Nat.add_zero, List.length_cons, List.length_nil, Nat.zero_add, Nat.reduceAdd] at h
  obtain ⟨i0, hi0, hz0, hz1, hz2⟩ := info_parts info_val
  simp [Instr.storeAt, Instr.sureAddr, storeVar, sizeOf, typeInfo, hi0, hz1, Value.cells, h]
theorem put_take (A N k : Nat) (L xs ds : List Value) (hL : N ≤ L.length) (hx : L.take N = xs) (hd : ds.length = k) (hA : A + k ≤ N) :
    (L.take A ++ ds ++ L.drop (A + k)).take N = xs.take A ++ ds ++ xs.drop (A + k) ∧ (L.take A ++ ds ++ L.drop (A + k)).length = L.length ∧ (xs.take A ++ ds ++ xs.drop (A + k)).length = N := by
  have h1 : (L.take A ++ ds).length = A + k := by rw [List.length_append, List.length_take]; omega
  have h0 : xs.length = N := by rw [← hx, List.length_take]; omega
  refine ⟨?_, ?_, ?_⟩
  · rw [List.take_append, h1, List.take_of_length_le (by omega), ← hx, List.take_take, List.drop_take]
    congr 3
    omega
  · rw [List.length_append, h1, List.length_drop]; omega
  · simp only [List.length_append, List.length_take, List.length_drop]; omega
set_option maxHeartbeats 2000000 in
set_option maxRecDepth 100000 in
theorem region_put {ops : Array Oper} {Q : Exit → Act → World → Prop} {A : Act} {id : Nat} {w1 : World} (s ot it xt : Nat)
    (hkey : ops.toList.map keyOf = (TPut s ot it xt).map fun x => (x.1, x.2.1, true, x.2.2)) (hlow : (List.range ops.size).all (fun i => match ops[i]? with | some o => o.after.all (fun e => !Region.binds .any e || decide (e.on < i)) | none => true) = true)
    (hsz : s + 5 < A.tmps.size) (hot : ot < s) (hit : it < s) (hxt : xt < s)
    {B ob xb : Nat} {a0 a1 a2 a3 c0 c1 c2 c3 c4 : Value} {g n cap p : Nat} {xs : List Value} {y : JV}
    (eo : A.eval (.tmp ot) = .pointer (some ⟨ob, 0, none⟩)) (ei : A.eval (.tmp it) = .int .i64 (p : Int)) (ex : A.eval (.tmp xt) = .pointer (some ⟨xb, 0, none⟩))
    (hO : VAt ob w1 a0 a1 a2 a3 (.slice (some ⟨g, 0, none⟩) n cap)) (hX : VAt xb w1 c0 c1 c2 c3 c4)
    (cC : Calls Try.prog 23 #[.agg #[c0, c1, c2, c3, c4]] w1.drew fun e w' => (∃ u, e = .returned u ∧ HO w1.heap.size w' u y) ∧ Below w1.heap.size w1 w')
    (hown : w1.ownsRow B 25 5 (.slice (some ⟨g, 0, none⟩) n cap) n xs) (hp : p < n)
    (fin : ∀ (f : Nat → Value) w' d0 d1 d2 d3 d4, w'.ownsRow B 25 5 (.slice (some ⟨g, 0, none⟩) n cap) n (xs.take (p * 5) ++ [d0, d1, d2, d3, d4] ++ xs.drop (p * 5 + 5)) → HCp (fun b => w1.heap.size ≤ b) w' [d0, d1, d2, d3, d4] y → w1.grownBy w' (some g) →
      Q .normal (putR A (pPut s) f) w') :
    (Code.region id ops true).wp Try.prog Q A w1 := by
  have b1 := below_drew w1
  have hlt : ob < w1.heap.size := (Array.getElem?_eq_some_iff.1 hO).1
  obtain ⟨hbg, cur, hg, hnc, hcm, hcs, htk⟩ : B ≤ g ∧ ∃ cur, w1.heap[g]? = some (.cells cur 25 (0, 0)) ∧ n ≤ cap ∧ cap ≤ maxLen ∧ cur.size = cap * 5 ∧ cur.toList.take (n * 5) = xs := by
    rcases hown.2 with ⟨h, _⟩ | ⟨g', cap', cur, h, h1, h2, h3, h4, h5, h6⟩
    · cases h
    · simp only [Value.slice.injEq, Option.some.injEq, Addr.mk.injEq, and_true, true_and] at h
      obtain ⟨rfl, rfl⟩ := h
      exact ⟨h1, cur, h2, h3, h4, h5, h6⟩
  have hgw : g < w1.heap.size := (Array.getElem?_eq_some_iff.1 hg).1
  let R : Value → World → Prop := fun u w' => HO w1.heap.size w' u y ∧ Below w1.heap.size w1 w'
  let cs : Value → List Value := fun u => match u with | .agg cs => cs.toList | _ => []
  let Fin : Value → World → World → Prop := fun u w2 w' => R u w2 ∧ w' = w2.setRow g (cur.toList.take (p * 5) ++ cs u ++ cur.toList.drop (p * 5 + 5)).toArray
  have hRu : ∀ u w2, R u w2 → ∃ d0 d1 d2 d3 d4, u = .agg #[d0, d1, d2, d3, d4] ∧ HCp (fun b => w1.heap.size ≤ b) w2 [d0, d1, d2, d3, d4] y := fun u w2 h => by
    obtain ⟨cs, h1, h2⟩ := h.1.hcp
    obtain ⟨a, b, ca, cb, h3, _⟩ := h2.one
    subst h3
    exact ⟨_, _, _, _, _, h1, h2⟩
  have ldO : ∀ w, Below w1.heap.size w1 w → (Instr.loadAt 23 (.pointer (some ⟨ob, 4, none⟩))).run Try.prog w = .ok (.slice (some ⟨g, 0, none⟩) n cap) w := fun w h => ld_one agg_items w ((hO.below h).cells.1.2.2.2.2)
  have ldX : (Instr.loadAt 25 (.pointer (some ⟨xb, 0, none⟩))).run Try.prog w1.drew = .ok (.agg #[c0, c1, c2, c3, c4]) w1.drew := ld_val _ fun j u hj => by
    obtain ⟨⟨p0, p1, p2, p3, p4⟩, _⟩ := (hX.below b1).cells
    rw [Nat.zero_add]
    rcases j with _ | _ | _ | _ | _ | j
    all_goals simp only [List.getElem?_cons_zero, List.getElem?_cons_succ, List.getElem?_nil, Option.some.injEq, reduceCtorEq] at hj
    all_goals subst hj
    all_goals assumption
  refine wp_region_tab (by kernel_rfl) (TPut s ot it xt) hkey hlow (pPut s) (fun listed f w => listed.size = 7 ∧ Closed (TPut s ot it xt) listed ∧ ∃ u w2, Tbl s (VPut (.pointer (some ⟨ob, 4, none⟩)) (.slice (some ⟨g, 0, none⟩) n cap) (.int .i64 (p : Int)) (.agg #[c0, c1, c2, c3, c4]) u (.pointer (some ⟨g, 0 + p * 5, none⟩))) listed f ∧ WPut w1 R Fin u w2 listed w) ?_ ?_ ?_
  · exact ⟨rfl, Closed.zero _ _, .int .i64 0, w1, Tbl.zero _ _ _ _, fun _ => rfl, fun h => (by simp [TPut] at h), fun h => (by simp [TPut] at h)⟩
  · intro listed f w i x hI hy hun hdep o hd hop
    obtain ⟨hs, hC, u, w2, hT, hW⟩ := hI
    have hC' := hC.set hy hdep
    have PO (j : Nat) (hj : j < s) : (putR A (pPut s) f).eval (.tmp j) = A.eval (.tmp j) := putR_out _ _ _ j (by unfold pPut; simp; omega)
    have EV (k : Nat) (z : Value) (hk : k ≤ 5) (hl : listed.getD k false = true) (hv : VPut (.pointer (some ⟨ob, 4, none⟩)) (.slice (some ⟨g, 0, none⟩) n cap) (.int .i64 (p : Int)) (.agg #[c0, c1, c2, c3, c4]) u (.pointer (some ⟨g, 0 + p * 5, none⟩)) k = some z) : (putR A (pPut s) f).eval (.tmp (s + k)) = z :=
      (putR_in A (pPut s) f (s + k) (by unfold pPut; simp; omega) (by omega)).trans (hT k z hl hv)
    have fin1 (k : Nat) (z : Value) (hk : k ≤ 5) (hC' : Closed (TPut s ot it xt) (listed.setIfInBounds k true)) (hv : VPut (.pointer (some ⟨ob, 4, none⟩)) (.slice (some ⟨g, 0, none⟩) n cap) (.int .i64 (p : Int)) (.agg #[c0, c1, c2, c3, c4]) u (.pointer (some ⟨g, 0 + p * 5, none⟩)) k = some z) (ho : o.dst = some (s + k)) (w3 : World) (hW3 : WPut w1 R Fin u w2 (listed.setIfInBounds k true) w3) :
        ∃ f', (putR A (pPut s) f).put o.dst z = putR A (pPut s) f' ∧ (listed.setIfInBounds k true).size = 7 ∧ Closed (TPut s ot it xt) (listed.setIfInBounds k true) ∧ ∃ u w2, Tbl s (VPut (.pointer (some ⟨ob, 4, none⟩)) (.slice (some ⟨g, 0, none⟩) n cap) (.int .i64 (p : Int)) (.agg #[c0, c1, c2, c3, c4]) u (.pointer (some ⟨g, 0 + p * 5, none⟩))) (listed.setIfInBounds k true) f' ∧ WPut w1 R Fin u w2 (listed.setIfInBounds k true) w3 :=
      ⟨_, by rw [ho]; exact putR_put _ _ _ (s + k) _ (by unfold pPut; simp; omega), by simpa using hs, hC', u, w2, hT.put hv, hW3⟩
    have C6 : listed.getD 6 false = true → ∀ k, k < 6 → listed.getD k false = true := fun h k hk => by
      have h5 := hC 6 _ rfl h 5 (by simp)
      rcases k with _ | _ | _ | _ | _ | _ | k
      · exact hC 6 _ rfl h 0 (by simp)
      · exact hC 6 _ rfl h 1 (by simp)
      · exact hC 6 _ rfl h 2 (by simp)
      · exact hC 6 _ rfl h 3 (by simp)
      · exact hC 6 _ rfl h 4 (by simp)
      · exact h5
      · omega
    have AB (h6 : listed.getD 6 false = false) : Below w1.heap.size w1 w := by
      rcases e4 : listed.getD 4 false with _ | _
      · rw [hW.1 e4]; exact b1
      · obtain ⟨hR, h4⟩ := hW.2.1 e4
        rw [h4 h6]; exact hR.2
    rcases i with _ | _ | _ | _ | _ | _ | _ | i
    all_goals simp only [TPut, List.getElem?_cons_zero, List.getElem?_cons_succ, List.getElem?_nil, Option.some.injEq, reduceCtorEq] at hy
    all_goals subst hy
    · exact op_field hop ((PO ot hot).trans eo) (fld4 ob w) (fin1 0 _ (by omega) hC' rfl hd w (hW.keep (by decide) (by decide)))
    · have h6 : listed.getD 6 false = false := nt fun h => not_of_unlisted hun (C6 h 1 (by omega))
      exact op_load hop (EV 0 _ (by omega) (hdep 0 (by simp)) rfl) (ldO w (AB h6)) (fin1 1 _ (by omega) hC' rfl hd w (hW.keep (by decide) (by decide)))
    · exact op_move hop ((PO it hit).trans ei) (fin1 2 _ (by omega) hC' rfl hd w (hW.keep (by decide) (by decide)))
    · have h4 : listed.getD 4 false = false := nt fun h => not_of_unlisted hun (hC 4 _ rfl h 3 (by simp))
      obtain rfl := hW.1 h4
      exact op_load hop ((PO xt hxt).trans ex) ldX (fin1 3 _ (by omega) hC' rfl hd _ (hW.keep (by decide) (by decide)))
    · have h4 := unlisted hun
      obtain rfl := hW.1 h4
      have h6 : listed.getD 6 false = false := nt fun h => not_t h4 (C6 h 4 (by omega))
      have h5 : listed.getD 5 false = false := nt fun h => not_t h4 (hC 5 _ rfl h 4 (by simp))
      have hx2 := EV 3 _ (by omega) (hdep 3 (by simp)) rfl
      have hex := exec_call (P := Try.prog) (a := putR A (pPut s) f) (w := w1.drew) 23 (args := #[.agg #[c0, c1, c2, c3, c4]]) hop (by simp only [List.map_toArray, List.map_cons, List.map_nil, hx2]) (fun args w => by kernel_rfl)
      unfold Oper.wp
      rw [hex, Oper.upon_enter]
      refine cC.mono fun e w' ⟨⟨u2, he, h1⟩, h2⟩ => ?_
      subst he
      have hT2 : Tbl s (VPut (.pointer (some ⟨ob, 4, none⟩)) (.slice (some ⟨g, 0, none⟩) n cap) (.int .i64 (p : Int)) (.agg #[c0, c1, c2, c3, c4]) u2 (.pointer (some ⟨g, 0 + p * 5, none⟩))) listed f := fun k z hl hv => hT k z hl (by
        rcases k with _ | _ | _ | _ | _ | _ | k
        all_goals first | exact hv | (exact (not_t h4 hl).elim))
      refine ⟨_, by rw [hd]; exact putR_put _ _ _ (s + 4) _ (by unfold pPut; simp), by simpa using hs, hC', u2, w', hT2.put rfl, fun h => ?_, fun _ => ⟨⟨h1, h2⟩, fun _ => rfl⟩, fun h => ?_⟩
      · rw [getD_set_self (by omega)] at h; cases h
      · rw [getD_set_other (by decide)] at h; exact (not_t h6 h).elim
    · have h1 := EV 1 _ (by omega) (hdep 1 (by simp)) rfl
      have h2 := EV 2 _ (by omega) (hdep 2 (by simp)) rfl
      exact wp_val (by simp only [execOp, hop, h1, h2]; simp [ix_items g 0 n cap p w hp]) (fin1 5 _ (by omega) hC' rfl hd w (hW.keep (by decide) (by decide)))
    · have h6 := unlisted hun
      have h4 := hdep 4 (by simp)
      obtain ⟨hR, hw⟩ := hW.2.1 h4
      obtain rfl := hw h6
      obtain ⟨d0, d1, d2, d3, d4, hu, hP⟩ := hRu u w hR
      subst hu
      obtain ⟨ya, yb, yca, ycb, hcs', _⟩ := hP.one
      simp only [List.cons.injEq, and_true] at hcs'
      obtain ⟨e0, e1, e2, e3, e4⟩ := hcs'
      have hone : ∀ u ∈ [d0, d1, d2, d3, d4], u.oneCell' = true := fun u hu => by
        simp only [List.mem_cons, List.not_mem_nil, or_false] at hu
        rcases hu with rfl | rfl | rfl | rfl | rfl
        · rw [e0]; rfl
        · rw [e1]; rfl
        · rw [e2]; rfl
        · rw [e3]; rfl
        · rw [e4]; rfl
      have hst := st_five w g (0 + p * 5) cur ((hR.2.block g hgw).trans hg) (by rw [hcs]; omega) d0 d1 d2 d3 d4 hone
      refine op_store hop (EV 5 _ (by omega) (hdep 5 (by simp)) rfl) (EV 4 _ (by omega) h4 rfl) hd hst ⟨f, rfl, by simpa using hs, hC', _, w, hT.skip rfl, fun h => ?_, fun _ => ⟨hR, fun h => ?_⟩, fun _ => ⟨hR, by rw [Nat.zero_add]⟩⟩
      · rw [getD_set_other (by decide)] at h; exact (not_t h h4).elim
      · rw [getD_set_self (by omega)] at h; cases h
  · intro listed f w hI hall
    obtain ⟨hs, hC, u, w2, hT, hW⟩ := hI
    obtain ⟨hR, hw⟩ := hW.2.2 (hall 6 (by show 6 < 7; omega))
    obtain ⟨d0, d1, d2, d3, d4, hu, hP⟩ := hRu u w2 hR
    subst hu
    have hcl : cur.toList.length = cap * 5 := by rw [Array.length_toList, hcs]
    obtain ⟨t1, t2, t3⟩ := put_take (p * 5) (n * 5) 5 cur.toList xs [d0, d1, d2, d3, d4] (by rw [hcl]; omega) htk rfl (by omega)
    have hg2 := (hR.2.block g hgw).trans hg
    have hR1 := setRow_heap w2 g cur (cur.toList.take (p * 5) ++ [d0, d1, d2, d3, d4] ++ cur.toList.drop (p * 5 + 5)).toArray _ _ hg2
    have hw' : w = w2.setRow g (cur.toList.take (p * 5) ++ [d0, d1, d2, d3, d4] ++ cur.toList.drop (p * 5 + 5)).toArray := hw
    rw [← hw'] at hR1
    refine fin f w d0 d1 d2 d3 d4 ⟨t3, .inr ⟨g, cap, _, rfl, hbg, hR1, hnc, hcm, by rw [List.size_toArray, t2, hcl], t1⟩⟩ (HCp.stay (fun b hb _ => ⟨hb, ?_⟩) _ _ hP) ⟨?_, ?_, ?_, ?_, fun k hk hne => ?_⟩
    · rw [hw']
      exact setRow_other w2 g b _ (by omega)
    · rw [hw']; exact hR.2.os
    · rw [hw']; exact hR.2.tape
    · rw [hw']; exact hR.2.output
    · rw [hw']; have := hR.2.size; simpa using this
    · have hkg : k ≠ g := fun e => hne (by rw [e])
      rw [hw', setRow_other w2 g k _ hkg]
      exact hR.2.block k hk
end Go.Proofs.Ytcmalaabggohmaa
