/-
  slices.Insert of one element where there is no room.
-/
import Derived.Test.YtcmalaabggohmaaValIns
namespace Go.Proofs.Ytcmalaabggohmaa
open Go.RowKit

theorem wpList_appV {P : Program} (w : World) {ops : Array Oper} {rest : List Oper} {o : Oper} {a : Act} {Q : Exit → Act → World → Prop} (hgd : o.guard = none) (s x : Operand) (t tn : TypeId)
    (ho : o.op = .call { callee := .builtin .append, args := #[s, x], argTypes := #[t, tn] }) (v u : Value) (hd : a.eval s = v) (hs : a.eval x = u) {v' : Value} {w' : World}
    (hr : (Builtin.append_ #[t, tn] o.type #[v, u]).run P w = .ok v' w') (h : wpList P ops Q rest (a.put o.dst v') w') : wpList P ops Q (o :: rest) a w :=
  wpList_plain hgd fun K hK => by
    unfold Oper.wp execOp
    simp only [ho, resolve, invoke, builtin, Sem.run_bind, Sem.run_pure, Result.andThen_ok, List.map_toArray, List.map_cons, List.map_nil, hd, hs, hr]
    exact hK _ _ h

set_option maxHeartbeats 4000000 in
set_option maxRecDepth 100000 in
/-- there is no room: a new row -/
theorem insert_names_grow (B n i g : Nat) (xs : List Value) (vb : Nat) (vs : List Value) (w : World) (hown : w.ownsRow B 9 1 (.slice (some ⟨g, 0, none⟩) n n) n xs) (hi : i < n) (hB : B ≤ w.heap.size) (hn : n + 1 ≤ 90000) (hone : ∀ u ∈ xs, u.oneCell' = true)
    (hvb : w.heap[vb]? = some (.cells vs.toArray 9 (0, 0))) (hvl : vs.length = 1) (h1v : ∀ u ∈ vs, u.oneCell' = true) :
    Calls Try.prog 44 #[.slice (some ⟨g, 0, none⟩) n n, .int .i64 (i : Int), .slice (some ⟨vb, 0, none⟩) 1 1] w fun e w' => (∃ v', e = .returned v' ∧ w'.ownsRow B 9 1 v' (n + 1) (xs.take (i * 1) ++ vs ++ xs.drop (i * 1)) ∧ (v'.ownBlock = some g ∨ v'.ownBlock = some w.heap.size)) ∧ w.grownBy w' (some g) := by
  obtain ⟨i0, hi0, hz0, hz1, hz2⟩ := info_parts info_name
  have hlen := hown.1
  obtain ⟨hb, cur, hg, hcs, htk⟩ : B ≤ g ∧ ∃ cur, w.heap[g]? = some (.cells cur 9 (0, 0)) ∧ cur.size = n * 1 ∧ cur.toList.take (n * 1) = xs := by
    rcases hown.2 with ⟨h, _⟩ | ⟨g', cap', cur, h, h1, h2, h3, h4, h5, h6⟩
    · cases h
    · simp only [Value.slice.injEq, Option.some.injEq, Addr.mk.injEq, and_true, true_and] at h
      obtain ⟨rfl, rfl⟩ := h
      exact ⟨h1, cur, h2, h5, h6⟩
  have hsz : (Try.prog.info? 9).map (·.size) = some 1 := by kernel_rfl
  have hA : i * 1 ≤ n * 1 := Nat.mul_le_mul_right _ (Nat.le_of_lt hi)
  have hdl : (xs.drop (i * 1)).length = (n - i) * 1 := by rw [List.length_drop, hlen, Nat.sub_mul]
  have hik : i + (n + 1 - i) = n + 1 := by omega
  have hkk : (n : Int) + 1 - (i : Int) = ((n + 1 - i : Nat) : Int) := by omega
  have hgw : g < w.heap.size := (Array.getElem?_eq_some_iff.1 hg).1
  have hvw : vb < w.heap.size := (Array.getElem?_eq_some_iff.1 hvb).1
  have hcell : ∀ j v, xs[j]? = some v → w.cell? ⟨g, j, none⟩ = some v := fun j v hj => by
    rw [cell_of_row w g _ cur _ (0, 0) hg]
    rw [← htk, List.getElem?_take] at hj
    split at hj
    · rw [← Array.getElem?_toList]; exact hj
    · cases hj
  have hold : (Builtin.firstCells i0.size i (.slice (some ⟨g, 0, none⟩) i n)).run Try.prog w.drew = .ok (xs.take (i * 1)).toArray w.drew := by
    rw [hz1]
    refine run_firstCells_some w.drew 1 i ⟨g, 0, none⟩ i n (xs.take (i * 1)) (by rw [List.length_take]; omega) (fun j v hj => ?_)
    rw [plain_add, Nat.zero_add]
    rw [List.getElem?_take] at hj
    split at hj
    · exact hcell j v hj
    · cases hj
  obtain ⟨G, hG⟩ : ∃ G, G = grownCap w (n + 1) n 9 := ⟨_, rfl⟩
  have hGn : n + 1 ≤ G := by rw [hG]; exact grownCap_ge w _ _ _
  have hGm : G ≤ maxLen := by rw [hG]; exact grownCap_le_maxLen w (n + 1) n _ (by unfold maxLen; omega)
  obtain ⟨ROW, hROW⟩ : ∃ ROW : Array Value, ROW = (xs.take (i * 1)).toArray ++ Builtin.zeroCells (.string ⟨#[]⟩ : Value).cells (n + 1 - i) ++ Builtin.zeroCells (.string ⟨#[]⟩ : Value).cells (G - (n + 1)) := ⟨_, rfl⟩
  have hrz : ∀ ty, (Builtin.append_ #[22, 3] ty #[.slice (some ⟨g, 0, none⟩) i n, .int .i64 ((n : Int) + 1 - (i : Int))]).run Try.prog w =
      .ok (.slice (some ⟨w.heap.size, 0, none⟩) (n + 1) G) (w.drew.alloc (.cells ROW 9)) := fun ty => by
    have h := Lib.run_append_grow_zeros (P := Try.prog) w 22 3 ty 9 i0 (.string ⟨#[]⟩) .i64 .i64 Try.underlying22 Try.underlying3 hi0 hz0 (some ⟨g, 0, none⟩) i n (xs.take (i * 1)) hold (n + 1 - i) (by omega) (by omega) (by omega) (by omega) (by rw [hz2]; omega) (by rw [hz2, hik]; exact growslice_fits (by omega) (by omega))
    rw [hik, ← hG, ← hROW] at h
    rw [hkk]
    exact h
  have hRs : ROW.size = G * 1 := by
    rw [hROW]
    simp only [Array.size_append, List.size_toArray, List.length_take, size_zeroCells, hlen]
    rw [show (.string ⟨#[]⟩ : Value).cells.size = 1 from rfl]
    omega
  have hRt : ROW.toList.take (i * 1) = xs.take (i * 1) := by
    rw [hROW]
    simp only [Array.toList_append, List.append_assoc]
    rw [List.take_append_of_le_length (by simp only [List.length_take, hlen]; omega), List.take_take, Nat.min_self]
  obtain ⟨R1, hR1⟩ : ∃ R1, R1 = (ROW.toList.take (i * 1) ++ vs ++ ROW.toList.drop (i * 1 + vs.length)).toArray := ⟨_, rfl⟩
  obtain ⟨R2, hR2⟩ : ∃ R2, R2 = (R1.toList.take ((i + 1) * 1) ++ xs.drop (i * 1) ++ R1.toList.drop ((i + 1) * 1 + (xs.drop (i * 1)).length)).toArray := ⟨_, rfl⟩
  have hRl : ROW.toList.length = G * 1 := by rw [Array.length_toList, hRs]
  have hE2 : R2.toList.take ((n + 1) * 1) = xs.take (i * 1) ++ vs ++ xs.drop (i * 1) ∧ R2.toList.length = G * 1 := by
    have := ins_grow (i * 1) (n * 1) 1 ROW.toList xs vs (by rw [hRl]; omega) hlen hRt hvl hA
    rw [hR2, hR1]
    simp only [Nat.add_mul, Nat.one_mul]
    rw [hRl] at this
    exact this
  have hS1 : R1.size = G * 1 := by
    rw [hR1]
    simp only [List.size_toArray, List.length_append, List.length_take, List.length_drop, hvl, hRl]
    omega
  have hcpA : ∀ (W : World) ty dc, W.heap[w.heap.size]? = some (.cells ROW 9 (0, 0)) → W.heap[vb]? = some (.cells vs.toArray 9 (0, 0)) → (Builtin.copy_ #[22, 22] ty #[.slice (some ⟨w.heap.size, i, none⟩) (n + 1 - i) dc, .slice (some ⟨vb, 0, none⟩) 1 1]).run Try.prog W = .ok (goInt 1) (W.setRow w.heap.size R1) := fun W ty dc h1 h2 => by
    have := run_copyK (P := Try.prog) W 22 22 ty 9 1 w.heap.size (i * 1) (n + 1 - i) dc ⟨vb, 0, none⟩ 1 1 ROW 9 vs 1 Try.underlying22 hsz h1 (by simp only [Nat.min_def]; split <;> omega) (by rw [hvl])
      (fun j v hj => by
        rw [plain_add, Nat.zero_add, cell_of_row W vb _ vs.toArray _ (0, 0) h2]
        simpa using hj) (by rw [hvl, hRs]; omega) h1v
    rw [← hR1] at this
    simpa using this
  have hcpB : ∀ (W : World) ty dc sc, W.heap[w.heap.size]? = some (.cells R1 9 (0, 0)) → W.heap[g]? = some (.cells cur 9 (0, 0)) → (Builtin.copy_ #[22, 22] ty #[.slice (some ⟨w.heap.size, i + 1, none⟩) (n - i) dc, .slice (some ⟨g, i, none⟩) (n - i) sc]).run Try.prog W = .ok (goInt (n - i : Nat)) (W.setRow w.heap.size R2) := fun W ty dc sc h1 h2 => by
    have := run_copyK (P := Try.prog) W 22 22 ty 9 1 w.heap.size ((i + 1) * 1) (n - i) dc ⟨g, i * 1, none⟩ (n - i) sc R1 9 (xs.drop (i * 1)) (n - i) Try.underlying22 hsz h1 (by simp only [Nat.min_def]; split <;> omega) hdl
      (fun j v hj => by
        rw [plain_add, cell_of_row W g _ cur _ (0, 0) h2]
        rw [← htk, List.getElem?_drop, List.getElem?_take] at hj
        split at hj
        · rw [← Array.getElem?_toList]; exact hj
        · cases hj) (by rw [hdl, hS1]; omega) (fun v hv => hone v (List.mem_of_mem_drop hv))
    rw [← hR2] at this
    simpa using this
  have htn : ((i : Int) + 1).toNat = i + 1 := by omega
  have hw1 : IntKind.i64.wrap ((i : Int) + 1) = (i : Int) + 1 := by rw [IntKind.wrap_i64]; omega
  have hb1 : (0 : Int) ≤ (i : Int) + 1 := by omega
  have hz2' : ¬ ((i : Int) = (n : Int)) := by omega
  have hz3 : (n : Int) < (n : Int) + 1 := by omega
  have hz4 : (i : Int) ≤ (n : Int) := by omega
  have hz5 : (i : Int) + 1 ≤ (n : Int) + 1 := by omega
  have hz6 : (i : Int) ≤ (n : Int) + 1 := by omega
  have hnI : (n : Int) ≤ 90000 := by omega
  have hGi : ¬ (G = i) := by omega
  have hGim : ¬ (G = i + 1) := by omega
  have hci : ¬ (n = i) := by omega
  have hGI : (G : Int) ≤ 9223372036854775807 := by unfold maxLen at hGm; omega
  have hW1 : (w.drew.alloc (.cells ROW 9)).heap[w.heap.size]? = some (.cells ROW 9 (0, 0)) := heap_alloc_new w.drew _
  have hO1 : ∀ k, k < w.heap.size → (w.drew.alloc (.cells ROW 9)).heap[k]? = w.heap[k]? := fun k hk => Below.heap_alloc w.drew _ k hk
  obtain ⟨W1, hW⟩ : ∃ W1, W1 = w.drew.alloc (.cells ROW 9) := ⟨_, rfl⟩
  rw [← hW] at hrz hW1 hO1
  have hsW : w.heap.size < W1.heap.size := (Array.getElem?_eq_some_iff.1 hW1).1
  have HCpA := hcpA W1 3 (G - i) hW1 ((hO1 vb hvw).trans hvb)
  have hW2 : (W1.setRow w.heap.size R1).heap[w.heap.size]? = some (.cells R1 9 (0, 0)) := setRow_heap W1 w.heap.size ROW _ _ _ hW1
  have hO2 : ∀ k, k < w.heap.size → (W1.setRow w.heap.size R1).heap[k]? = w.heap[k]? := fun k hk => (setRow_other W1 w.heap.size k _ (by omega)).trans (hO1 k hk)
  obtain ⟨W2, hW2e⟩ : ∃ W2, W2 = W1.setRow w.heap.size R1 := ⟨_, rfl⟩
  rw [← hW2e] at HCpA hW2 hO2
  have HCpB := hcpB W2.drew 3 (G - (i + 1)) (n - i) hW2 ((hO2 g hgw).trans hg)
  have FIN : Hid ((W2.drew.setRow w.heap.size R2).ownsRow B 9 1 (.slice (some ⟨w.heap.size, 0, none⟩) (n + 1) G) (n + 1) (xs.take (i * 1) ++ vs ++ xs.drop (i * 1)) ∧ w.grownBy (W2.drew.setRow w.heap.size R2) (some g)) := by
    refine ⟨⟨ins_take hlen hvl (Nat.le_of_lt hi), .inr ⟨w.heap.size, G, R2, rfl, hB, setRow_heap W2.drew w.heap.size R1 _ _ _ hW2, hGn, hGm, by rw [← Array.length_toList, hE2.2], hE2.1⟩⟩, ⟨?_, ?_, ?_, ?_, fun k hk _ => ?_⟩⟩
    · rw [hW2e, hW]; rfl
    · rw [hW2e, hW]; rfl
    · rw [hW2e, hW]; rfl
    · rw [hW2e, hW]; simp
    · rw [setRow_other W2.drew w.heap.size k _ (by omega)]
      exact hO2 k hk
  clear hR1 hR2 hE2 hS1 hRl hRs hRt hdl hA htk hcs hown hlen hone h1v hb hsz hROW hG hGm hold hcell hcpA hcpB hik hkk hW1 hO1 hW2 hO2 hg hvb hi0 hz0 hz1 hz2 hW hW2e
  go_enter Try.func44, Try.ntmps44
  go_wp2_with (first
    | (at_builtin; refine wpList_appV _ rfl _ _ _ _ rfl _ _ rfl rfl (hrz _) ?_)
    | (at_builtin; refine wpList_copyV _ rfl _ _ 22 22 rfl _ _ rfl rfl HCpA ?_))
  go_region_law (refine step_copyV rfl _ _ 22 22 rfl _ _ (by simp [Act.eval, Act.put]) (by simp [Act.eval, Act.put]) HCpB ?_)
  go_wp2_with fail
  go_ret
  exact ⟨⟨_, rfl, FIN.out.1, .inr rfl⟩, FIN.out.2⟩

set_option maxHeartbeats 4000000 in
set_option maxRecDepth 100000 in
/-- there is no room: a new row -/
theorem insert_items_grow (B n i g : Nat) (xs : List Value) (vb : Nat) (vs : List Value) (w : World) (hown : w.ownsRow B 25 5 (.slice (some ⟨g, 0, none⟩) n n) n xs) (hi : i < n) (hB : B ≤ w.heap.size) (hn : n + 1 ≤ 90000) (hone : ∀ u ∈ xs, u.oneCell' = true)
    (hvb : w.heap[vb]? = some (.cells vs.toArray 25 (0, 0))) (hvl : vs.length = 5) (h1v : ∀ u ∈ vs, u.oneCell' = true) :
    Calls Try.prog 45 #[.slice (some ⟨g, 0, none⟩) n n, .int .i64 (i : Int), .slice (some ⟨vb, 0, none⟩) 1 1] w fun e w' => (∃ v', e = .returned v' ∧ w'.ownsRow B 25 5 v' (n + 1) (xs.take (i * 5) ++ vs ++ xs.drop (i * 5)) ∧ (v'.ownBlock = some g ∨ v'.ownBlock = some w.heap.size)) ∧ w.grownBy w' (some g) := by
  obtain ⟨i0, hi0, hz0, hz1, hz2⟩ := info_parts info_val
  have hlen := hown.1
  obtain ⟨hb, cur, hg, hcs, htk⟩ : B ≤ g ∧ ∃ cur, w.heap[g]? = some (.cells cur 25 (0, 0)) ∧ cur.size = n * 5 ∧ cur.toList.take (n * 5) = xs := by
    rcases hown.2 with ⟨h, _⟩ | ⟨g', cap', cur, h, h1, h2, h3, h4, h5, h6⟩
    · cases h
    · simp only [Value.slice.injEq, Option.some.injEq, Addr.mk.injEq, and_true, true_and] at h
      obtain ⟨rfl, rfl⟩ := h
      exact ⟨h1, cur, h2, h5, h6⟩
  have hsz : (Try.prog.info? 25).map (·.size) = some 5 := by kernel_rfl
  have hA : i * 5 ≤ n * 5 := Nat.mul_le_mul_right _ (Nat.le_of_lt hi)
  have hdl : (xs.drop (i * 5)).length = (n - i) * 5 := by rw [List.length_drop, hlen, Nat.sub_mul]
  have hik : i + (n + 1 - i) = n + 1 := by omega
  have hkk : (n : Int) + 1 - (i : Int) = ((n + 1 - i : Nat) : Int) := by omega
  have hgw : g < w.heap.size := (Array.getElem?_eq_some_iff.1 hg).1
  have hvw : vb < w.heap.size := (Array.getElem?_eq_some_iff.1 hvb).1
  have hcell : ∀ j v, xs[j]? = some v → w.cell? ⟨g, j, none⟩ = some v := fun j v hj => by
    rw [cell_of_row w g _ cur _ (0, 0) hg]
    rw [← htk, List.getElem?_take] at hj
    split at hj
    · rw [← Array.getElem?_toList]; exact hj
    · cases hj
  have hold : (Builtin.firstCells i0.size i (.slice (some ⟨g, 0, none⟩) i n)).run Try.prog w.drew = .ok (xs.take (i * 5)).toArray w.drew := by
    rw [hz1]
    refine run_firstCells_some w.drew 5 i ⟨g, 0, none⟩ i n (xs.take (i * 5)) (by rw [List.length_take]; omega) (fun j v hj => ?_)
    rw [plain_add, Nat.zero_add]
    rw [List.getElem?_take] at hj
    split at hj
    · exact hcell j v hj
    · cases hj
  obtain ⟨G, hG⟩ : ∃ G, G = grownCap w (n + 1) n 25 := ⟨_, rfl⟩
  have hGn : n + 1 ≤ G := by rw [hG]; exact grownCap_ge w _ _ _
  have hGm : G ≤ maxLen := by rw [hG]; exact grownCap_le_maxLen w (n + 1) n _ (by unfold maxLen; omega)
  obtain ⟨ROW, hROW⟩ : ∃ ROW : Array Value, ROW = (xs.take (i * 5)).toArray ++ Builtin.zeroCells (.agg V5 : Value).cells (n + 1 - i) ++ Builtin.zeroCells (.agg V5 : Value).cells (G - (n + 1)) := ⟨_, rfl⟩
  have hrz : ∀ ty, (Builtin.append_ #[23, 3] ty #[.slice (some ⟨g, 0, none⟩) i n, .int .i64 ((n : Int) + 1 - (i : Int))]).run Try.prog w =
      .ok (.slice (some ⟨w.heap.size, 0, none⟩) (n + 1) G) (w.drew.alloc (.cells ROW 25)) := fun ty => by
    have h := Lib.run_append_grow_zeros (P := Try.prog) w 23 3 ty 25 i0 (.agg V5) .i64 .i64 Try.underlying23 Try.underlying3 hi0 hz0 (some ⟨g, 0, none⟩) i n (xs.take (i * 5)) hold (n + 1 - i) (by omega) (by omega) (by omega) (by omega) (by rw [hz2]; omega) (by rw [hz2, hik]; exact growslice_fits (by omega) (by omega))
    rw [hik, ← hG, ← hROW] at h
    rw [hkk]
    exact h
  have hRs : ROW.size = G * 5 := by
    rw [hROW]
    simp only [Array.size_append, List.size_toArray, List.length_take, size_zeroCells, hlen]
    rw [show (.agg V5 : Value).cells.size = 5 from rfl]
    omega
  have hRt : ROW.toList.take (i * 5) = xs.take (i * 5) := by
    rw [hROW]
    simp only [Array.toList_append, List.append_assoc]
    rw [List.take_append_of_le_length (by simp only [List.length_take, hlen]; omega), List.take_take, Nat.min_self]
  obtain ⟨R1, hR1⟩ : ∃ R1, R1 = (ROW.toList.take (i * 5) ++ vs ++ ROW.toList.drop (i * 5 + vs.length)).toArray := ⟨_, rfl⟩
  obtain ⟨R2, hR2⟩ : ∃ R2, R2 = (R1.toList.take ((i + 1) * 5) ++ xs.drop (i * 5) ++ R1.toList.drop ((i + 1) * 5 + (xs.drop (i * 5)).length)).toArray := ⟨_, rfl⟩
  have hRl : ROW.toList.length = G * 5 := by rw [Array.length_toList, hRs]
  have hE2 : R2.toList.take ((n + 1) * 5) = xs.take (i * 5) ++ vs ++ xs.drop (i * 5) ∧ R2.toList.length = G * 5 := by
    have := ins_grow (i * 5) (n * 5) 5 ROW.toList xs vs (by rw [hRl]; omega) hlen hRt hvl hA
    rw [hR2, hR1]
    simp only [Nat.add_mul, Nat.one_mul]
    rw [hRl] at this
    exact this
  have hS1 : R1.size = G * 5 := by
    rw [hR1]
    simp only [List.size_toArray, List.length_append, List.length_take, List.length_drop, hvl, hRl]
    omega
  have hcpA : ∀ (W : World) ty dc, W.heap[w.heap.size]? = some (.cells ROW 25 (0, 0)) → W.heap[vb]? = some (.cells vs.toArray 25 (0, 0)) → (Builtin.copy_ #[23, 23] ty #[.slice (some ⟨w.heap.size, i * 5, none⟩) (n + 1 - i) dc, .slice (some ⟨vb, 0, none⟩) 1 1]).run Try.prog W = .ok (goInt 1) (W.setRow w.heap.size R1) := fun W ty dc h1 h2 => by
    have := run_copyK (P := Try.prog) W 23 23 ty 25 5 w.heap.size (i * 5) (n + 1 - i) dc ⟨vb, 0, none⟩ 1 1 ROW 25 vs 1 Try.underlying23 hsz h1 (by simp only [Nat.min_def]; split <;> omega) (by rw [hvl])
      (fun j v hj => by
        rw [plain_add, Nat.zero_add, cell_of_row W vb _ vs.toArray _ (0, 0) h2]
        simpa using hj) (by rw [hvl, hRs]; omega) h1v
    rw [← hR1] at this
    simpa using this
  have hcpB : ∀ (W : World) ty dc sc, W.heap[w.heap.size]? = some (.cells R1 25 (0, 0)) → W.heap[g]? = some (.cells cur 25 (0, 0)) → (Builtin.copy_ #[23, 23] ty #[.slice (some ⟨w.heap.size, (i + 1) * 5, none⟩) (n - i) dc, .slice (some ⟨g, i * 5, none⟩) (n - i) sc]).run Try.prog W = .ok (goInt (n - i : Nat)) (W.setRow w.heap.size R2) := fun W ty dc sc h1 h2 => by
    have := run_copyK (P := Try.prog) W 23 23 ty 25 5 w.heap.size ((i + 1) * 5) (n - i) dc ⟨g, i * 5, none⟩ (n - i) sc R1 25 (xs.drop (i * 5)) (n - i) Try.underlying23 hsz h1 (by simp only [Nat.min_def]; split <;> omega) hdl
      (fun j v hj => by
        rw [plain_add, cell_of_row W g _ cur _ (0, 0) h2]
        rw [← htk, List.getElem?_drop, List.getElem?_take] at hj
        split at hj
        · rw [← Array.getElem?_toList]; exact hj
        · cases hj) (by rw [hdl, hS1]; omega) (fun v hv => hone v (List.mem_of_mem_drop hv))
    rw [← hR2] at this
    simpa using this
  have htn : ((i : Int) + 1).toNat = i + 1 := by omega
  have hw1 : IntKind.i64.wrap ((i : Int) + 1) = (i : Int) + 1 := by rw [IntKind.wrap_i64]; omega
  have hb1 : (0 : Int) ≤ (i : Int) + 1 := by omega
  have hz2' : ¬ ((i : Int) = (n : Int)) := by omega
  have hz3 : (n : Int) < (n : Int) + 1 := by omega
  have hz4 : (i : Int) ≤ (n : Int) := by omega
  have hz5 : (i : Int) + 1 ≤ (n : Int) + 1 := by omega
  have hz6 : (i : Int) ≤ (n : Int) + 1 := by omega
  have hnI : (n : Int) ≤ 90000 := by omega
  have hGi : ¬ (G = i) := by omega
  have hGim : ¬ (G = i + 1) := by omega
  have hci : ¬ (n = i) := by omega
  have hGI : (G : Int) ≤ 9223372036854775807 := by unfold maxLen at hGm; omega
  have hW1 : (w.drew.alloc (.cells ROW 25)).heap[w.heap.size]? = some (.cells ROW 25 (0, 0)) := heap_alloc_new w.drew _
  have hO1 : ∀ k, k < w.heap.size → (w.drew.alloc (.cells ROW 25)).heap[k]? = w.heap[k]? := fun k hk => Below.heap_alloc w.drew _ k hk
  obtain ⟨W1, hW⟩ : ∃ W1, W1 = w.drew.alloc (.cells ROW 25) := ⟨_, rfl⟩
  rw [← hW] at hrz hW1 hO1
  have hsW : w.heap.size < W1.heap.size := (Array.getElem?_eq_some_iff.1 hW1).1
  have HCpA := hcpA W1 3 (G - i) hW1 ((hO1 vb hvw).trans hvb)
  have hW2 : (W1.setRow w.heap.size R1).heap[w.heap.size]? = some (.cells R1 25 (0, 0)) := setRow_heap W1 w.heap.size ROW _ _ _ hW1
  have hO2 : ∀ k, k < w.heap.size → (W1.setRow w.heap.size R1).heap[k]? = w.heap[k]? := fun k hk => (setRow_other W1 w.heap.size k _ (by omega)).trans (hO1 k hk)
  obtain ⟨W2, hW2e⟩ : ∃ W2, W2 = W1.setRow w.heap.size R1 := ⟨_, rfl⟩
  rw [← hW2e] at HCpA hW2 hO2
  have HCpB := hcpB W2.drew 3 (G - (i + 1)) (n - i) hW2 ((hO2 g hgw).trans hg)
  have FIN : Hid ((W2.drew.setRow w.heap.size R2).ownsRow B 25 5 (.slice (some ⟨w.heap.size, 0, none⟩) (n + 1) G) (n + 1) (xs.take (i * 5) ++ vs ++ xs.drop (i * 5)) ∧ w.grownBy (W2.drew.setRow w.heap.size R2) (some g)) := by
    refine ⟨⟨ins_take hlen hvl (Nat.le_of_lt hi), .inr ⟨w.heap.size, G, R2, rfl, hB, setRow_heap W2.drew w.heap.size R1 _ _ _ hW2, hGn, hGm, by rw [← Array.length_toList, hE2.2], hE2.1⟩⟩, ⟨?_, ?_, ?_, ?_, fun k hk _ => ?_⟩⟩
    · rw [hW2e, hW]; rfl
    · rw [hW2e, hW]; rfl
    · rw [hW2e, hW]; rfl
    · rw [hW2e, hW]; simp
    · rw [setRow_other W2.drew w.heap.size k _ (by omega)]
      exact hO2 k hk
  clear hR1 hR2 hE2 hS1 hRl hRs hRt hdl hA htk hcs hown hlen hone h1v hb hsz hROW hG hGm hold hcell hcpA hcpB hik hkk hW1 hO1 hW2 hO2 hg hvb hi0 hz0 hz1 hz2 hW hW2e
  go_enter Try.func45, Try.ntmps45
  go_wp2_with (first
    | (at_builtin; refine wpList_appV _ rfl _ _ _ _ rfl _ _ rfl rfl (hrz _) ?_)
    | (at_builtin; refine wpList_copyV _ rfl _ _ 23 23 rfl _ _ rfl rfl HCpA ?_))
  go_region_law (refine step_copyV rfl _ _ 23 23 rfl _ _ (by simp [Act.eval, Act.put]) (by simp [Act.eval, Act.put]) HCpB ?_)
  go_wp2_with fail
  go_ret
  exact ⟨⟨_, rfl, FIN.out.1, .inr rfl⟩, FIN.out.2⟩
end Go.Proofs.Ytcmalaabggohmaa
