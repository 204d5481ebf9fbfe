/-
  What slices.Insert of one element comes to, at a row of the call's own.
-/
import Derived.Test.YtcmalaabggohmaaValCopy
import Derived.Lib.Overlaps
import Derived.Lib.AppendZerosOnto
import Derived.Laws.IdiomCopy
import Derived.Laws.NewBlocks
import Derived.Laws.Externs
import Derived.Deep.RegionLaw
namespace Go.Proofs.Ytcmalaabggohmaa
open Go.RowKit

theorem run_copyK {P : Program} (w : World) (dT sT ty elem : TypeId) (k g o dLen dCap : Nat) (a : Addr) (sLen sCap : Nat) (cur : Array Value) (t : TypeId) (cs : List Value) (c : Nat)
    (hu : P.underlying dT = some (.slice elem)) (hs : (P.info? elem).map (·.size) = some k)
    (hg : w.heap[g]? = some (.cells cur t (0, 0))) (hm : Nat.min sLen dLen = c) (hn : cs.length = c * k)
    (hsrc : ∀ j v, cs[j]? = some v → w.cell? (a.add j) = some v) (hfit : o + cs.length ≤ cur.size) (h1 : ∀ v ∈ cs, v.oneCell' = true) :
    (Builtin.copy_ #[dT, sT] ty #[.slice (some ⟨g, o, none⟩) dLen dCap, .slice (some a) sLen sCap]).run P w =
      .ok (goInt c) (w.setRow g (cur.toList.take o ++ cs ++ cur.toList.drop (o + cs.length)).toArray) := by
  have hl := run_loadCells_list (P := P) w a cs hsrc
  have hst := run_storeCells_at P g o t cs 0 cur w hg (by simpa using hfit) h1
  rw [hn] at hl
  simp only [Nat.add_zero] at hst
  cases hq : P.info? elem with
  | none => simp [hq] at hs
  | some i =>
    have hi : i.size = k := by simpa [hq] using hs
    have hm' : min sLen dLen = c := hm
    simp [Builtin.copy_, run_underlying hu, Builtin.lenOf, Builtin.firstCells, sizeOf, typeInfo, hq, hi, hm', hl, hst]
theorem wpList_copyV {P : Program} (w : World) {ops : Array Oper} {rest : List Oper} {o : Oper} {a : Act} {Q : Exit → Act → World → Prop} (hgd : o.guard = none) (d s : Operand) (t t' : TypeId)
    (ho : o.op = .call { callee := .builtin .copy, args := #[d, s], argTypes := #[t, t'] }) (v u : Value) (hd : a.eval d = v) (hs : a.eval s = u) {v' : Value} {w' : World}
    (hr : (Builtin.copy_ #[t, t'] o.type #[v, u]).run P w = .ok v' w') (h : wpList P ops Q rest (a.put o.dst v') w') : wpList P ops Q (o :: rest) a w :=
  wpList_plain hgd fun K hK => by
    unfold Oper.wp execOp
    simp only [ho, resolve, invoke, builtin, Sem.run_bind, Sem.run_pure, Result.andThen_ok, List.map_toArray, List.map_cons, List.map_nil, hd, hs, hr]
    exact hK _ _ h
theorem step_copyV {P : Program} {ops : Array Oper} {o : Oper} {a : Act} {w : World} {K : Act → World → Prop} {Q : Exit → Act → World → Prop} {E : Prop}
    (hg : o.guard = none) (d x : Operand) (dT sT : TypeId) (hop : o.op = Op.call { callee := Callee.builtin Builtin.copy, args := #[d, x], argTypes := #[dT, sT] })
    (v u : Value) (hd : a.eval d = v) (hx : a.eval x = u) {v' : Value} {w' : World} (hr : (Builtin.copy_ #[dT, sT] o.type #[v, u]).run P w = .ok v' w') (hK : K (a.put o.dst v') w') :
    if Region.wanted o (yielded ops a.tmps) = true then Oper.wp P o a w K Q else E := by
  have hw : Region.wanted o (yielded ops a.tmps) = true := by simp [Region.wanted, hg]
  rw [if_pos hw]
  unfold Oper.wp
  simp [execOp, hop, resolve, invoke, builtin, hd, hx, hr, Result.andThen]
  exact hK
theorem plain_add (b o j : Nat) : (⟨b, o, none⟩ : Addr).add j = ⟨b, o + j, none⟩ := by unfold Addr.add; split <;> simp_all
/-- a row with an element more at place i -/
theorem ins_take {k i n : Nat} {xs vs : List Value} (hx : xs.length = n * k) (hv : vs.length = k) (hi : i ≤ n) : (xs.take (i * k) ++ vs ++ xs.drop (i * k)).length = (n + 1) * k := by
  have h1 : i * k ≤ n * k := Nat.mul_le_mul_right _ hi
  simp only [List.length_append, List.length_take, List.length_drop, hx, hv, Nat.add_mul, Nat.one_mul]
  omega

set_option maxHeartbeats 4000000 in
set_option maxRecDepth 100000 in
/-- the element goes to the end -/
theorem insert_names_end (B n : Nat) (v : Value) (xs : List Value) (vb : Nat) (vs : List Value) (w : World) (hown : w.ownsRow B 9 1 v n xs) (hB : B ≤ w.heap.size) (hn : n + 1 ≤ 90000)
    (hvb : w.heap[vb]? = some (.cells vs.toArray 9 (0, 0))) (hvl : vs.length = 1) (h1v : ∀ u ∈ vs, u.oneCell' = true) :
    Calls Try.prog 44 #[v, .int .i64 (n : Int), .slice (some ⟨vb, 0, none⟩) 1 1] w fun e w' => (∃ v', e = .returned v' ∧ w'.ownsRow B 9 1 v' (n + 1) (xs.take (n * 1) ++ vs ++ xs.drop (n * 1)) ∧ (v'.ownBlock = v.ownBlock ∨ v'.ownBlock = some w.heap.size)) ∧ w.grownBy w' v.ownBlock := by
  obtain ⟨i0, hi0, hz0, hz1, hz2⟩ := info_parts info_name
  have hx : xs.take (n * 1) ++ vs ++ xs.drop (n * 1) = xs ++ vs := by
    have := hown.1
    rw [List.take_of_length_le (by omega), List.drop_of_length_le (by omega), List.append_nil]
  rw [hx]
  have hrun := fun ty => run_append_own_at (P := Try.prog) w B 22 ty 9 i0 (.string ⟨#[]⟩) 1 16 Try.underlying22 hi0 hz0 hz1 hz2 rfl (by decide) v n xs hown ⟨vb, 0, none⟩ 1 1 vs (by omega)
    (World.news_of_block (cs := vs.toArray) (t := 9) (fr := (0, 0)) hvb) h1v (by unfold maxLen; omega) (by omega) hB
  have hnI : (n : Int) ≤ 90000 := by omega
  have HOwn := Lib.hid hown
  have HRun := Lib.hid hrun
  rcases hown.2 with ⟨rfl, rfl⟩ | ⟨g, cap, cur, rfl, hg1, hg2, hg3, hg4, hg5, hg6⟩
  · obtain ⟨v', w', hr, g1, g2, _, g4⟩ := HRun.out 22
    have G1 := Lib.hid g1
    have G2 := Lib.hid g2
    have G4 := Lib.hid g4
    clear hx hrun hown hnI g1 g2 g4
    go_enter Try.func44, Try.ntmps44
    go_wp2_with (at_builtin; refine Lib.wpList_append_run _ rfl _ _ _ _ rfl _ _ rfl rfl _ _ hr ?_)
    go_ret
    exact ⟨⟨_, rfl, G1.out, G4.out⟩, G2.out⟩
  · obtain ⟨v', w', hr, g1, g2, _, g4⟩ := HRun.out 22
    have G1 := Lib.hid g1
    have G2 := Lib.hid g2
    have G4 := Lib.hid g4
    have hcI : (cap : Int) ≤ 9223372036854775807 := by unfold maxLen at hg4; omega
    have hncI : (n : Int) ≤ (cap : Int) := by omega
    clear hx hrun hown g1 g2 g4 hg1 hg2 hg5 hg6 hg4
    go_enter Try.func44, Try.ntmps44
    go_wp2_with (at_builtin; refine Lib.wpList_append_run _ rfl _ _ _ _ rfl _ _ rfl rfl _ _ hr ?_)
    all_goals
      go_ret
      exact ⟨⟨_, rfl, G1.out, G4.out⟩, G2.out⟩

set_option maxHeartbeats 4000000 in
set_option maxRecDepth 100000 in
/-- the element goes to the end -/
theorem insert_items_end (B n : Nat) (v : Value) (xs : List Value) (vb : Nat) (vs : List Value) (w : World) (hown : w.ownsRow B 25 5 v n xs) (hB : B ≤ w.heap.size) (hn : n + 1 ≤ 90000)
    (hvb : w.heap[vb]? = some (.cells vs.toArray 25 (0, 0))) (hvl : vs.length = 5) (h1v : ∀ u ∈ vs, u.oneCell' = true) :
    Calls Try.prog 45 #[v, .int .i64 (n : Int), .slice (some ⟨vb, 0, none⟩) 1 1] w fun e w' => (∃ v', e = .returned v' ∧ w'.ownsRow B 25 5 v' (n + 1) (xs.take (n * 5) ++ vs ++ xs.drop (n * 5)) ∧ (v'.ownBlock = v.ownBlock ∨ v'.ownBlock = some w.heap.size)) ∧ w.grownBy w' v.ownBlock := by
  obtain ⟨i0, hi0, hz0, hz1, hz2⟩ := info_parts info_val
  have hx : xs.take (n * 5) ++ vs ++ xs.drop (n * 5) = xs ++ vs := by
    have := hown.1
    rw [List.take_of_length_le (by omega), List.drop_of_length_le (by omega), List.append_nil]
  rw [hx]
  have hrun := fun ty => run_append_own_at (P := Try.prog) w B 23 ty 25 i0 (.agg V5) 5 80 Try.underlying23 hi0 hz0 hz1 hz2 rfl (by decide) v n xs hown ⟨vb, 0, none⟩ 1 1 vs (by omega)
    (World.news_of_block (cs := vs.toArray) (t := 25) (fr := (0, 0)) hvb) h1v (by unfold maxLen; omega) (by omega) hB
  have hnI : (n : Int) ≤ 90000 := by omega
  have HOwn := Lib.hid hown
  have HRun := Lib.hid hrun
  rcases hown.2 with ⟨rfl, rfl⟩ | ⟨g, cap, cur, rfl, hg1, hg2, hg3, hg4, hg5, hg6⟩
  · obtain ⟨v', w', hr, g1, g2, _, g4⟩ := HRun.out 23
    have G1 := Lib.hid g1
    have G2 := Lib.hid g2
    have G4 := Lib.hid g4
    clear hx hrun hown hnI g1 g2 g4
    go_enter Try.func45, Try.ntmps45
    go_wp2_with (at_builtin; refine Lib.wpList_append_run _ rfl _ _ _ _ rfl _ _ rfl rfl _ _ hr ?_)
    go_ret
    exact ⟨⟨_, rfl, G1.out, G4.out⟩, G2.out⟩
  · obtain ⟨v', w', hr, g1, g2, _, g4⟩ := HRun.out 23
    have G1 := Lib.hid g1
    have G2 := Lib.hid g2
    have G4 := Lib.hid g4
    have hcI : (cap : Int) ≤ 9223372036854775807 := by unfold maxLen at hg4; omega
    have hncI : (n : Int) ≤ (cap : Int) := by omega
    clear hx hrun hown g1 g2 g4 hg1 hg2 hg5 hg6 hg4
    go_enter Try.func45, Try.ntmps45
    go_wp2_with (at_builtin; refine Lib.wpList_append_run _ rfl _ _ _ _ rfl _ _ rfl rfl _ _ hr ?_)
    all_goals
      go_ret
      exact ⟨⟨_, rfl, G1.out, G4.out⟩, G2.out⟩
theorem ins_shift (A N k : Nat) (L xs vs : List Value) (hL : N + k ≤ L.length) (hx : L.take N = xs) (hv : vs.length = k) (hA : A ≤ N) :
    ((L.take (A + k) ++ xs.drop A ++ L.drop (A + k + (xs.drop A).length)).take A ++ vs ++ (L.take (A + k) ++ xs.drop A ++ L.drop (A + k + (xs.drop A).length)).drop (A + vs.length)) = xs.take A ++ vs ++ xs.drop A ++ L.drop (N + k) := by
  have h1 : (L.take (A + k)).length = A + k := by rw [List.length_take]; omega
  have h2 : (xs.drop A).length = N - A := by rw [← hx, List.length_drop, List.length_take]; omega
  have h3 : (L.take (A + k) ++ xs.drop A ++ L.drop (A + k + (xs.drop A).length)).take A = xs.take A := by
    rw [List.append_assoc, List.take_append_of_le_length (by omega), List.take_take, ← hx, List.take_take]
    congr 1
    omega
  have h4 : (L.take (A + k) ++ xs.drop A ++ L.drop (A + k + (xs.drop A).length)).drop (A + vs.length) = xs.drop A ++ L.drop (N + k) := by
    rw [List.append_assoc, hv, List.drop_append_of_le_length (by omega), List.drop_of_length_le (by omega), List.nil_append, h2, show A + k + (N - A) = N + k by omega]
  rw [h3, h4, List.append_assoc (xs.take A ++ vs)]
theorem ins_grow (A N k : Nat) (R xs vs : List Value) (hR : N + k ≤ R.length) (hx : xs.length = N) (ht : R.take A = xs.take A) (hv : vs.length = k) (hA : A ≤ N) :
    ((R.take A ++ vs ++ R.drop (A + vs.length)).take (A + k) ++ xs.drop A ++ (R.take A ++ vs ++ R.drop (A + vs.length)).drop (A + k + (xs.drop A).length)).take (N + k) = xs.take A ++ vs ++ xs.drop A ∧
    ((R.take A ++ vs ++ R.drop (A + vs.length)).take (A + k) ++ xs.drop A ++ (R.take A ++ vs ++ R.drop (A + vs.length)).drop (A + k + (xs.drop A).length)).length = R.length := by
  have h1 : (R.take A).length = A := by rw [List.length_take]; omega
  have h2 : (xs.drop A).length = N - A := by rw [List.length_drop]; omega
  have h3 : (R.take A ++ vs ++ R.drop (A + vs.length)).take (A + k) = R.take A ++ vs := List.take_left' (by rw [List.length_append]; omega)
  rw [h3]
  constructor
  · rw [List.take_left' (by simp only [List.length_append]; omega), ht]
  · simp only [List.length_append, List.length_drop, h1, h2]
    omega

set_option maxHeartbeats 4000000 in
set_option maxRecDepth 100000 in
/-- there is room: what stands behind moves on -/
theorem insert_names_shift (B n i g cap : Nat) (xs : List Value) (vb : Nat) (vs : List Value) (w : World) (hown : w.ownsRow B 9 1 (.slice (some ⟨g, 0, none⟩) n cap) n xs) (hi : i < n) (hroom : n < cap) (hn : n + 1 ≤ 90000) (hone : ∀ u ∈ xs, u.oneCell' = true)
    (hvb : w.heap[vb]? = some (.cells vs.toArray 9 (0, 0))) (hne : vb ≠ g) (hvl : vs.length = 1) (h1v : ∀ u ∈ vs, u.oneCell' = true) :
    Calls Try.prog 44 #[.slice (some ⟨g, 0, none⟩) n cap, .int .i64 (i : Int), .slice (some ⟨vb, 0, none⟩) 1 1] w fun e w' => (∃ v', e = .returned v' ∧ w'.ownsRow B 9 1 v' (n + 1) (xs.take (i * 1) ++ vs ++ xs.drop (i * 1)) ∧ (v'.ownBlock = some g ∨ v'.ownBlock = some w.heap.size)) ∧ w.grownBy w' (some g) := by
  have hlen := hown.1
  obtain ⟨hb, cur, hg, hcm, hcs, htk⟩ : B ≤ g ∧ ∃ cur, w.heap[g]? = some (.cells cur 9 (0, 0)) ∧ cap ≤ maxLen ∧ cur.size = cap * 1 ∧ cur.toList.take (n * 1) = xs := by
    rcases hown.2 with ⟨h, _⟩ | ⟨g', cap', cur, h, h1, h2, h3, h4, h5, h6⟩
    · cases h
    · simp only [Value.slice.injEq, Option.some.injEq, Addr.mk.injEq, and_true, true_and] at h
      obtain ⟨rfl, rfl⟩ := h
      exact ⟨h1, cur, h2, h4, h5, h6⟩
  have hsz : (Try.prog.info? 9).map (·.size) = some 1 := by kernel_rfl
  have hA : i * 1 ≤ n * 1 := Nat.mul_le_mul_right _ (Nat.le_of_lt hi)
  have hdl : (xs.drop (i * 1)).length = (n - i) * 1 := by rw [List.length_drop, hlen, Nat.sub_mul]
  obtain ⟨C1, hC1⟩ : ∃ C1, C1 = (cur.toList.take ((i + 1) * 1) ++ xs.drop (i * 1) ++ cur.toList.drop ((i + 1) * 1 + (xs.drop (i * 1)).length)).toArray := ⟨_, rfl⟩
  obtain ⟨C2, hC2⟩ : ∃ C2, C2 = (C1.toList.take (i * 1) ++ vs ++ C1.toList.drop (i * 1 + vs.length)).toArray := ⟨_, rfl⟩
  have hcl : cur.toList.length = cap * 1 := by rw [Array.length_toList, hcs]
  have hE2 : C2.toList = xs.take (i * 1) ++ vs ++ xs.drop (i * 1) ++ cur.toList.drop (n * 1 + 1) := by
    have := ins_shift (i * 1) (n * 1) 1 cur.toList xs vs (by rw [hcl]; omega) htk hvl hA
    rw [hC2, hC1]
    simp only [Nat.add_mul, Nat.one_mul]
    exact this
  have hS1 : C1.size = cap * 1 := by
    rw [hC1]
    simp only [List.size_toArray, List.length_append, List.length_take, List.length_drop, hdl, hcl]
    omega
  have hcp1 : ∀ ty dc sc, (Builtin.copy_ #[22, 22] ty #[.slice (some ⟨g, i + 1, none⟩) (n - i) dc, .slice (some ⟨g, i, none⟩) (n + 1 - i) sc]).run Try.prog w.drew = .ok (goInt (n - i : Nat)) (w.drew.setRow g C1) := fun ty dc sc => by
    have := run_copyK (P := Try.prog) w.drew 22 22 ty 9 1 g ((i + 1) * 1) (n - i) dc ⟨g, i * 1, none⟩ (n + 1 - i) sc cur 9 (xs.drop (i * 1)) (n - i) Try.underlying22 hsz hg (by simp only [Nat.min_def]; split <;> omega) hdl
      (fun j v hj => by
        rw [plain_add, cell_of_row w.drew g _ cur _ (0, 0) hg]
        rw [← htk, List.getElem?_drop, List.getElem?_take] at hj
        split at hj
        · rw [← Array.getElem?_toList]; exact hj
        · cases hj) (by rw [hdl, hcs]; omega) (fun v hv => hone v (List.mem_of_mem_drop hv))
    rw [← hC1] at this
    simpa using this
  have hcp2 : ∀ (W : World) ty dc, W.heap[g]? = some (.cells C1 9 (0, 0)) → W.heap[vb]? = some (.cells vs.toArray 9 (0, 0)) → (Builtin.copy_ #[22, 22] ty #[.slice (some ⟨g, i, none⟩) (n + 1 - i) dc, .slice (some ⟨vb, 0, none⟩) 1 1]).run Try.prog W = .ok (goInt 1) (W.setRow g C2) := fun W ty dc h1 h2 => by
    have := run_copyK (P := Try.prog) W 22 22 ty 9 1 g (i * 1) (n + 1 - i) dc ⟨vb, 0, none⟩ 1 1 C1 9 vs 1 Try.underlying22 hsz h1 (by simp only [Nat.min_def]; split <;> omega) (by rw [hvl])
      (fun j v hj => by
        rw [plain_add, Nat.zero_add, cell_of_row W vb _ vs.toArray _ (0, 0) h2]
        simpa using hj) (by rw [hvl, hS1]; omega) h1v
    rw [← hC2] at this
    simpa using this
  have hov : ∀ lb cb, (callFunc 54 #[.slice (some ⟨vb, 0, none⟩) 1 1, .slice (some ⟨g, i + 1, none⟩) lb cb]).run Try.prog w = .ok (.value (.bool false)) w := fun lb cb => by
    rw [run_callFunc_extern Try.func54 (by kernel_rfl) (by kernel_rfl) (by kernel_rfl) (e := Extern.SlicesOverlaps.overlaps #[22, 22] #[4]) (by kernel_rfl),
      Lib.run_overlaps_apart w 22 4 9 Try.underlying22 1 (fun w => by kernel_rfl) ⟨vb, 0, none⟩ ⟨g, i + 1, none⟩ 1 1 lb cb hne 9 9 1 (cap * 1) (by simp [World.shape?, hvb, hvl]) (by simp [World.shape?, hg, hcs]) (by omega) (by simp [World.frozen?, hvb]) (by simp [World.frozen?, hvb])]
    rfl
  have hb1 : (0 : Int) ≤ (i : Int) + 1 := by omega
  have hw1 : IntKind.i64.wrap ((i : Int) + 1) = (i : Int) + 1 := by rw [IntKind.wrap_i64]; omega
  have htn : ((i : Int) + 1).toNat = i + 1 := by omega
  have htn2 : ((n : Int) + 1).toNat = n + 1 := by omega
  have hz2 : ¬ ((i : Int) = (n : Int)) := by omega
  have hz3 : (n : Int) + 1 ≤ (cap : Int) := by omega
  have hz4 : (i : Int) ≤ (n : Int) := by omega
  have hz5 : (i : Int) + 1 ≤ (n : Int) + 1 := by omega
  have hz6 : (i : Int) ≤ (n : Int) + 1 := by omega
  have hnI : (n : Int) ≤ 90000 := by omega
  have hb2 : ¬ (cap = i + 1) := by omega
  have hb4 : ¬ (cap = i) := by omega
  have hcI : (cap : Int) ≤ 9223372036854775807 := by unfold maxLen at hcm; omega
  have hW1 : (w.drew.setRow g C1).heap[g]? = some (.cells C1 9 (0, 0)) := setRow_heap w.drew g cur _ _ _ hg
  have hW1v : (w.drew.setRow g C1).heap[vb]? = some (.cells vs.toArray 9 (0, 0)) := (setRow_other w.drew g vb _ hne).trans hvb
  have FIN : Hid (((w.drew.setRow g C1).setRow g C2).ownsRow B 9 1 (.slice (some ⟨g, 0, none⟩) (n + 1) cap) (n + 1) (xs.take (i * 1) ++ vs ++ xs.drop (i * 1)) ∧ w.grownBy ((w.drew.setRow g C1).setRow g C2) (some g)) := by
    refine ⟨⟨ins_take hlen hvl (Nat.le_of_lt hi), .inr ⟨g, cap, C2, rfl, hb, setRow_heap _ g C1 _ _ _ hW1, by omega, hcm, ?_, ?_⟩⟩, ⟨rfl, rfl, rfl, by simp, fun k hk hne => ?_⟩⟩
    · rw [← Array.length_toList, hE2]
      simp only [List.length_append, List.length_take, List.length_drop, hvl, hlen, hcl]
      omega
    · rw [hE2]
      exact List.take_left' (ins_take hlen hvl (Nat.le_of_lt hi))
    · have hkg : k ≠ g := fun e => hne (by rw [e])
      rw [setRow_other _ g k _ hkg, setRow_other _ g k _ hkg]
      rfl
  clear hC1 hC2 hE2 hS1 hcl hdl hA htk hcs hcm hown hlen hone h1v hb hsz hroom
  have HHg := Lib.hid hg
  clear hg
  go_enter Try.func44, Try.ntmps44
  go_wp2_with (simp only [hov])
  go_region_law (refine step_copyV rfl _ _ 22 22 rfl _ _ (by simp [Act.eval, Act.put]) (by simp [Act.eval, Act.put]) (hcp1 _ _ _) ?_)
  go_wp2_with (at_builtin; refine wpList_copyV _ rfl _ _ 22 22 rfl _ _ rfl rfl (hcp2 _ _ _ hW1 hW1v) ?_)
  go_ret
  exact ⟨⟨_, rfl, FIN.out.1, .inl rfl⟩, FIN.out.2⟩

set_option maxHeartbeats 4000000 in
set_option maxRecDepth 100000 in
/-- there is room: what stands behind moves on -/
theorem insert_items_shift (B n i g cap : Nat) (xs : List Value) (vb : Nat) (vs : List Value) (w : World) (hown : w.ownsRow B 25 5 (.slice (some ⟨g, 0, none⟩) n cap) n xs) (hi : i < n) (hroom : n < cap) (hn : n + 1 ≤ 90000) (hone : ∀ u ∈ xs, u.oneCell' = true)
    (hvb : w.heap[vb]? = some (.cells vs.toArray 25 (0, 0))) (hne : vb ≠ g) (hvl : vs.length = 5) (h1v : ∀ u ∈ vs, u.oneCell' = true) :
    Calls Try.prog 45 #[.slice (some ⟨g, 0, none⟩) n cap, .int .i64 (i : Int), .slice (some ⟨vb, 0, none⟩) 1 1] w fun e w' => (∃ v', e = .returned v' ∧ w'.ownsRow B 25 5 v' (n + 1) (xs.take (i * 5) ++ vs ++ xs.drop (i * 5)) ∧ (v'.ownBlock = some g ∨ v'.ownBlock = some w.heap.size)) ∧ w.grownBy w' (some g) := by
  have hlen := hown.1
  obtain ⟨hb, cur, hg, hcm, hcs, htk⟩ : B ≤ g ∧ ∃ cur, w.heap[g]? = some (.cells cur 25 (0, 0)) ∧ cap ≤ maxLen ∧ cur.size = cap * 5 ∧ cur.toList.take (n * 5) = xs := by
    rcases hown.2 with ⟨h, _⟩ | ⟨g', cap', cur, h, h1, h2, h3, h4, h5, h6⟩
    · cases h
    · simp only [Value.slice.injEq, Option.some.injEq, Addr.mk.injEq, and_true, true_and] at h
      obtain ⟨rfl, rfl⟩ := h
      exact ⟨h1, cur, h2, h4, h5, h6⟩
  have hsz : (Try.prog.info? 25).map (·.size) = some 5 := by kernel_rfl
  have hA : i * 5 ≤ n * 5 := Nat.mul_le_mul_right _ (Nat.le_of_lt hi)
  have hdl : (xs.drop (i * 5)).length = (n - i) * 5 := by rw [List.length_drop, hlen, Nat.sub_mul]
  obtain ⟨C1, hC1⟩ : ∃ C1, C1 = (cur.toList.take ((i + 1) * 5) ++ xs.drop (i * 5) ++ cur.toList.drop ((i + 1) * 5 + (xs.drop (i * 5)).length)).toArray := ⟨_, rfl⟩
  obtain ⟨C2, hC2⟩ : ∃ C2, C2 = (C1.toList.take (i * 5) ++ vs ++ C1.toList.drop (i * 5 + vs.length)).toArray := ⟨_, rfl⟩
  have hcl : cur.toList.length = cap * 5 := by rw [Array.length_toList, hcs]
  have hE2 : C2.toList = xs.take (i * 5) ++ vs ++ xs.drop (i * 5) ++ cur.toList.drop (n * 5 + 5) := by
    have := ins_shift (i * 5) (n * 5) 5 cur.toList xs vs (by rw [hcl]; omega) htk hvl hA
    rw [hC2, hC1]
    simp only [Nat.add_mul, Nat.one_mul]
    exact this
  have hS1 : C1.size = cap * 5 := by
    rw [hC1]
    simp only [List.size_toArray, List.length_append, List.length_take, List.length_drop, hdl, hcl]
    omega
  have hcp1 : ∀ ty dc sc, (Builtin.copy_ #[23, 23] ty #[.slice (some ⟨g, (i + 1) * 5, none⟩) (n - i) dc, .slice (some ⟨g, i * 5, none⟩) (n + 1 - i) sc]).run Try.prog w.drew = .ok (goInt (n - i : Nat)) (w.drew.setRow g C1) := fun ty dc sc => by
    have := run_copyK (P := Try.prog) w.drew 23 23 ty 25 5 g ((i + 1) * 5) (n - i) dc ⟨g, i * 5, none⟩ (n + 1 - i) sc cur 25 (xs.drop (i * 5)) (n - i) Try.underlying23 hsz hg (by simp only [Nat.min_def]; split <;> omega) hdl
      (fun j v hj => by
        rw [plain_add, cell_of_row w.drew g _ cur _ (0, 0) hg]
        rw [← htk, List.getElem?_drop, List.getElem?_take] at hj
        split at hj
        · rw [← Array.getElem?_toList]; exact hj
        · cases hj) (by rw [hdl, hcs]; omega) (fun v hv => hone v (List.mem_of_mem_drop hv))
    rw [← hC1] at this
    simpa using this
  have hcp2 : ∀ (W : World) ty dc, W.heap[g]? = some (.cells C1 25 (0, 0)) → W.heap[vb]? = some (.cells vs.toArray 25 (0, 0)) → (Builtin.copy_ #[23, 23] ty #[.slice (some ⟨g, i * 5, none⟩) (n + 1 - i) dc, .slice (some ⟨vb, 0, none⟩) 1 1]).run Try.prog W = .ok (goInt 1) (W.setRow g C2) := fun W ty dc h1 h2 => by
    have := run_copyK (P := Try.prog) W 23 23 ty 25 5 g (i * 5) (n + 1 - i) dc ⟨vb, 0, none⟩ 1 1 C1 25 vs 1 Try.underlying23 hsz h1 (by simp only [Nat.min_def]; split <;> omega) (by rw [hvl])
      (fun j v hj => by
        rw [plain_add, Nat.zero_add, cell_of_row W vb _ vs.toArray _ (0, 0) h2]
        simpa using hj) (by rw [hvl, hS1]; omega) h1v
    rw [← hC2] at this
    simpa using this
  have hov : ∀ lb cb, (callFunc 56 #[.slice (some ⟨vb, 0, none⟩) 1 1, .slice (some ⟨g, (i + 1) * 5, none⟩) lb cb]).run Try.prog w = .ok (.value (.bool false)) w := fun lb cb => by
    rw [run_callFunc_extern Try.func56 (by kernel_rfl) (by kernel_rfl) (by kernel_rfl) (e := Extern.SlicesOverlaps.overlaps #[23, 23] #[4]) (by kernel_rfl),
      Lib.run_overlaps_apart w 23 4 25 Try.underlying23 5 (fun w => by kernel_rfl) ⟨vb, 0, none⟩ ⟨g, (i + 1) * 5, none⟩ 1 1 lb cb hne 25 25 5 (cap * 5) (by simp [World.shape?, hvb, hvl]) (by simp [World.shape?, hg, hcs]) (by omega) (by simp [World.frozen?, hvb]) (by simp [World.frozen?, hvb])]
    rfl
  have hb1 : (0 : Int) ≤ (i : Int) + 1 := by omega
  have hw1 : IntKind.i64.wrap ((i : Int) + 1) = (i : Int) + 1 := by rw [IntKind.wrap_i64]; omega
  have htn : ((i : Int) + 1).toNat = i + 1 := by omega
  have htn2 : ((n : Int) + 1).toNat = n + 1 := by omega
  have hz2 : ¬ ((i : Int) = (n : Int)) := by omega
  have hz3 : (n : Int) + 1 ≤ (cap : Int) := by omega
  have hz4 : (i : Int) ≤ (n : Int) := by omega
  have hz5 : (i : Int) + 1 ≤ (n : Int) + 1 := by omega
  have hz6 : (i : Int) ≤ (n : Int) + 1 := by omega
  have hnI : (n : Int) ≤ 90000 := by omega
  have hb2 : ¬ (cap = i + 1) := by omega
  have hb4 : ¬ (cap = i) := by omega
  have hcI : (cap : Int) ≤ 9223372036854775807 := by unfold maxLen at hcm; omega
  have hW1 : (w.drew.setRow g C1).heap[g]? = some (.cells C1 25 (0, 0)) := setRow_heap w.drew g cur _ _ _ hg
  have hW1v : (w.drew.setRow g C1).heap[vb]? = some (.cells vs.toArray 25 (0, 0)) := (setRow_other w.drew g vb _ hne).trans hvb
  have FIN : Hid (((w.drew.setRow g C1).setRow g C2).ownsRow B 25 5 (.slice (some ⟨g, 0, none⟩) (n + 1) cap) (n + 1) (xs.take (i * 5) ++ vs ++ xs.drop (i * 5)) ∧ w.grownBy ((w.drew.setRow g C1).setRow g C2) (some g)) := by
    refine ⟨⟨ins_take hlen hvl (Nat.le_of_lt hi), .inr ⟨g, cap, C2, rfl, hb, setRow_heap _ g C1 _ _ _ hW1, by omega, hcm, ?_, ?_⟩⟩, ⟨rfl, rfl, rfl, by simp, fun k hk hne => ?_⟩⟩
    · rw [← Array.length_toList, hE2]
      simp only [List.length_append, List.length_take, List.length_drop, hvl, hlen, hcl]
      omega
    · rw [hE2]
      exact List.take_left' (ins_take hlen hvl (Nat.le_of_lt hi))
    · have hkg : k ≠ g := fun e => hne (by rw [e])
      rw [setRow_other _ g k _ hkg, setRow_other _ g k _ hkg]
      rfl
  clear hC1 hC2 hE2 hS1 hcl hdl hA htk hcs hcm hown hlen hone h1v hb hsz hroom
  have HHg := Lib.hid hg
  clear hg
  go_enter Try.func45, Try.ntmps45
  go_wp2_with (simp only [hov])
  go_region_law (refine step_copyV rfl _ _ 23 23 rfl _ _ (by simp [Act.eval, Act.put]) (by simp [Act.eval, Act.put]) (hcp1 _ _ _) ?_)
  go_wp2_with (at_builtin; refine wpList_copyV _ rfl _ _ 23 23 rfl _ _ rfl rfl (hcp2 _ _ _ hW1 hW1v) ?_)
  go_ret
  exact ⟨⟨_, rfl, FIN.out.1, .inl rfl⟩, FIN.out.2⟩
end Go.Proofs.Ytcmalaabggohmaa
