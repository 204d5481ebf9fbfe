/-
  Texts of zero bytes; the statement 'b, e := value.With(a, "b", yes())' of the laws' awake, which draws its order.
  What the operations of a drawn region leave, each in a slot of its own: by the kind of what it leaves.
-/
import Derived.Test.YtcmalaabggohmaaValWith2
import Derived.Test.YtcmalaabggohmaaValMay2
import Derived.Test.YtcmalaabggohmaaValSame
import Derived.Laws.MakeOwn
import Derived.Laws.IdiomStrings
import Derived.Test.YtcmalaabggohmaaRegGrow
namespace Go.Proofs.Ytcmalaabggohmaa
section
open Go.RowKit

/-- n zero bytes -/
def Zs (n : Nat) : List UInt8 := List.replicate n 0
def ZA (n : Nat) : Array Value := (V (Zs n)).toArray
theorem Zs_length (n : Nat) : (Zs n).length = n := by simp [Zs]
theorem cnt_zeros : ∀ n : Nat, Um.cnt (Zs n) = some n
  | 0 => rfl
  | n + 1 => by
    have h : Um.nx (Zs (n + 1)) = (0, 1, 0) := by
      unfold Um.nx
      rw [show Um.bt (Zs (n + 1)) 0 = 0 from rfl]
      unfold Um.nxN
      rw [if_neg (by rw [Zs_length]; omega), if_pos (by omega)]
    rw [Um.cnt_ok h]
    show (Um.cnt (Zs n)).map (· + 1) = _
    rw [cnt_zeros n]
    rfl
theorem txt_zeros (n : Nat) : Jn.txt (Zs n) = decide (n ≤ 4096) := by
  unfold Jn.txt
  rw [LEN_some (cnt_zeros n), Zs_length]
  rfl
theorem made_zs (n : Nat) : madeCells (Value.int .u8 0).cells (n * 1) = ZA n := by
  rw [Nat.mul_one]
  apply Array.ext
  · rw [size_madeCells]
    simp [ZA, V, Zs]
  · intro i h1 h2
    simp [madeCells, ZA, V, Zs, Value.cells, Nat.mod_one]
theorem run_make_zs (n : Nat) (c : Int) (hc : c = (n : Int)) (hn : n ≤ 100000000) (w : World) :
    (Instr.makeSlice 41 (.int .i64 c) (.int .i64 c)).run Try.prog w = .ok (.slice (some ⟨w.heap.size, 0, none⟩) n n) (w.alloc (.cells (ZA n) 5)) := by
  subst hc
  obtain ⟨i0, hi, hz, hs, hb⟩ := info_parts info5
  have h := run_make (P := Try.prog) w 41 5 i0 _ Try.underlying41 hi hz .i64 .i64 (n : Int) (n : Int) (by omega) (by omega) (by rw [hb]; omega) (by omega)
  rw [h, Int.toNat_natCast, hs, made_zs]
theorem conv_zs (w : World) (b n : Nat) (h : w.heap[b]? = some (.cells (ZA n) 5 (0, 0))) :
    (convert 41 9 (.slice (some ⟨b, 0, none⟩) n n)).run Try.prog w = .ok (.string (S (Zs n))) w := by
  have := run_convert_bytes_back (P := Try.prog) w 41 9 5 ⟨b, 0, none⟩ n (Zs n) Try.underlying41 Try.underlying5 Try.underlying9 (by
    intro j hj
    rw [plain_add, Nat.zero_add, cell_of_row w b j _ _ _ h]
    simp [ZA, V, List.getElem?_eq_getElem hj])
  rwa [Zs_length] at this
def TAw : List (Option Tmp × Op × List Nat) :=
  [(some 10, .load 25 (.tmp 1), []), (some 11, .call { callee := .value (.func 34), args := #[], argTypes := #[] }, []),
  (some 12, .call { callee := .value (.func 24), args := #[.tmp 10, .const (.string ⟨#[98]⟩), .tmp 11], argTypes := #[25, 9, 25] }, [0, 1, 1]),
  (some 9, .move (.tmp 12), [2]), (some 13, .extract (.tmp 9) 0, [3]), (some 14, .extract (.tmp 9) 1, [3]), (some 2, .alloc 25, []),
  (none, .store 25 (.tmp 2) (.tmp 13), [6, 4, 2, 0, 1, 2, 3, 4, 6]), (some 3, .assign (.tmp 14), [5, 7, 0, 1, 2, 3, 4, 5, 6, 7])]
def pAw : Nat → Bool := fun i => decide (9 ≤ i) && decide (i ≤ 14) || (decide (i = 2) || decide (i = 3))
def DAw : Nat → Nat
  | 0 => 10 | 1 => 11 | 2 => 12 | 3 => 9 | 4 => 13 | 5 => 14 | 6 => 2 | 8 => 3 | _ => 0
theorem DAw_inj : ∀ i, i < 9 → ∀ j, j < 9 → DAw i = DAw j → i = j := by decide
theorem DAw_in : ∀ i, i < 9 → i ≠ 7 → pAw (DAw i) = true ∧ DAw i ≤ 14 := by decide
/-- what operation k has left -/
def GAw (w1 : World) (A0 : Value) (y : JV) (E : Int) (b : Nat) (d0 d1 d2 d3 d4 : Value) (u1 : Value) (L6 L7 : Bool) : Nat → World → Value → Prop
  | 0, _, v => v = A0
  | 1, w, v => v = u1 ∧ HV w u1 JV.yes
  | 2, w, v => v = .tuple #[.agg #[d0, d1, d2, d3, d4], .int .i64 E] ∧ HCp (fun k => w1.heap.size ≤ k ∧ (L6 = true → k ≠ b)) w [d0, d1, d2, d3, d4] y
  | 3, _, v => v = .tuple #[.agg #[d0, d1, d2, d3, d4], .int .i64 E]
  | 4, _, v => v = .agg #[d0, d1, d2, d3, d4]
  | 5, _, v => v = .int .i64 E
  | 6, w, v => v = .pointer (some ⟨b, 0, none⟩) ∧ w1.heap.size ≤ b ∧ (L7 = false → VAt b w (.int .u8 0) (.int .i64 0) (.string ⟨#[]⟩) (.slice none 0 0) (.slice none 0 0)) ∧ (L7 = true → VAt b w d0 d1 d2 d3 d4)
  | 8, _, v => v = .int .i64 E
  | _, _, _ => True
theorem GAw.below {w1 : World} {A0 : Value} {y : JV} {E : Int} {b : Nat} {d0 d1 d2 d3 d4 u1 : Value} {L6 L7 : Bool} {w w' : World} (hb : Below w.heap.size w w') : ∀ {k : Nat} {v : Value}, GAw w1 A0 y E b d0 d1 d2 d3 d4 u1 L6 L7 k w v → GAw w1 A0 y E b d0 d1 d2 d3 d4 u1 L6 L7 k w' v
  | 0, _, h => h
  | 1, _, h => ⟨h.1, h.2.below hb⟩
  | 2, _, h => ⟨h.1, HCp.stay (fun k hk hl => ⟨hk, hb.block k hl⟩) _ _ h.2⟩
  | 3, _, h => h
  | 4, _, h => h
  | 5, _, h => h
  | 6, _, h => ⟨h.1, h.2.1, fun e => (h.2.2.1 e).below hb, fun e => (h.2.2.2 e).below hb⟩
  | 7, _, _ => trivial
  | 8, _, h => h
  | _ + 9, _, _ => trivial
def IAw (w1 : World) (A0 : Value) (y : JV) (E : Int) (b : Nat) (d0 d1 d2 d3 d4 : Value) (u1 : Value) (listed : Array Bool) (f : Nat → Value) (w : World) : Prop :=
  Below w1.heap.size w1 w ∧ ∀ k, k < 9 → listed.getD k false = true → GAw w1 A0 y E b d0 d1 d2 d3 d4 u1 (listed.getD 6 false) (listed.getD 7 false) k w (f (DAw k))
theorem HV_yes {w : World} {u : Value} (h : HV w u JV.yes) (w' : World) : HV w' u JV.yes := by
  obtain ⟨cs, h1, h2⟩ := h
  refine ⟨cs, h1, ?_⟩
  unfold JV.yes HC at h2 ⊢
  obtain ⟨a, b, ca, cb, h3, h4, _, _⟩ := h2
  exact ⟨a, b, ca, cb, h3, h4, NS.nil _ _, .inl rfl⟩
theorem rc_extract {o : Oper} {a : Act} {w : World} {K : Act → World → Prop} {Q : Exit → Act → World → Prop} {x : Operand} {k : Nat} {vs : Array Value} {v : Value} (ho : o.op = .extract x k) (hx : a.eval x = .tuple vs) (hk : vs[k]? = some v) (h : K (a.put o.dst v) w) : o.wp Try.prog a w K Q :=
  wp_val (by
    simp [execOp, ho, hx]
    simp [Instr.extract, hk]) h
theorem ones5 {P : Nat → Prop} {w : World} {d0 d1 d2 d3 d4 : Value} {y : JV} (h : HCp P w [d0, d1, d2, d3, d4] y) : ∀ u ∈ [d0, d1, d2, d3, d4], u.oneCell' = true := fun u hu => HCSp.ones (HCSp.one h) u hu
theorem op_alloc {o : Oper} {a : Act} {w : World} {K : Act → World → Prop} {Q : Exit → Act → World → Prop} (ho : o.op = .alloc 25) (h : K (a.put o.dst (.pointer (some ⟨w.heap.size, 0, none⟩))) (w.alloc (.cells V5 25))) : o.wp Try.prog a w K Q := by
  obtain ⟨i0, hi0, hz0, hz1, hz2⟩ := info_parts info_val
  refine wp_val (v := .pointer (some ⟨w.heap.size, 0, none⟩)) (w' := w.alloc (.cells V5 25)) ?_ h
  simp [execOp, ho, go_sem]
  rfl
set_option maxHeartbeats 2000000 in
set_option maxRecDepth 100000 in
theorem region_awake {ops : Array Oper} {Q : Exit → Act → World → Prop} {A : Act} {id : Nat} {w1 : World}
    (hkey : ops.toList.map keyOf = TAw.map fun x => (x.1, x.2.1, true, x.2.2)) (hlow : (List.range ops.size).all (fun i => match ops[i]? with | some o => o.after.all (fun e => !Region.binds .any e || decide (e.on < i)) | none => true) = true)
    (hsz : 14 < A.tmps.size) {ab : Nat} {c0 c1 c2 c3 c4 : Value} {y : JV} {E : Int}
    (ea : A.eval (.tmp 1) = .pointer (some ⟨ab, 0, none⟩)) (hX : VAt ab w1 c0 c1 c2 c3 c4)
    (cW : ∀ w u, Below w1.heap.size w1 w → HV w u JV.yes → Calls Try.prog 24 #[.agg #[c0, c1, c2, c3, c4], .string ⟨#[98]⟩, u] w fun e w' => (∃ u', e = .returned (.tuple #[u', .int .i64 E]) ∧ HO w.heap.size w' u' y) ∧ Below w.heap.size w w')
    (fin : ∀ (f : Nat → Value) w' b d0 d1 d2 d3 d4, f 2 = .pointer (some ⟨b, 0, none⟩) → f 3 = .int .i64 E → VAt b w' d0 d1 d2 d3 d4 → HV w' (.agg #[d0, d1, d2, d3, d4]) y → Below w1.heap.size w1 w' → Q .normal (putR A pAw f) w') :
    (Code.region id ops true).wp Try.prog Q A w1 := by
  have b1 := below_drew w1
  have ldX : ∀ w, Below w1.heap.size w1 w → (Instr.loadAt 25 (.pointer (some ⟨ab, 0, none⟩))).run Try.prog w = .ok (.agg #[c0, c1, c2, c3, c4]) w := fun w hb => ld_val _ fun j u hj => by
    obtain ⟨⟨p0, p1, p2, p3, p4⟩, _⟩ := (hX.below hb).cells
    rw [Nat.zero_add]
    rcases j with _ | _ | _ | _ | _ | j
    all_goals simp only [List.getElem?_cons_zero, List.getElem?_cons_succ, List.getElem?_nil, Option.some.injEq, reduceCtorEq] at hj
    all_goals subst hj
    all_goals assumption
  have hab : ab < w1.heap.size := (Array.getElem?_eq_some_iff.1 hX).1
  refine wp_region_tab (by kernel_rfl) TAw hkey hlow pAw (fun listed f w => listed.size = 9 ∧ Closed TAw listed ∧ ∃ b d0 d1 d2 d3 d4 u1, IAw w1 (.agg #[c0, c1, c2, c3, c4]) y E b d0 d1 d2 d3 d4 u1 listed f w) ?_ ?_ ?_
  · refine ⟨rfl, Closed.zero _ _, 0, .int .i64 0, .int .i64 0, .int .i64 0, .int .i64 0, .int .i64 0, .int .i64 0, b1, ?_⟩
    intro k hk h
    simp [Array.getElem?_replicate] at h
    split at h <;> simp at h
  · intro listed f w i z hI hy hun hdep o hd hop
    obtain ⟨hs, hC, b, d0, d1, d2, d3, d4, u1, hB, hG⟩ := hI
    have hC' := hC.set hy hdep
    have hi9 : i < 9 := (List.getElem?_eq_some_iff.1 hy).1
    have hun' := unlisted hun
    have EV (k : Nat) (hk : k < 9) (h7 : k ≠ 7) : (putR A pAw f).eval (.tmp (DAw k)) = f (DAw k) := putR_in A pAw f _ (DAw_in k hk h7).1 (by have := (DAw_in k hk h7).2; omega)
    -- an operation that leaves v, in a world behind
    have fin1 (b' : Nat) (d0' d1' d2' d3' d4' u1' : Value) (v : Value) (w' : World) (hi7 : i ≠ 7) (ho : o.dst = some (DAw i)) (hB' : Below w1.heap.size w1 w') (hv : GAw w1 (.agg #[c0, c1, c2, c3, c4]) y E b' d0' d1' d2' d3' d4' u1' ((listed.setIfInBounds i true).getD 6 false) ((listed.setIfInBounds i true).getD 7 false) i w' v)
        (hk : ∀ k x, k < 9 → k ≠ i → listed.getD k false = true → GAw w1 (.agg #[c0, c1, c2, c3, c4]) y E b d0 d1 d2 d3 d4 u1 (listed.getD 6 false) (listed.getD 7 false) k w x → GAw w1 (.agg #[c0, c1, c2, c3, c4]) y E b' d0' d1' d2' d3' d4' u1' ((listed.setIfInBounds i true).getD 6 false) ((listed.setIfInBounds i true).getD 7 false) k w' x) :
        ∃ f', (putR A pAw f).put o.dst v = putR A pAw f' ∧ (listed.setIfInBounds i true).size = 9 ∧ Closed TAw (listed.setIfInBounds i true) ∧ ∃ b d0 d1 d2 d3 d4 u1, IAw w1 (.agg #[c0, c1, c2, c3, c4]) y E b d0 d1 d2 d3 d4 u1 (listed.setIfInBounds i true) f' w' := by
      refine ⟨_, by rw [ho]; exact putR_put _ _ _ (DAw i) _ (DAw_in i hi9 hi7).1, by simpa using hs, hC', b', d0', d1', d2', d3', d4', u1', hB', fun k hk9 hl => ?_⟩
      by_cases e : k = i
      · subst e
        simpa using hv
      · have hne : ¬ DAw k = DAw i := fun h => e (DAw_inj k hk9 i hi9 h)
        rw [getD_set_other e] at hl
        simp only [hne, if_false]
        exact hk k _ hk9 e hl (hG k hk9 hl)
    have C7 : listed.getD 7 false = true → listed.getD 6 false = true ∧ listed.getD 4 false = true := fun h => ⟨hC 7 _ rfl h 6 (by simp), hC 7 _ rfl h 4 (by simp)⟩
    have C4 : listed.getD 4 false = true → listed.getD 3 false = true ∧ listed.getD 2 false = true := fun h => ⟨hC 4 _ rfl h 3 (by simp), hC 3 _ rfl (hC 4 _ rfl h 3 (by simp)) 2 (by simp)⟩
    have C8 : listed.getD 8 false = true → listed.getD 7 false = true := fun h => hC 8 _ rfl h 7 (by simp)
    have C5 : listed.getD 5 false = true → listed.getD 2 false = true := fun h => hC 3 _ rfl (hC 5 _ rfl h 3 (by simp)) 2 (by simp)
    have same (h6 : i ≠ 6) (h7 : i ≠ 7) : (listed.setIfInBounds i true).getD 6 false = listed.getD 6 false ∧ (listed.setIfInBounds i true).getD 7 false = listed.getD 7 false := ⟨getD_set_other (fun e => h6 e.symm), getD_set_other (fun e => h7 e.symm)⟩
    have keep0 (h6 : i ≠ 6) (h7 : i ≠ 7) : ∀ k x, k < 9 → k ≠ i → listed.getD k false = true → GAw w1 (.agg #[c0, c1, c2, c3, c4]) y E b d0 d1 d2 d3 d4 u1 (listed.getD 6 false) (listed.getD 7 false) k w x → GAw w1 (.agg #[c0, c1, c2, c3, c4]) y E b d0 d1 d2 d3 d4 u1 ((listed.setIfInBounds i true).getD 6 false) ((listed.setIfInBounds i true).getD 7 false) k w x := fun k x _ _ _ h => by
      rw [(same h6 h7).1, (same h6 h7).2]
      exact h
    rcases i with _ | _ | _ | _ | _ | _ | _ | _ | _ | i
    all_goals simp only [TAw, List.getElem?_cons_zero, List.getElem?_cons_succ, List.getElem?_nil, Option.some.injEq, reduceCtorEq] at hy
    all_goals subst hy
    · exact op_load hop ((putR_out A pAw f 1 rfl).trans ea) (ldX w hB) (fin1 b d0 d1 d2 d3 d4 u1 _ w (by decide) hd hB rfl (keep0 (by decide) (by decide)))
    · -- yes()
      have hex := exec_call (P := Try.prog) (a := putR A pAw f) (w := w) 34 (args := #[]) hop (by simp) (fun args w => by kernel_rfl)
      unfold Oper.wp
      rw [hex, Oper.upon_enter]
      refine (yes_any w).mono fun e w' ⟨v, he, h1, h2⟩ => ?_
      subst he
      have h2c : listed.getD 2 false = false := nt fun h => not_of_unlisted hun (hC 2 _ rfl h 1 (by simp))
      refine fin1 b d0 d1 d2 d3 d4 v v w' (by decide) hd (hB.trans (h2.mono hB.size)) ⟨rfl, h1⟩ fun k x hk hne hl hg => ?_
      have hg := GAw.below h2 (keep0 (by decide) (by decide) k x hk hne hl hg)
      rcases k with _ | _ | _ | _ | _ | _ | _ | _ | _ | k
      all_goals first | exact hg | (exact (hne rfl).elim)
    · -- With
      have g0 := hG 0 (by omega) (hdep 0 (by simp))
      have g1 := hG 1 (by omega) (hdep 1 (by simp))
      have h0 : (putR A pAw f).eval (.tmp 10) = .agg #[c0, c1, c2, c3, c4] := (EV 0 (by omega) (by decide)).trans g0
      have h1 : (putR A pAw f).eval (.tmp 11) = u1 := (EV 1 (by omega) (by decide)).trans g1.1
      have hex := exec_call (P := Try.prog) (a := putR A pAw f) (w := w) 24 (args := #[.agg #[c0, c1, c2, c3, c4], .string ⟨#[98]⟩, u1]) hop (by simp only [List.map_toArray, List.map_cons, List.map_nil, h0, h1]; rfl) (fun args w => by kernel_rfl)
      have h3 : listed.getD 3 false = false := nt fun h => not_of_unlisted hun (hC 3 _ rfl h 2 (by simp))
      have h4 : listed.getD 4 false = false := nt fun h => not_t h3 (C4 h).1
      have h7 : listed.getD 7 false = false := nt fun h => not_t h4 (C7 h).2
      unfold Oper.wp
      rw [hex, Oper.upon_enter]
      refine (cW w u1 hB g1.2).mono fun e w' ⟨⟨u', he, hO⟩, h2⟩ => ?_
      subst he
      obtain ⟨cs, hu, hP⟩ := hO.hcp
      obtain ⟨za, zb, zca, zcb, hz, _⟩ := hP.one
      subst hz
      subst hu
      refine fin1 b _ _ _ _ _ u1 _ w' (by decide) hd (hB.trans (h2.mono hB.size)) ⟨rfl, ?_⟩ fun k x hk hne hl hg => ?_
      · rw [(same (by decide) (by decide)).1]
        refine HCp.stay (fun k hk _ => ⟨⟨by have := hB.size; omega, fun h6 => ?_⟩, rfl⟩) _ _ hP
        have g6 := hG 6 (by omega) h6
        have := (Array.getElem?_eq_some_iff.1 (g6.2.2.1 h7)).1
        omega
      · have hg := GAw.below h2 (keep0 (by decide) (by decide) k x hk hne hl hg)
        have s7 := (same (by decide) (by decide)).2
        rcases k with _ | _ | _ | _ | _ | _ | _ | _ | _ | k
        · exact hg
        · exact hg
        · exact (hne rfl).elim
        · exact (not_t h3 hl).elim
        · exact (not_t h4 hl).elim
        · exact (not_t hun' (C5 hl)).elim
        · exact ⟨hg.1, hg.2.1, hg.2.2.1, fun h => (not_t h7 (s7 ▸ h)).elim⟩
        · exact trivial
        · exact (not_t h7 (C8 hl)).elim
        · exact trivial
    · have g2 := hG 2 (by omega) (hdep 2 (by simp))
      exact op_move hop ((EV 2 (by omega) (by decide)).trans g2.1) (fin1 b d0 d1 d2 d3 d4 u1 _ w (by decide) hd hB rfl (keep0 (by decide) (by decide)))
    · have g3 := hG 3 (by omega) (hdep 3 (by simp))
      exact rc_extract hop ((EV 3 (by omega) (by decide)).trans g3) rfl (fin1 b d0 d1 d2 d3 d4 u1 _ w (by decide) hd hB rfl (keep0 (by decide) (by decide)))
    · have g3 := hG 3 (by omega) (hdep 3 (by simp))
      exact rc_extract hop ((EV 3 (by omega) (by decide)).trans g3) rfl (fin1 b d0 d1 d2 d3 d4 u1 _ w (by decide) hd hB rfl (keep0 (by decide) (by decide)))
    · -- the new variable
      have h7 : listed.getD 7 false = false := nt fun h => not_of_unlisted hun (C7 h).1
      have s7 : (listed.setIfInBounds 6 true).getD 7 false = false := by rw [getD_set_other (by decide)]; exact h7
      have s6 : (listed.setIfInBounds 6 true).getD 6 false = true := getD_set_self (by omega)
      have ba : Below w.heap.size w (w.alloc (.cells V5 25)) := (Below.refl _ _).alloc (Nat.le_refl _) _
      refine op_alloc hop (fin1 w.heap.size d0 d1 d2 d3 d4 u1 _ _ (by decide) hd (hB.trans (ba.mono hB.size)) ⟨rfl, hB.size, fun _ => heap_alloc_new w _, fun h => (not_t s7 h).elim⟩ fun k x hk hne hl hg => ?_)
      rw [s6, s7]
      rw [hun', h7] at hg
      have hg0 := hg
      have hg := GAw.below ba hg
      rcases k with _ | _ | _ | _ | _ | _ | _ | _ | _ | k
      · exact hg
      · exact hg
      · exact ⟨hg0.1, HCp.stay (fun k hk hl => ⟨⟨hk.1, fun _ => by omega⟩, ba.block k hl⟩) _ _ hg0.2⟩
      · exact hg
      · exact hg
      · exact hg
      · exact (hne rfl).elim
      · exact trivial
      · exact hg
      · exact trivial
    · -- the store
      have h6 := hdep 6 (by simp)
      have h4 := hdep 4 (by simp)
      have h2 := (C4 h4).2
      have g6 := hG 6 (by omega) h6
      have g4 := hG 4 (by omega) h4
      have g2 := hG 2 (by omega) h2
      have e6 : (putR A pAw f).eval (.tmp 2) = .pointer (some ⟨b, 0, none⟩) := (EV 6 (by omega) (by decide)).trans g6.1
      have e4 : (putR A pAw f).eval (.tmp 13) = .agg #[d0, d1, d2, d3, d4] := (EV 4 (by omega) (by decide)).trans g4
      have hv := g6.2.2.1 hun'
      have hst := st_five w b 0 _ hv (by simp) d0 d1 d2 d3 d4 (ones5 g2.2)
      have hw2 := setRow_heap w b _ ((#[Value.int .u8 0, .int .i64 0, .string ⟨#[]⟩, .slice none 0 0, .slice none 0 0].toList.take 0 ++ [d0, d1, d2, d3, d4] ++ #[Value.int .u8 0, .int .i64 0, .string ⟨#[]⟩, .slice none 0 0, .slice none 0 0].toList.drop (0 + 5)).toArray) _ _ hv
      have s7 : (listed.setIfInBounds 7 true).getD 7 false = true := getD_set_self (by omega)
      have s6 : (listed.setIfInBounds 7 true).getD 6 false = true := by rw [getD_set_other (by decide)]; exact h6
      refine op_store hop e6 e4 hd hst ⟨f, rfl, by simpa using hs, hC', b, d0, d1, d2, d3, d4, u1, ⟨hB.os, hB.tape, hB.output, by simpa using hB.size, fun k hk => ?_⟩, fun k hk hl => ?_⟩
      · rw [setRow_other w b k _ (by have := g6.2.1; omega)]
        exact hB.block k hk
      · rw [s6, s7]
        by_cases e : k = 7
        · subst e; exact trivial
        rw [getD_set_other e] at hl
        have hg := hG k hk hl
        rw [h6, hun'] at hg
        rcases k with _ | _ | _ | _ | _ | _ | _ | _ | _ | k
        · exact hg
        · exact ⟨hg.1, HV_yes hg.2 _⟩
        · exact ⟨hg.1, HCp.stay (fun k hk hl => ⟨hk, setRow_other w b k _ (hk.2 rfl)⟩) _ _ hg.2⟩
        · exact hg
        · exact hg
        · exact hg
        · exact ⟨hg.1, hg.2.1, fun h => Bool.noConfusion h, fun _ => hw2⟩
        · exact trivial
        · exact hg
        · exact trivial
    · have g5 := hG 5 (by omega) (hdep 5 (by simp))
      have e5 : (putR A pAw f).eval (.tmp 14) = .int .i64 E := (EV 5 (by omega) (by decide)).trans g5
      exact wp_val (by simp [execOp, hop, e5]) (fin1 b d0 d1 d2 d3 d4 u1 _ w (by decide) hd hB rfl (keep0 (by decide) (by decide)))
  · intro listed f w hI hall
    obtain ⟨hs, hC, b, d0, d1, d2, d3, d4, u1, hB, hG⟩ := hI
    have hT : TAw.length = 9 := rfl
    have g6 := hG 6 (by omega) (hall 6 (by omega))
    have g2 := hG 2 (by omega) (hall 2 (by omega))
    have g8 := hG 8 (by omega) (hall 8 (by omega))
    exact fin f w b d0 d1 d2 d3 d4 g6.1 g8 (g6.2.2.2 (hall 7 (by omega))) ⟨_, rfl, HCp.hc _ _ g2.2⟩ hB
end

section
open Go.RowKit

/-- kinds of what an operation leaves -/
inductive Fd where
  | val (v : Value)
  | jv (x : JV)
  | names (ns : List (List UInt8))
  | items (is : List JV)
  | zs (n : Nat)
def FD : Fd → World → Value → Prop
  | .val x, _, v => v = x
  | .jv x, u, v => HV u v x
  | .names ns, u, v => ∃ b, v = .slice (some ⟨b, 0, none⟩) ns.length ns.length ∧ u.heap[b]? = some (.cells (NC ns).toArray 9 (0, 0))
  | .items is, u, v => ∃ b cs, v = .slice (some ⟨b, 0, none⟩) is.length is.length ∧ u.heap[b]? = some (.cells (cs : List Value).toArray 25 (0, 0)) ∧ HCS u cs is
  | .zs n, u, v => ∃ b, v = .slice (some ⟨b, 0, none⟩) n n ∧ u.heap[b]? = some (.cells (ZA n) 5 (0, 0))
theorem FD.below {u u' : World} (hb : Below u.heap.size u u') : ∀ {d : Fd} {v : Value}, FD d u v → FD d u' v
  | .val _, _, h => h
  | .jv _, _, h => HV.below h hb
  | .names _, _, ⟨b, h1, h2⟩ => ⟨b, h1, (hb.block b (Array.getElem?_eq_some_iff.1 h2).1).trans h2⟩
  | .items _, _, ⟨b, cs, h1, h2, h3⟩ => ⟨b, cs, h1, (hb.block b (Array.getElem?_eq_some_iff.1 h2).1).trans h2, HCS.below hb _ _ h3⟩
  | .zs _, _, ⟨b, h1, h2⟩ => ⟨b, h1, (hb.block b (Array.getElem?_eq_some_iff.1 h2).1).trans h2⟩
def Fl (l : List Fd) (k : Nat) (u : World) (v : Value) : Prop := match l[k]? with | some d => FD d u v | none => True
theorem Fl.below (l : List Fd) (k : Nat) (u u' : World) (v : Value) (hb : Below u.heap.size u u') (h : Fl l k u v) : Fl l k u' v := by
  unfold Fl at *
  split
  · rename_i d hd
    rw [hd] at h
    exact FD.below hb h
  · trivial
def Gl (l : List Fd) (k : Nat) : Option Bool := match l[k]? with | some (.val (.bool b)) => some b | _ => none
theorem Gl.val (l : List Fd) (k : Nat) (c : Bool) (u : World) (v : Value) (h : Gl l k = some c) (h2 : Fl l k u v) : v = .bool c := by
  unfold Gl at h
  unfold Fl at h2
  split at h
  · rename_i b hb
    rw [hb] at h2
    simp only [Option.some.injEq] at h
    rw [← h]
    exact h2
  · cases h
section
variable {Q : Exit → Act → World → Prop} {a : Act} {u : World} {o : Oper} {d : Fd}
abbrev Gw (o : Oper) (a : Act) (u : World) (Q : Exit → Act → World → Prop) (d : Fd) : Prop := o.wp Try.prog a u (fun a' u' => ∃ v, a' = a.put o.dst v ∧ FD d u' v ∧ Below u.heap.size u u') Q
theorem gl_val {v : Value} (h : (execOp a.eval o).run Try.prog u = .ok (.value v) u) : Gw o a u Q (.val v) := wp_val h ⟨v, rfl, rfl, Below.refl _ _⟩
theorem eval_c (v : Value) : a.eval (.const v) = v := rfl
theorem gl_move {x : Operand} (ho : o.op = .move x) (hx : FD d u (a.eval x)) : Gw o a u Q d := wp_val (by simp only [execOp, ho]; rfl) ⟨_, rfl, hx, Below.refl _ _⟩
theorem gl_assign {x : Operand} (ho : o.op = .assign x) (hx : FD d u (a.eval x)) : Gw o a u Q d := wp_val (by simp only [execOp, ho]; rfl) ⟨_, rfl, hx, Below.refl _ _⟩
theorem ld_box {b : Nat} {c0 c1 c2 c3 c4 : Value} (h : VAt b u c0 c1 c2 c3 c4) : (Instr.loadAt 25 (.pointer (some ⟨b, 0, none⟩))).run Try.prog u = .ok (.agg #[c0, c1, c2, c3, c4]) u := ld_val _ fun j z hj => by
  obtain ⟨⟨p0, p1, p2, p3, p4⟩, _⟩ := h.cells
  rw [Nat.zero_add]
  rcases j with _ | _ | _ | _ | _ | j
  all_goals simp only [List.getElem?_cons_zero, List.getElem?_cons_succ, List.getElem?_nil, Option.some.injEq, reduceCtorEq] at hj
  all_goals subst hj
  all_goals assumption
theorem gl_load {x : Operand} {b : Nat} {c0 c1 c2 c3 c4 : Value} {X : JV} (ho : o.op = .load 25 x) (hx : a.eval x = .pointer (some ⟨b, 0, none⟩)) (h : VAt b u c0 c1 c2 c3 c4) (hh : HV u (.agg #[c0, c1, c2, c3, c4]) X) : Gw o a u Q (.jv X) :=
  wp_val (by simp [execOp, ho, hx, ld_box h]) ⟨_, rfl, hh, Below.refl _ _⟩
/-- a call of a function by its name -/
theorem gl_call (f : FuncId) {xs : Array Operand} {ts : Array TypeId} {args : Array Value} (ho : o.op = .call { callee := .value (.func f), args := xs, argTypes := ts }) (hx : xs.map a.eval = args)
    (hf : ∀ args w, (callFunc f args).run Try.prog w = .ok (.enter f args) w) (hc : Calls Try.prog f args u fun e w' => ∃ v, e = .returned v ∧ FD d w' v ∧ Below u.heap.size u w') : Gw o a u Q d := by
  unfold Gw Oper.wp
  rw [exec_call f ho hx hf, Oper.upon_enter]
  refine hc.mono fun e w' ⟨v, he, hr⟩ => ?_
  subst he
  exact ⟨v, rfl, hr⟩
theorem gl_ret {f : FuncId} {args : Array Value} {v : Value} (h : Calls Try.prog f args u fun e w' => e = .returned v ∧ Below u.heap.size u w') : Calls Try.prog f args u fun e w' => ∃ z, e = .returned z ∧ FD (.val v) w' z ∧ Below u.heap.size u w' :=
  h.mono fun _ _ ⟨h1, h2⟩ => ⟨v, h1, rfl, h2⟩
theorem gl_not {x : Operand} {c : Bool} (ho : o.op = .unOp .not 4 x) (hx : a.eval x = .bool c) : Gw o a u Q (.val (.bool (!c))) := gl_val (by simp [execOp, ho, hx]; simp [go_sem])
theorem gl_eqi {t : TypeId} {x : Operand} {y z : Int} {r : Bool} (ho : o.op = .binOp .eql t x (.const (.int .i64 z)) t) (hx : a.eval x = .int .i64 y) (hr : (y == z) = r) : Gw o a u Q (.val (.bool r)) := gl_val (by
  subst hr
  have hc : a.eval (.const (.int .i64 z)) = .int .i64 z := rfl
  simp [execOp, ho, hx, hc, eqGuard]
  simp [go_sem, binOp])
theorem gl_eqb {x y : Operand} {b c : Bool} (ho : o.op = .binOp .eql 4 x y 4) (hx : a.eval x = .bool b) (hy : a.eval y = .bool c) : Gw o a u Q (.val (.bool (b == c))) := gl_val (by
  have he := run_equal_bool u 4 b c Try.underlying4
  simp [execOp, ho, hx, hy, eqGuard]
  simp [binOp, he])
theorem gl_neb {x y : Operand} {b c : Bool} (ho : o.op = .binOp .neq 4 x y 4) (hx : a.eval x = .bool b) (hy : a.eval y = .bool c) : Gw o a u Q (.val (.bool (b != c))) := gl_val (by
  have he := run_equal_bool u 4 b c Try.underlying4
  simp [execOp, ho, hx, hy, eqGuard]
  simp [binOp, he]
  cases b <;> cases c <;> rfl)
theorem gl_eqii {x y : Operand} {b c : Int} (ho : o.op = .binOp .eql 3 x y 3) (hx : a.eval x = .int .i64 b) (hy : a.eval y = .int .i64 c) : Gw o a u Q (.val (.bool (b == c))) := gl_val (by simp [execOp, ho, hx, hy, eqGuard]; simp [go_sem, binOp])
/-- '&&' behind what is true: what stands on the right; behind what is false: false -/
theorem gl_and {x y : Operand} {b c r : Bool} (ho : o.op = .pick x y (.const (.bool false))) (hx : a.eval x = .bool b) (hy : b = true → a.eval y = .bool c) (hr : r = (b && c)) : Gw o a u Q (.val (.bool r)) := by
  subst hr
  have hc : a.eval (.const (.bool false)) = .bool false := rfl
  cases b with
  | true => exact gl_val (by simp [execOp, ho, hx, hy rfl]; first | done | simp [go_sem])
  | false => exact gl_val (by simp [execOp, ho, hx, hc]; first | done | simp [go_sem])
/-- '||' -/
theorem gl_or {x y : Operand} {b c r : Bool} (ho : o.op = .pick x (.const (.bool true)) y) (hx : a.eval x = .bool b) (hy : b = false → a.eval y = .bool c) (hr : r = (b || c)) : Gw o a u Q (.val (.bool r)) := by
  subst hr
  have hc : a.eval (.const (.bool true)) = .bool true := rfl
  cases b with
  | false => exact gl_val (by simp [execOp, ho, hx, hy rfl]; first | done | simp [go_sem])
  | true => exact gl_val (by simp [execOp, ho, hx, hc]; first | done | simp [go_sem])
theorem gl_names1 {l : List UInt8} (t : ByteArray) (ho : o.op = .buildSlice 22 1 #[(0, .const (.string t))]) (ht : t = S l) : Gw o a u Q (.names [l]) := by
  subst ht
  obtain ⟨i0, hi0, hz0, hz1, hz2⟩ := info_parts info_name
  refine wp_buildSlice 22 9 1 _ ho #[.string (S l)] i0 _ Try.underlying22 hi0 hz0 (by rw [hz1]; decide) (by rw [hz1]; decide) ?_ ⟨_, rfl, ⟨_, rfl, heap_alloc_new u _⟩, (Below.refl _ _).alloc (Nat.le_refl _) _⟩
  rw [hz1, show (#[(0, Operand.const (.string (S l)))].map fun y : Nat × Operand => (y.1, a.eval y.2)).toList = [(0, Value.string (S l))] by simp [Act.eval]]
  exact fill_str (S l)
theorem fill_str2 (t t' : ByteArray) : Instr.fill (fun i => some (i * 1, 1)) ((Array.range (2 * 1)).map ((Value.string ⟨#[]⟩).cells[· % (Value.string ⟨#[]⟩).cells.size]!)) [(0, .string t), (1, .string t')] = some #[.string t, .string t'] := by kernel_rfl
theorem gl_names2 {l l' : List UInt8} (t t' : ByteArray) (ho : o.op = .buildSlice 22 2 #[(0, .const (.string t)), (1, .const (.string t'))]) (ht : t = S l) (ht' : t' = S l') : Gw o a u Q (.names [l, l']) := by
  subst ht ht'
  obtain ⟨i0, hi0, hz0, hz1, hz2⟩ := info_parts info_name
  refine wp_buildSlice 22 9 2 _ ho #[.string (S l), .string (S l')] i0 _ Try.underlying22 hi0 hz0 (by rw [hz1]; decide) (by rw [hz1]; decide) ?_ ⟨_, rfl, ⟨_, rfl, heap_alloc_new u _⟩, (Below.refl _ _).alloc (Nat.le_refl _) _⟩
  rw [hz1, show (#[(0, Operand.const (.string (S l))), (1, Operand.const (.string (S l')))].map fun y : Nat × Operand => (y.1, a.eval y.2)).toList = [(0, Value.string (S l)), (1, Value.string (S l'))] by simp [Act.eval]]
  exact fill_str2 (S l) (S l')
theorem gl_items1 {x : Operand} {X : JV} (ho : o.op = .buildSlice 23 1 #[(0, x)]) (hx : HV u (a.eval x) X) : Gw o a u Q (.items [X]) := by
  obtain ⟨i0, hi0, hz0, hz1, hz2⟩ := info_parts info_val
  obtain ⟨cs, he, hc⟩ := hx
  obtain ⟨ya, yb, yca, ycb, rfl, _⟩ := hc.form
  have ba : Below u.heap.size u (u.alloc (.cells #[.int .u8 (X.k : Int), .int .i64 X.n, .string (S X.t), .slice ya X.ns.length yca, .slice yb X.is.length ycb] 25)) := (Below.refl _ _).alloc (Nat.le_refl _) _
  refine wp_buildSlice 23 25 1 _ ho #[.int .u8 (X.k : Int), .int .i64 X.n, .string (S X.t), .slice ya X.ns.length yca, .slice yb X.is.length ycb] i0 _ Try.underlying23 hi0 hz0 (by rw [hz1]; decide) (by rw [hz1]; decide) ?_ ⟨_, rfl, ⟨u.heap.size, _, rfl, heap_alloc_new u _, HCS.one (HC.below ba _ _ hc)⟩, ba⟩
  rw [hz1, show (#[(0, x)].map fun y : Nat × Operand => (y.1, a.eval y.2)).toList = [(0, Value.agg #[.int .u8 (X.k : Int), .int .i64 X.n, .string (S X.t), .slice ya X.ns.length yca, .slice yb X.is.length ycb])] by simp [he]]
  exact fill_val _ _ _ _ _
theorem fill_val2 (c0 c1 c2 c3 c4 d0 d1 d2 d3 d4 : Value) : Instr.fill (fun i => some (i * 5, 5)) ((Array.range (2 * 5)).map ((Value.agg V5).cells[· % (Value.agg V5).cells.size]!)) [(0, .agg #[c0, c1, c2, c3, c4]), (1, .agg #[d0, d1, d2, d3, d4])] = some #[c0, c1, c2, c3, c4, d0, d1, d2, d3, d4] := by kernel_rfl
theorem gl_items2 {x y : Operand} {X Y : JV} (ho : o.op = .buildSlice 23 2 #[(0, x), (1, y)]) (hx : HV u (a.eval x) X) (hy : HV u (a.eval y) Y) : Gw o a u Q (.items [X, Y]) := by
  obtain ⟨i0, hi0, hz0, hz1, hz2⟩ := info_parts info_val
  obtain ⟨cs, he, hc⟩ := hx
  obtain ⟨ya, yb, yca, ycb, rfl, _⟩ := hc.form
  obtain ⟨cs, he', hc'⟩ := hy
  obtain ⟨za, zb, zca, zcb, rfl, _⟩ := hc'.form
  have ba : Below u.heap.size u (u.alloc (.cells #[.int .u8 (X.k : Int), .int .i64 X.n, .string (S X.t), .slice ya X.ns.length yca, .slice yb X.is.length ycb, .int .u8 (Y.k : Int), .int .i64 Y.n, .string (S Y.t), .slice za Y.ns.length zca, .slice zb Y.is.length zcb] 25)) := (Below.refl _ _).alloc (Nat.le_refl _) _
  refine wp_buildSlice 23 25 2 _ ho #[.int .u8 (X.k : Int), .int .i64 X.n, .string (S X.t), .slice ya X.ns.length yca, .slice yb X.is.length ycb, .int .u8 (Y.k : Int), .int .i64 Y.n, .string (S Y.t), .slice za Y.ns.length zca, .slice zb Y.is.length zcb] i0 _ Try.underlying23 hi0 hz0 (by rw [hz1]; decide) (by rw [hz1]; decide) ?_ ⟨_, rfl, ⟨u.heap.size, _, rfl, heap_alloc_new u _, HCS.snoc (HC.below ba _ _ hc') (HCS.one (HC.below ba _ _ hc))⟩, ba⟩
  rw [hz1, show (#[(0, x), (1, y)].map fun y : Nat × Operand => (y.1, a.eval y.2)).toList = [(0, Value.agg #[.int .u8 (X.k : Int), .int .i64 X.n, .string (S X.t), .slice ya X.ns.length yca, .slice yb X.is.length ycb]), (1, Value.agg #[.int .u8 (Y.k : Int), .int .i64 Y.n, .string (S Y.t), .slice za Y.ns.length zca, .slice zb Y.is.length zcb])] by simp [he, he']]
  exact fill_val2 _ _ _ _ _ _ _ _ _ _
theorem gl_mk {n : Nat} (ho : o.op = .makeSlice 41 (.const (.int .i64 (n : Int))) (.const (.int .i64 (n : Int)))) (hn : n ≤ 100000000) : Gw o a u Q (.zs n) := by
  have hc : a.eval (.const (.int .i64 (n : Int))) = .int .i64 (n : Int) := rfl
  exact wp_val (by simp only [execOp, ho, hc]; rw [Sem.run_bind, run_make_zs n n rfl hn u]; rfl) ⟨_, rfl, ⟨_, rfl, heap_alloc_new u _⟩, (Below.refl _ _).alloc (Nat.le_refl _) _⟩
theorem gl_conv {x : Operand} {n : Nat} (ho : o.op = .convert 41 9 x) (hx : FD (.zs n) u (a.eval x)) : Gw o a u Q (.val (.string (S (Zs n)))) := by
  obtain ⟨b, h1, h2⟩ := hx
  have := conv_zs u b n h2
  exact gl_val (by simp only [execOp, ho, h1]; rw [Sem.run_bind, this]; rfl)
end
end
end Go.Proofs.Ytcmalaabggohmaa
