/-
  'was, then := value.Copy(v), value.Copy(x)' of ValueApart, which draws its order.
-/
import Derived.Test.YtcmalaabggohmaaValVars
namespace Go.Proofs.Ytcmalaabggohmaa
open Go.RowKit

def Tap : List (Option Tmp × Op × List Nat) :=
  [(some 29, Op.load 25 (Operand.tmp 3), []),
   (some 30, Op.call { callee := Callee.value (Operand.func 23), args := #[Operand.tmp 29], argTypes := #[25] }, [0]),
   (some 31, Op.load 25 (Operand.tmp 4), []),
   (some 32, Op.call { callee := Callee.value (Operand.func 23), args := #[Operand.tmp 31], argTypes := #[25] }, [2, 1]),
   (some 7, Op.alloc 25, []),
   (some 8, Op.alloc 25, []),
   (none, Op.store 25 (Operand.tmp 7) (Operand.tmp 30), [4, 1, 3, 0, 1, 4, 5]),
   (none, Op.store 25 (Operand.tmp 8) (Operand.tmp 32), [5, 3, 6, 0, 1, 2, 3, 4, 5, 6])]
def Dap (k : Nat) : Nat := [29, 30, 31, 32, 7, 8].getD k 0
def pap (i : Nat) : Bool := [29, 30, 31, 32, 7, 8].contains i
def kap (k : Nat) : Kd := if k < 4 then .grow else if k < 6 then .var else .put (k - 2) (if k = 6 then 1 else 3)
theorem kap_put {i a s : Nat} (h : kap i = .put a s) : 6 ≤ i ∧ a = i - 2 ∧ s = if i = 6 then 1 else 3 := by
  unfold kap at h
  split at h
  · cases h
  · split at h
    · cases h
    · simp only [Kd.put.injEq] at h
      exact ⟨by omega, h.1.symm, h.2.symm⟩
/-- a copy, none of whose blocks is a variable's -/
def Cpy (w : World) (O : Nat → Prop) (u : World) (v : Value) (x : JV) : Prop := ∃ cs, v = .agg (cs : List Value).toArray ∧ HCp (fun b => w.heap.size ≤ b ∧ ¬ O b) u cs x
def Fap (w : World) (X Y : Value) (x y : JV) : Nat → (Nat → Prop) → World → Value → Prop
  | 0, _, _, v => v = X
  | 1, O, u, v => Cpy w O u v x
  | 2, _, _, v => v = Y
  | 3, O, u, v => Cpy w O u v y
  | _, _, _, _ => False
theorem Cpy.stay {w : World} {O O' : Nat → Prop} {u u' : World} {v : Value} {x : JV} (h1 : ∀ b, b < u.heap.size → ¬ O b → u'.heap[b]? = u.heap[b]?) (h3 : ∀ b, O' b → O b ∨ u.heap.size ≤ b) (h : Cpy w O u v x) : Cpy w O' u' v x := by
  obtain ⟨cs, h4, h5⟩ := h
  refine ⟨cs, h4, HCp.stay (fun b hb hl => ⟨⟨hb.1, fun h => ?_⟩, h1 b hl hb.2⟩) _ _ h5⟩
  rcases h3 b h with h | h
  · exact hb.2 h
  · omega
theorem Cpy.one {w : World} {O : Nat → Prop} {u : World} {v : Value} {x : JV} (h : Cpy w O u v x) : ∃ c0 c1 c2 c3 c4, v = .agg #[c0, c1, c2, c3, c4] ∧ HCp (fun b => w.heap.size ≤ b ∧ ¬ O b) u [c0, c1, c2, c3, c4] x := by
  obtain ⟨cs, h4, h5⟩ := h
  obtain ⟨za, zb, zca, zcb, hz, _⟩ := h5.one
  subst hz
  exact ⟨_, _, _, _, _, h4, h5⟩
theorem cpy_call {w u : World} {O : Nat → Prop} {a : Act} {o : Oper} {Q : Exit → Act → World → Prop} {t : Nat} {X : Value} {x : JV} (hx : x.wt ≤ 90000) (hX : HV u X x) (hO : ∀ b, O b → w.heap.size ≤ b ∧ b < u.heap.size) (hb : w.heap.size ≤ u.heap.size)
    (ho : o.op = .call { callee := .value (.func 23), args := #[.tmp t], argTypes := #[25] }) (he : a.eval (.tmp t) = X) :
    o.wp Try.prog a u (fun a' u' => ∃ v, a' = a.put o.dst v ∧ Cpy w O u' v x ∧ Below u.heap.size u u') Q := by
  have hex := exec_call (P := Try.prog) (a := a) (w := u) 23 (args := #[X]) ho (by simp only [List.map_toArray, List.map_cons, List.map_nil, he]) (fun args w => by kernel_rfl)
  unfold Oper.wp
  rw [hex, Oper.upon_enter]
  refine (copy_any _ x (Nat.le_refl _) hx u X hX).mono fun e w' ⟨⟨u', he, hC⟩, h2⟩ => ?_
  subst he
  obtain ⟨cs, h4, h5⟩ := hC.hcp
  exact ⟨u', rfl, ⟨cs, h4, HCp.stay (fun b hb' _ => ⟨⟨by omega, fun h => by have := (hO b h).2; omega⟩, rfl⟩) _ _ h5⟩, h2⟩
set_option maxHeartbeats 1000000 in
set_option maxRecDepth 10000 in
theorem region_ap {ops : Array Oper} {Q : Exit → Act → World → Prop} {A : Act} {id : Nat} {w : World}
    (hkey : ops.toList.map keyOf = Tap.map fun x => (x.1, x.2.1, true, x.2.2)) (hlow : (List.range ops.size).all (fun i => match ops[i]? with | some o => o.after.all (fun e => !Region.binds .any e || decide (e.on < i)) | none => true) = true)
    (hsz : 32 < A.tmps.size) {xb yb : Nat} {c0 c1 c2 c3 c4 d0 d1 d2 d3 d4 : Value} {x y : JV} (e3 : A.eval (.tmp 3) = .pointer (some ⟨xb, 0, none⟩)) (e4 : A.eval (.tmp 4) = .pointer (some ⟨yb, 0, none⟩))
    (V3 : VAt xb w c0 c1 c2 c3 c4) (V4 : VAt yb w d0 d1 d2 d3 d4) (H3 : HV w (.agg #[c0, c1, c2, c3, c4]) x) (H4 : HV w (.agg #[d0, d1, d2, d3, d4]) y) (hwx : x.wt ≤ 90000) (hwy : y.wt ≤ 90000)
    (fin : ∀ (f : Nat → Value) u b7 b8 p0 p1 p2 p3 p4 q0 q1 q2 q3 q4, f 7 = .pointer (some ⟨b7, 0, none⟩) → f 8 = .pointer (some ⟨b8, 0, none⟩) →
      VAt b7 u p0 p1 p2 p3 p4 → VAt b8 u q0 q1 q2 q3 q4 → HV u (.agg #[p0, p1, p2, p3, p4]) x → HV u (.agg #[q0, q1, q2, q3, q4]) y → Below w.heap.size w u → Q .normal (putR A pap f) u) : (Code.region id ops true).wp Try.prog Q A w := by
  refine wp_region_vars Tap hkey hlow pap Dap kap ?_ ?_ (Fap w (.agg #[c0, c1, c2, c3, c4]) (.agg #[d0, d1, d2, d3, d4]) x y) (fun k O O' u u' v h1 _ h3 h => ?_) (fun k O u v h j a hj => ?_) ?_ ?_ ?_ ?_ ?_
  · intro k x hx hk
    rcases k with _ | _ | _ | _ | _ | _ | _ | _ | k
    all_goals simp only [Tap, List.getElem?_cons_zero, List.getElem?_cons_succ, List.getElem?_nil, Option.some.injEq, reduceCtorEq] at hx
    all_goals subst hx
    all_goals first | exact ⟨rfl, rfl, Nat.lt_of_le_of_lt (by show (_ : Nat) ≤ 32; decide) hsz⟩ | (exfalso; rcases hk with hk | hk <;> cases hk)
  · intro i hi j hj hni hnj h
    have hi8 : i < 6 := Nat.lt_of_not_le fun h8 => hni (i - 2) (if i = 6 then 1 else 3) (by unfold kap; rw [if_neg (by omega), if_neg (by omega)])
    have hj8 : j < 6 := Nat.lt_of_not_le fun h8 => hnj (j - 2) (if j = 6 then 1 else 3) (by unfold kap; rw [if_neg (by omega), if_neg (by omega)])
    revert h
    exact (show ∀ i, i < 6 → ∀ j, j < 6 → Dap i = Dap j → i = j by decide) i hi8 j hj8
  · rcases k with _ | _ | _ | _ | k
    · exact h
    · exact Cpy.stay h1 h3 h
    · exact h
    · exact Cpy.stay h1 h3 h
    · exact h
  · have hk : k = 1 ∨ k = 3 := by
      have := (kap_put hj).2.2
      split at this <;> omega
    rcases hk with rfl | rfl
    all_goals
      obtain ⟨c0, c1, c2, c3, c4, h4, h5⟩ := Cpy.one h
      exact ⟨c0, c1, c2, c3, c4, h4, ones5 h5⟩
  · intro k x hx hk
    rcases k with _ | _ | _ | _ | _ | _ | _ | _ | k
    all_goals simp only [Tap, List.getElem?_cons_zero, List.getElem?_cons_succ, List.getElem?_nil, Option.some.injEq, reduceCtorEq] at hx
    all_goals subst hx
    all_goals first | rfl | (exfalso; cases hk)
  · intro k x a s hx hk
    obtain ⟨h1, rfl, rfl⟩ := kap_put hk
    rcases k with _ | _ | _ | _ | _ | _ | _ | _ | k
    all_goals simp only [Tap, List.getElem?_cons_zero, List.getElem?_cons_succ, List.getElem?_nil, Option.some.injEq, reduceCtorEq] at hx
    all_goals subst hx
    all_goals first | (exfalso; omega) | exact ⟨rfl, rfl, by simp, by simp, rfl, rfl, by decide, by decide⟩
  · intro i j a s s' hi hj h1 h2
    have := kap_put h1
    have := kap_put h2
    omega
  · intro k z a u O hx hk hb hO hout hdep o hd hop
    rcases k with _ | _ | _ | _ | _ | _ | _ | _ | k
    all_goals simp only [Tap, List.getElem?_cons_zero, List.getElem?_cons_succ, List.getElem?_nil, Option.some.injEq, reduceCtorEq] at hx
    all_goals subst hx
    · exact op_load hop ((hout 3 rfl).trans e3) (ld_box (V3.below hb)) ⟨_, rfl, rfl, Below.refl _ _⟩
    · exact cpy_call hwx (H3.below hb) hO hb.size hop (hdep 0 (by simp) rfl)
    · exact op_load hop ((hout 4 rfl).trans e4) (ld_box (V4.below hb)) ⟨_, rfl, rfl, Below.refl _ _⟩
    · exact cpy_call hwy (H4.below hb) hO hb.size hop (hdep 2 (by simp) rfl)
    all_goals (exfalso; cases hk)
  · intro listed f u hall hI
    have get (k s : Nat) (z : JV) (hk : kap k = .var) (hkl : k < 8) (hp : kap (k + 2) = .put k s) (hl : k + 2 < 8) (hsl : s < 8) (hc : Cpy w (Ob kap Dap listed f) u (f (Dap s)) z) : ∃ b p0 p1 p2 p3 p4, f (Dap k) = .pointer (some ⟨b, 0, none⟩) ∧ VAt b u p0 p1 p2 p3 p4 ∧ HV u (.agg #[p0, p1, p2, p3, p4]) z := by
      obtain ⟨b, h1, h2, _, h4⟩ := hI.var k (hall k hkl) hk
      obtain ⟨d0, d1, d2, d3, d4, h5, h6⟩ := (h4 (k + 2) s hl hp).2 (hall _ hl)
      obtain ⟨c0, c1, c2, c3, c4, h7, h8⟩ := hc.one
      rw [h5] at h7
      simp only [Value.agg.injEq, Array.mk.injEq, List.cons.injEq, and_true] at h7
      obtain ⟨rfl, rfl, rfl, rfl, rfl⟩ := h7
      exact ⟨b, _, _, _, _, _, h1, h6, ⟨_, rfl, HCp.hc _ _ h8⟩⟩
    obtain ⟨b7, p0, p1, p2, p3, p4, f7, v7, s7⟩ := get 4 1 x rfl (by decide) rfl (by decide) (by decide) (hI.grow 1 (hall 1 (by decide)) rfl)
    obtain ⟨b8, q0, q1, q2, q3, q4, f8, v8, s8⟩ := get 5 3 y rfl (by decide) rfl (by decide) (by decide) (hI.grow 3 (hall 3 (by decide)) rfl)
    exact fin f u b7 b8 p0 p1 p2 p3 p4 q0 q1 q2 q3 q4 f7 f8 v7 v8 s7 s8 hI.below
end Go.Proofs.Ytcmalaabggohmaa
