/-
  A statement of ValueSame that draws its order.
-/
import Derived.Test.YtcmalaabggohmaaValAwake
namespace Go.Proofs.Ytcmalaabggohmaa
open Go.RowKit

def Tsm : List (Option Tmp × Op × Option (Nat × Bool) × List Nat) :=
  [(some 17, Op.load 25 (Operand.tmp 2), none, []),
   (some 18, Op.load 25 (Operand.tmp 2), none, []),
   (some 19, Op.call { callee := Callee.value (Operand.func 17), args := #[Operand.tmp 17, Operand.tmp 18], argTypes := #[25, 25] }, none, [0, 1]),
   (some 20, Op.unOp UnOp.not 4 (Operand.tmp 19), none, [2]),
   (some 21, Op.move (Operand.tmp 20), none, [3, 2]),
   (some 22, Op.load 25 (Operand.tmp 2), some (4, false), [4]),
   (some 23, Op.load 25 (Operand.tmp 2), some (4, false), [4]),
   (some 24, Op.call { callee := Callee.value (Operand.func 23), args := #[Operand.tmp 23], argTypes := #[25] }, some (4, false), [6, 4, 4]),
   (some 25, Op.call { callee := Callee.value (Operand.func 17), args := #[Operand.tmp 22, Operand.tmp 24], argTypes := #[25, 25] }, some (4, false), [5, 7, 7, 4]),
   (some 26, Op.unOp UnOp.not 4 (Operand.tmp 25), some (4, false), [8, 4]),
   (some 27, Op.pick (Operand.tmp 21) (Operand.const (Value.bool true)) (Operand.tmp 26), none, [4, 9]),
   (some 28, Op.move (Operand.tmp 27), none, [10, 8]),
   (some 29, Op.load 25 (Operand.tmp 2), some (11, false), [11]),
   (some 30, Op.load 25 (Operand.tmp 3), some (11, false), [11]),
   (some 31, Op.call { callee := Callee.value (Operand.func 17), args := #[Operand.tmp 29, Operand.tmp 30], argTypes := #[25, 25] }, some (11, false), [12, 13, 11, 11]),
   (some 32, Op.load 25 (Operand.tmp 3), some (11, false), [11]),
   (some 33, Op.load 25 (Operand.tmp 2), some (11, false), [11]),
   (some 34, Op.call { callee := Callee.value (Operand.func 17), args := #[Operand.tmp 32, Operand.tmp 33], argTypes := #[25, 25] }, some (11, false), [15, 16, 14, 11]),
   (some 35, Op.binOp BinOp.neq 4 (Operand.tmp 31) (Operand.tmp 34) 4, some (11, false), [14, 17, 11]),
   (some 36, Op.pick (Operand.tmp 28) (Operand.const (Value.bool true)) (Operand.tmp 35), none, [11, 18])]
def Ssm : List Nat := [17, 18, 19, 20, 21, 22, 23, 24, 25, 26, 27, 28, 29, 30, 31, 32, 33, 34, 35, 36]
def Dsm (k : Nat) : Nat := Ssm.getD k 0
def psm (i : Nat) : Bool := Ssm.contains i
set_option maxRecDepth 100000 in
theorem injsm : ∀ i, i < 20 → ∀ j, j < 20 → Dsm i = Dsm j → i = j := by decide +kernel
set_option maxHeartbeats 8000000 in
set_option maxRecDepth 100000 in
theorem region_sm {ops : Array Oper} {Q : Exit → Act → World → Prop} {A : Act} {id : Nat} {w1 : World}
    (hkey : ops.toList.map keyG = Tsm) (hlow : (List.range ops.size).all (fun i => match ops[i]? with | some o => o.after.all (fun e => !Region.binds .any e || decide (e.on < i)) | none => true) = true)
    (hsz : 36 < A.tmps.size) {X Y : JV} {B : Bool} {xb yb : Nat} {a0 a1 a2 a3 a4 b0 b1 b2 b3 b4 : Value} (e2 : A.eval (.tmp 2) = .pointer (some ⟨xb, 0, none⟩)) (e3 : A.eval (.tmp 3) = .pointer (some ⟨yb, 0, none⟩))
    (V2 : VAt xb w1 a0 a1 a2 a3 a4) (V3 : VAt yb w1 b0 b1 b2 b3 b4) (H2 : HV w1 (.agg #[a0, a1, a2, a3, a4]) X) (H3 : HV w1 (.agg #[b0, b1, b2, b3, b4]) Y) (hwX : X.wt ≤ 90000) (hB1 : X.same Y = B) (hB2 : Y.same X = B)
    (fin : ∀ (f : Nat → Value) u, FD (.val (.bool false)) u (f 36) → Below w1.heap.size w1 u → Q .normal (putR A psm f) u) : (Code.region id ops true).wp Try.prog Q A w1 := by
  refine wp_region_grow (by kernel_rfl) Tsm hkey hlow psm Dsm ?_ injsm (Fl [(.jv X), (.jv X), (.val (.bool true)), (.val (.bool false)), (.val (.bool false)), (.jv X), (.jv X), (.jv X), (.val (.bool true)), (.val (.bool false)), (.val (.bool false)), (.val (.bool false)), (.jv X), (.jv Y), (.val (.bool B)), (.jv Y), (.jv X), (.val (.bool B)), (.val (.bool false)), (.val (.bool false))]) (fun k u u2 v hb h => Fl.below _ k u u2 v hb h) (Gl [(.jv X), (.jv X), (.val (.bool true)), (.val (.bool false)), (.val (.bool false)), (.jv X), (.jv X), (.jv X), (.val (.bool true)), (.val (.bool false)), (.val (.bool false)), (.val (.bool false)), (.jv X), (.jv Y), (.val (.bool B)), (.jv Y), (.jv X), (.val (.bool B)), (.val (.bool false)), (.val (.bool false))]) (fun k c u v h1 h2 => Gl.val _ k c u v h1 h2) ?_ ?_ ?_ ?_
  · intro k y hy
    rcases k with _ | _ | _ | _ | _ | _ | _ | _ | _ | _ | _ | _ | _ | _ | _ | _ | _ | _ | _ | _ | k
    all_goals simp only [Tsm, List.getElem?_cons_zero, List.getElem?_cons_succ, List.getElem?_nil, Option.some.injEq, reduceCtorEq] at hy
    all_goals subst hy
    all_goals exact ⟨rfl, rfl, Nat.lt_of_le_of_lt (by show (_ : Nat) ≤ 36; decide) hsz⟩
  · intro k y g b hy hg
    rcases k with _ | _ | _ | _ | _ | _ | _ | _ | _ | _ | _ | _ | _ | _ | _ | _ | _ | _ | _ | _ | k
    all_goals simp only [Tsm, List.getElem?_cons_zero, List.getElem?_cons_succ, List.getElem?_nil, Option.some.injEq, reduceCtorEq] at hy
    all_goals subst hy
    all_goals first | (cases hg; done) | (have h2 := Prod.mk.inj (Option.some.inj hg); obtain ⟨rfl, rfl⟩ := h2; exact ⟨by simp, _, rfl⟩)
  · intro k y u hy hw
    rcases k with _ | _ | _ | _ | _ | _ | _ | _ | _ | _ | _ | _ | _ | _ | _ | _ | _ | _ | _ | _ | k
    all_goals simp only [Tsm, List.getElem?_cons_zero, List.getElem?_cons_succ, List.getElem?_nil, Option.some.injEq, reduceCtorEq] at hy
    all_goals subst hy
    all_goals first | exact rfl | exact Bool.noConfusion (show true = false from hw)
  · intro k y a u hy hw hb hout hdep o hd hop
    rcases k with _ | _ | _ | _ | _ | _ | _ | _ | _ | _ | _ | _ | _ | _ | _ | _ | _ | _ | _ | _ | k
    all_goals simp only [Tsm, List.getElem?_cons_zero, List.getElem?_cons_succ, List.getElem?_nil, Option.some.injEq, reduceCtorEq] at hy
    all_goals subst hy
    · exact gl_load hop ((hout 2 rfl).trans e2) (V2.below hb) (H2.below hb)
    · exact gl_load hop ((hout 2 rfl).trans e2) (V2.below hb) (H2.below hb)
    · exact gl_call (d := (.val (.bool true))) 17 (args := #[a.eval (.tmp 17), a.eval (.tmp 18)]) hop (by simp only [List.map_toArray, List.map_cons, List.map_nil] <;> rfl) (fun args w => by kernel_rfl) (by have h := same_any _ X X (Nat.le_refl _) u _ _ (show FD (.jv X) u (a.eval (.tmp 17)) from hdep 0 (by simp)) (show FD (.jv X) u (a.eval (.tmp 18)) from hdep 1 (by simp)); rw [JV.same_yes] at h; exact gl_ret h)
    · exact gl_not hop (show FD (.val (.bool true)) u (a.eval (.tmp 19)) from hdep 2 (by simp))
    · exact gl_move (d := (.val (.bool false))) hop (show FD (.val (.bool false)) u (a.eval (.tmp 20)) from hdep 3 (by simp))
    · exact gl_load hop ((hout 2 rfl).trans e2) (V2.below hb) (H2.below hb)
    · exact gl_load hop ((hout 2 rfl).trans e2) (V2.below hb) (H2.below hb)
    · exact gl_call (d := (.jv X)) 23 (args := #[a.eval (.tmp 23)]) hop (by simp only [List.map_toArray, List.map_cons, List.map_nil] <;> rfl) (fun args w => by kernel_rfl) ((copy_any _ X (Nat.le_refl _) hwX u _ (show FD (.jv X) u (a.eval (.tmp 23)) from hdep 6 (by simp))).mono fun e w2 ⟨⟨v, h1, h2⟩, h3⟩ => ⟨v, h1, h2.hv, h3⟩)
    · exact gl_call (d := (.val (.bool true))) 17 (args := #[a.eval (.tmp 22), a.eval (.tmp 24)]) hop (by simp only [List.map_toArray, List.map_cons, List.map_nil] <;> rfl) (fun args w => by kernel_rfl) (by have h := same_any _ X X (Nat.le_refl _) u _ _ (show FD (.jv X) u (a.eval (.tmp 22)) from hdep 5 (by simp)) (show FD (.jv X) u (a.eval (.tmp 24)) from hdep 7 (by simp)); rw [JV.same_yes] at h; exact gl_ret h)
    · exact gl_not hop (show FD (.val (.bool true)) u (a.eval (.tmp 25)) from hdep 8 (by simp))
    · exact gl_or hop (show FD (.val (.bool false)) u (a.eval (.tmp 21)) from hdep 4 (by simp)) (fun _ => (show FD (.val (.bool false)) u (a.eval (.tmp 26)) from hdep 9 (by simp))) rfl
    · exact gl_move (d := (.val (.bool false))) hop (show FD (.val (.bool false)) u (a.eval (.tmp 27)) from hdep 10 (by simp))
    · exact gl_load hop ((hout 2 rfl).trans e2) (V2.below hb) (H2.below hb)
    · exact gl_load hop ((hout 3 rfl).trans e3) (V3.below hb) (H3.below hb)
    · exact gl_call (d := (.val (.bool B))) 17 (args := #[a.eval (.tmp 29), a.eval (.tmp 30)]) hop (by simp only [List.map_toArray, List.map_cons, List.map_nil] <;> rfl) (fun args w => by kernel_rfl) (by have h := same_any _ X Y (Nat.le_refl _) u _ _ (show FD (.jv X) u (a.eval (.tmp 29)) from hdep 12 (by simp)) (show FD (.jv Y) u (a.eval (.tmp 30)) from hdep 13 (by simp)); rw [hB1] at h; exact gl_ret h)
    · exact gl_load hop ((hout 3 rfl).trans e3) (V3.below hb) (H3.below hb)
    · exact gl_load hop ((hout 2 rfl).trans e2) (V2.below hb) (H2.below hb)
    · exact gl_call (d := (.val (.bool B))) 17 (args := #[a.eval (.tmp 32), a.eval (.tmp 33)]) hop (by simp only [List.map_toArray, List.map_cons, List.map_nil] <;> rfl) (fun args w => by kernel_rfl) (by have h := same_any _ Y X (Nat.le_refl _) u _ _ (show FD (.jv Y) u (a.eval (.tmp 32)) from hdep 15 (by simp)) (show FD (.jv X) u (a.eval (.tmp 33)) from hdep 16 (by simp)); rw [hB2] at h; exact gl_ret h)
    · exact gl_eqv (gl_neb hop (show FD (.val (.bool B)) u (a.eval (.tmp 31)) from hdep 14 (by simp)) (show FD (.val (.bool B)) u (a.eval (.tmp 34)) from hdep 17 (by simp))) (by simp)
    · exact gl_or hop (show FD (.val (.bool false)) u (a.eval (.tmp 28)) from hdep 11 (by simp)) (fun _ => (show FD (.val (.bool false)) u (a.eval (.tmp 35)) from hdep 18 (by simp))) rfl
  · intro f u hall hb
    exact fin f u (hall 19 (by decide)) hb
end Go.Proofs.Ytcmalaabggohmaa
