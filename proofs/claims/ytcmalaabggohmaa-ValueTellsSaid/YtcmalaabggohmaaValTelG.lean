/-
  A statement of ValueTells that draws its order.
-/
import Derived.Test.YtcmalaabggohmaaValAwake
namespace Go.Proofs.Ytcmalaabggohmaa
open Go.RowKit

def Ttl : List (Option Tmp × Op × Option (Nat × Bool) × List Nat) :=
  [(some 33, Op.load 25 (Operand.tmp 3), none, []),
   (some 34, Op.call { callee := Callee.value (Operand.func 15), args := #[Operand.tmp 33], argTypes := #[25] }, none, [0]),
   (some 35, Op.load 25 (Operand.tmp 3), none, []),
   (some 36, Op.call { callee := Callee.value (Operand.func 16), args := #[Operand.tmp 35], argTypes := #[25] }, none, [2, 1]),
   (some 37, Op.binOp BinOp.eql 4 (Operand.tmp 34) (Operand.tmp 36) 4, none, [1, 3]),
   (some 38, Op.move (Operand.tmp 37), none, [4, 3]),
   (some 39, Op.load 25 (Operand.tmp 3), some (5, true), [5]),
   (some 40, Op.load 25 (Operand.tmp 4), some (5, true), [5]),
   (some 41, Op.call { callee := Callee.value (Operand.func 17), args := #[Operand.tmp 39, Operand.tmp 40], argTypes := #[25, 25] }, some (5, true), [6, 7, 5, 5]),
   (some 42, Op.load 25 (Operand.tmp 3), some (5, true), [5]),
   (some 43, Op.load 25 (Operand.tmp 4), some (5, true), [5]),
   (some 44, Op.call { callee := Callee.value (Operand.func 18), args := #[Operand.tmp 42, Operand.tmp 43], argTypes := #[25, 25] }, some (5, true), [9, 10, 8, 5]),
   (some 45, Op.binOp BinOp.eql 4 (Operand.tmp 41) (Operand.tmp 44) 4, some (5, true), [8, 11, 5]),
   (some 46, Op.pick (Operand.tmp 38) (Operand.tmp 45) (Operand.const (Value.bool false)), none, [5, 12]),
   (some 47, Op.move (Operand.tmp 46), none, [13, 11]),
   (some 48, Op.load 25 (Operand.tmp 3), some (14, true), [14]),
   (some 49, Op.call { callee := Callee.value (Operand.func 19), args := #[Operand.tmp 48], argTypes := #[25] }, some (14, true), [15, 14, 14]),
   (some 50, Op.load 25 (Operand.tmp 3), some (14, true), [14]),
   (some 51, Op.call { callee := Callee.value (Operand.func 20), args := #[Operand.tmp 50], argTypes := #[25] }, some (14, true), [17, 16, 14]),
   (some 52, Op.binOp BinOp.eql 3 (Operand.tmp 49) (Operand.tmp 51) 3, some (14, true), [16, 18, 14]),
   (some 53, Op.pick (Operand.tmp 47) (Operand.tmp 52) (Operand.const (Value.bool false)), none, [14, 19]),
   (some 54, Op.move (Operand.tmp 53), none, [20, 18]),
   (some 55, Op.load 25 (Operand.tmp 3), some (21, true), [21]),
   (some 56, Op.call { callee := Callee.value (Operand.func 21), args := #[Operand.tmp 55], argTypes := #[25] }, some (21, true), [22, 21, 21]),
   (some 57, Op.load 25 (Operand.tmp 3), some (21, true), [21]),
   (some 58, Op.call { callee := Callee.value (Operand.func 22), args := #[Operand.tmp 57], argTypes := #[25] }, some (21, true), [24, 23, 21]),
   (some 59, Op.binOp BinOp.eql 3 (Operand.tmp 56) (Operand.tmp 58) 3, some (21, true), [23, 25, 21]),
   (some 60, Op.pick (Operand.tmp 54) (Operand.tmp 59) (Operand.const (Value.bool false)), none, [21, 26]),
   (some 61, Op.move (Operand.tmp 60), none, [27, 25]),
   (some 62, Op.move (Operand.tmp 8), some (28, true), [28]),
   (some 63, Op.move (Operand.tmp 10), some (28, true), [28]),
   (some 64, Op.binOp BinOp.eql 4 (Operand.tmp 62) (Operand.tmp 63) 4, some (28, true), [29, 30, 28]),
   (some 65, Op.pick (Operand.tmp 61) (Operand.tmp 64) (Operand.const (Value.bool false)), none, [28, 31]),
   (some 66, Op.move (Operand.tmp 65), none, [32, 28]),
   (some 67, Op.load 25 (Operand.tmp 7), some (33, true), [33]),
   (some 68, Op.load 25 (Operand.tmp 9), some (33, true), [33]),
   (some 69, Op.call { callee := Callee.value (Operand.func 18), args := #[Operand.tmp 67, Operand.tmp 68], argTypes := #[25, 25] }, some (33, true), [34, 35, 33, 33]),
   (some 70, Op.pick (Operand.tmp 66) (Operand.tmp 69) (Operand.const (Value.bool false)), none, [33, 36]),
   (some 71, Op.move (Operand.tmp 70), none, [37, 36]),
   (some 72, Op.load 25 (Operand.tmp 3), some (38, true), [38]),
   (some 73, Op.call { callee := Callee.value (Operand.func 23), args := #[Operand.tmp 72], argTypes := #[25] }, some (38, true), [39, 38, 38]),
   (some 74, Op.load 25 (Operand.tmp 3), some (38, true), [38]),
   (some 75, Op.call { callee := Callee.value (Operand.func 18), args := #[Operand.tmp 73, Operand.tmp 74], argTypes := #[25, 25] }, some (38, true), [40, 41, 40, 38]),
   (some 76, Op.pick (Operand.tmp 71) (Operand.tmp 75) (Operand.const (Value.bool false)), none, [38, 42]),
   (some 77, Op.move (Operand.tmp 76), none, [43, 42]),
   (some 78, Op.call { callee := Callee.value (Operand.func 12), args := #[], argTypes := #[] }, some (44, true), [44, 44]),
   (some 79, Op.pick (Operand.tmp 77) (Operand.tmp 78) (Operand.const (Value.bool false)), none, [44, 45]),
   (some 6, Op.assign (Operand.tmp 79), none, [46, 45, 0, 1, 2, 3, 4, 5, 6, 7, 8, 9, 10, 11, 12, 13, 14, 15, 16, 17, 18, 19, 20, 21, 22, 23, 24, 25, 26, 27, 28, 29, 30, 31, 32, 33, 34, 35, 36, 37, 38, 39, 40, 41, 42, 43, 44, 45, 46])]
def Stl : List Nat := [33, 34, 35, 36, 37, 38, 39, 40, 41, 42, 43, 44, 45, 46, 47, 48, 49, 50, 51, 52, 53, 54, 55, 56, 57, 58, 59, 60, 61, 62, 63, 64, 65, 66, 67, 68, 69, 70, 71, 72, 73, 74, 75, 76, 77, 78, 79, 6]
def Dtl (k : Nat) : Nat := Stl.getD k 0
def ptl (i : Nat) : Bool := Stl.contains i
set_option maxRecDepth 100000 in
theorem injtl : ∀ i, i < 48 → ∀ j, j < 48 → Dtl i = Dtl j → i = j := by decide +kernel
set_option maxHeartbeats 8000000 in
set_option maxRecDepth 100000 in
theorem region_tl {ops : Array Oper} {Q : Exit → Act → World → Prop} {A : Act} {id : Nat} {w1 : World}
    (hkey : ops.toList.map keyG = Ttl) (hlow : (List.range ops.size).all (fun i => match ops[i]? with | some o => o.after.all (fun e => !Region.binds .any e || decide (e.on < i)) | none => true) = true)
    (hsz : 79 < A.tmps.size) {X Y Z : JV} {M B gb : Bool} {xb yb zb tb : Nat} {a0 a1 a2 a3 a4 b0 b1 b2 b3 b4 c0 c1 c2 c3 c4 d0 d1 d2 d3 d4 : Value} (e3 : A.eval (.tmp 3) = .pointer (some ⟨xb, 0, none⟩)) (e4 : A.eval (.tmp 4) = .pointer (some ⟨yb, 0, none⟩)) (e7 : A.eval (.tmp 7) = .pointer (some ⟨zb, 0, none⟩)) (e9 : A.eval (.tmp 9) = .pointer (some ⟨tb, 0, none⟩)) (e8 : A.eval (.tmp 8) = .bool gb) (e10 : A.eval (.tmp 10) = .bool gb)
    (V3 : VAt xb w1 a0 a1 a2 a3 a4) (V4 : VAt yb w1 b0 b1 b2 b3 b4) (V7 : VAt zb w1 c0 c1 c2 c3 c4) (V9 : VAt tb w1 d0 d1 d2 d3 d4) (H3 : HV w1 (.agg #[a0, a1, a2, a3, a4]) X) (H4 : HV w1 (.agg #[b0, b1, b2, b3, b4]) Y) (H7 : HV w1 (.agg #[c0, c1, c2, c3, c4]) Z) (H9 : HV w1 (.agg #[d0, d1, d2, d3, d4]) Z)
    (hwX : X.wt ≤ 90000) (hcX : X.cnt ≤ 90000) (hM : X.may = M) (hB : X.same Y = B)
    (fin : ∀ (f : Nat → Value) u, FD (.val (.bool true)) u (f 6) → Below w1.heap.size w1 u → Q .normal (putR A ptl f) u) : (Code.region id ops true).wp Try.prog Q A w1 := by
  refine wp_region_grow (by kernel_rfl) Ttl hkey hlow ptl Dtl ?_ injtl (Fl [(.jv X), (.val (.bool M)), (.jv X), (.val (.bool M)), (.val (.bool true)), (.val (.bool true)), (.jv X), (.jv Y), (.val (.bool B)), (.jv X), (.jv Y), (.val (.bool B)), (.val (.bool true)), (.val (.bool true)), (.val (.bool true)), (.jv X), (.val (.int .i64 ((X.cnt : Nat) : Int))), (.jv X), (.val (.int .i64 ((X.cnt : Nat) : Int))), (.val (.bool true)), (.val (.bool true)), (.val (.bool true)), (.jv X), (.val (.int .i64 ((X.dep : Nat) : Int))), (.jv X), (.val (.int .i64 ((X.dep : Nat) : Int))), (.val (.bool true)), (.val (.bool true)), (.val (.bool true)), (.val (.bool gb)), (.val (.bool gb)), (.val (.bool true)), (.val (.bool true)), (.val (.bool true)), (.jv Z), (.jv Z), (.val (.bool true)), (.val (.bool true)), (.val (.bool true)), (.jv X), (.jv X), (.jv X), (.val (.bool true)), (.val (.bool true)), (.val (.bool true)), (.val (.bool true)), (.val (.bool true)), (.val (.bool true))]) (fun k u u2 v hb h => Fl.below _ k u u2 v hb h) (Gl [(.jv X), (.val (.bool M)), (.jv X), (.val (.bool M)), (.val (.bool true)), (.val (.bool true)), (.jv X), (.jv Y), (.val (.bool B)), (.jv X), (.jv Y), (.val (.bool B)), (.val (.bool true)), (.val (.bool true)), (.val (.bool true)), (.jv X), (.val (.int .i64 ((X.cnt : Nat) : Int))), (.jv X), (.val (.int .i64 ((X.cnt : Nat) : Int))), (.val (.bool true)), (.val (.bool true)), (.val (.bool true)), (.jv X), (.val (.int .i64 ((X.dep : Nat) : Int))), (.jv X), (.val (.int .i64 ((X.dep : Nat) : Int))), (.val (.bool true)), (.val (.bool true)), (.val (.bool true)), (.val (.bool gb)), (.val (.bool gb)), (.val (.bool true)), (.val (.bool true)), (.val (.bool true)), (.jv Z), (.jv Z), (.val (.bool true)), (.val (.bool true)), (.val (.bool true)), (.jv X), (.jv X), (.jv X), (.val (.bool true)), (.val (.bool true)), (.val (.bool true)), (.val (.bool true)), (.val (.bool true)), (.val (.bool true))]) (fun k c u v h1 h2 => Gl.val _ k c u v h1 h2) ?_ ?_ ?_ ?_
  · intro k y hy
    rcases k with _ | _ | _ | _ | _ | _ | _ | _ | _ | _ | _ | _ | _ | _ | _ | _ | _ | _ | _ | _ | _ | _ | _ | _ | _ | _ | _ | _ | _ | _ | _ | _ | _ | _ | _ | _ | _ | _ | _ | _ | _ | _ | _ | _ | _ | _ | _ | _ | k
    all_goals simp only [Ttl, List.getElem?_cons_zero, List.getElem?_cons_succ, List.getElem?_nil, Option.some.injEq, reduceCtorEq] at hy
    all_goals subst hy
    all_goals exact ⟨rfl, rfl, Nat.lt_of_le_of_lt (by show (_ : Nat) ≤ 79; decide) hsz⟩
  · intro k y g b hy hg
    rcases k with _ | _ | _ | _ | _ | _ | _ | _ | _ | _ | _ | _ | _ | _ | _ | _ | _ | _ | _ | _ | _ | _ | _ | _ | _ | _ | _ | _ | _ | _ | _ | _ | _ | _ | _ | _ | _ | _ | _ | _ | _ | _ | _ | _ | _ | _ | _ | _ | k
    all_goals simp only [Ttl, List.getElem?_cons_zero, List.getElem?_cons_succ, List.getElem?_nil, Option.some.injEq, reduceCtorEq] at hy
    all_goals subst hy
    all_goals first | (cases hg; done) | (have h2 := Prod.mk.inj (Option.some.inj hg); obtain ⟨rfl, rfl⟩ := h2; exact ⟨by simp, _, rfl⟩)
  · intro k y u hy hw
    rcases k with _ | _ | _ | _ | _ | _ | _ | _ | _ | _ | _ | _ | _ | _ | _ | _ | _ | _ | _ | _ | _ | _ | _ | _ | _ | _ | _ | _ | _ | _ | _ | _ | _ | _ | _ | _ | _ | _ | _ | _ | _ | _ | _ | _ | _ | _ | _ | _ | k
    all_goals simp only [Ttl, List.getElem?_cons_zero, List.getElem?_cons_succ, List.getElem?_nil, Option.some.injEq, reduceCtorEq] at hy
    all_goals subst hy
    all_goals first | exact rfl | exact Bool.noConfusion (show true = false from hw)
  · intro k y a u hy hw hb hout hdep o hd hop
    rcases k with _ | _ | _ | _ | _ | _ | _ | _ | _ | _ | _ | _ | _ | _ | _ | _ | _ | _ | _ | _ | _ | _ | _ | _ | _ | _ | _ | _ | _ | _ | _ | _ | _ | _ | _ | _ | _ | _ | _ | _ | _ | _ | _ | _ | _ | _ | _ | _ | k
    all_goals simp only [Ttl, List.getElem?_cons_zero, List.getElem?_cons_succ, List.getElem?_nil, Option.some.injEq, reduceCtorEq] at hy
    all_goals subst hy
    · exact gl_load hop ((hout 3 rfl).trans e3) (V3.below hb) (H3.below hb)
    · exact gl_call (d := (.val (.bool M))) 15 (args := #[a.eval (.tmp 33)]) hop (by simp only [List.map_toArray, List.map_cons, List.map_nil] <;> rfl) (fun args w => by kernel_rfl) (gl_ret (may_any X u _ hwX (show FD (.jv X) u (a.eval (.tmp 33)) from hdep 0 (by simp)) hM))
    · exact gl_load hop ((hout 3 rfl).trans e3) (V3.below hb) (H3.below hb)
    · exact gl_call (d := (.val (.bool M))) 16 (args := #[a.eval (.tmp 35)]) hop (by simp only [List.map_toArray, List.map_cons, List.map_nil] <;> rfl) (fun args w => by kernel_rfl) (by have h := refMay_any X u _ hwX (show FD (.jv X) u (a.eval (.tmp 35)) from hdep 2 (by simp)); rw [hM] at h; exact gl_ret h)
    · exact gl_eqv (gl_eqb hop (show FD (.val (.bool M)) u (a.eval (.tmp 34)) from hdep 1 (by simp)) (show FD (.val (.bool M)) u (a.eval (.tmp 36)) from hdep 3 (by simp))) (by simp)
    · exact gl_move (d := (.val (.bool true))) hop (show FD (.val (.bool true)) u (a.eval (.tmp 37)) from hdep 4 (by simp))
    · exact gl_load hop ((hout 3 rfl).trans e3) (V3.below hb) (H3.below hb)
    · exact gl_load hop ((hout 4 rfl).trans e4) (V4.below hb) (H4.below hb)
    · exact gl_call (d := (.val (.bool B))) 17 (args := #[a.eval (.tmp 39), a.eval (.tmp 40)]) hop (by simp only [List.map_toArray, List.map_cons, List.map_nil] <;> rfl) (fun args w => by kernel_rfl) (by have h := same_any _ X Y (Nat.le_refl _) u _ _ (show FD (.jv X) u (a.eval (.tmp 39)) from hdep 6 (by simp)) (show FD (.jv Y) u (a.eval (.tmp 40)) from hdep 7 (by simp)); rw [hB] at h; exact gl_ret h)
    · exact gl_load hop ((hout 3 rfl).trans e3) (V3.below hb) (H3.below hb)
    · exact gl_load hop ((hout 4 rfl).trans e4) (V4.below hb) (H4.below hb)
    · exact gl_call (d := (.val (.bool B))) 18 (args := #[a.eval (.tmp 42), a.eval (.tmp 43)]) hop (by simp only [List.map_toArray, List.map_cons, List.map_nil] <;> rfl) (fun args w => by kernel_rfl) (by have h := refSame_any _ X Y (Nat.le_refl _) u _ _ (show FD (.jv X) u (a.eval (.tmp 42)) from hdep 9 (by simp)) (show FD (.jv Y) u (a.eval (.tmp 43)) from hdep 10 (by simp)); rw [hB] at h; exact gl_ret h)
    · exact gl_eqv (gl_eqb hop (show FD (.val (.bool B)) u (a.eval (.tmp 41)) from hdep 8 (by simp)) (show FD (.val (.bool B)) u (a.eval (.tmp 44)) from hdep 11 (by simp))) (by simp)
    · exact gl_and hop (show FD (.val (.bool true)) u (a.eval (.tmp 38)) from hdep 5 (by simp)) (fun _ => (show FD (.val (.bool true)) u (a.eval (.tmp 45)) from hdep 12 (by simp))) rfl
    · exact gl_move (d := (.val (.bool true))) hop (show FD (.val (.bool true)) u (a.eval (.tmp 46)) from hdep 13 (by simp))
    · exact gl_load hop ((hout 3 rfl).trans e3) (V3.below hb) (H3.below hb)
    · exact gl_call (d := (.val (.int .i64 ((X.cnt : Nat) : Int)))) 19 (args := #[a.eval (.tmp 48)]) hop (by simp only [List.map_toArray, List.map_cons, List.map_nil] <;> rfl) (fun args w => by kernel_rfl) (gl_ret (count_any _ X (Nat.le_refl _) hcX u _ (show FD (.jv X) u (a.eval (.tmp 48)) from hdep 15 (by simp))))
    · exact gl_load hop ((hout 3 rfl).trans e3) (V3.below hb) (H3.below hb)
    · exact gl_call (d := (.val (.int .i64 ((X.cnt : Nat) : Int)))) 20 (args := #[a.eval (.tmp 50)]) hop (by simp only [List.map_toArray, List.map_cons, List.map_nil] <;> rfl) (fun args w => by kernel_rfl) (gl_ret (refCount_any _ X (Nat.le_refl _) hcX u _ (show FD (.jv X) u (a.eval (.tmp 50)) from hdep 17 (by simp))))
    · exact gl_eqv (gl_eqii hop (show FD (.val (.int .i64 ((X.cnt : Nat) : Int))) u (a.eval (.tmp 49)) from hdep 16 (by simp)) (show FD (.val (.int .i64 ((X.cnt : Nat) : Int))) u (a.eval (.tmp 51)) from hdep 18 (by simp))) (by simp)
    · exact gl_and hop (show FD (.val (.bool true)) u (a.eval (.tmp 47)) from hdep 14 (by simp)) (fun _ => (show FD (.val (.bool true)) u (a.eval (.tmp 52)) from hdep 19 (by simp))) rfl
    · exact gl_move (d := (.val (.bool true))) hop (show FD (.val (.bool true)) u (a.eval (.tmp 53)) from hdep 20 (by simp))
    · exact gl_load hop ((hout 3 rfl).trans e3) (V3.below hb) (H3.below hb)
    · exact gl_call (d := (.val (.int .i64 ((X.dep : Nat) : Int)))) 21 (args := #[a.eval (.tmp 55)]) hop (by simp only [List.map_toArray, List.map_cons, List.map_nil] <;> rfl) (fun args w => by kernel_rfl) (gl_ret (depth_any _ X (Nat.le_refl _) hcX u _ (show FD (.jv X) u (a.eval (.tmp 55)) from hdep 22 (by simp))))
    · exact gl_load hop ((hout 3 rfl).trans e3) (V3.below hb) (H3.below hb)
    · exact gl_call (d := (.val (.int .i64 ((X.dep : Nat) : Int)))) 22 (args := #[a.eval (.tmp 57)]) hop (by simp only [List.map_toArray, List.map_cons, List.map_nil] <;> rfl) (fun args w => by kernel_rfl) (gl_ret (refDepth_any _ X (Nat.le_refl _) hcX u _ (show FD (.jv X) u (a.eval (.tmp 57)) from hdep 24 (by simp))))
    · exact gl_eqv (gl_eqii hop (show FD (.val (.int .i64 ((X.dep : Nat) : Int))) u (a.eval (.tmp 56)) from hdep 23 (by simp)) (show FD (.val (.int .i64 ((X.dep : Nat) : Int))) u (a.eval (.tmp 58)) from hdep 25 (by simp))) (by simp)
    · exact gl_and hop (show FD (.val (.bool true)) u (a.eval (.tmp 54)) from hdep 21 (by simp)) (fun _ => (show FD (.val (.bool true)) u (a.eval (.tmp 59)) from hdep 26 (by simp))) rfl
    · exact gl_move (d := (.val (.bool true))) hop (show FD (.val (.bool true)) u (a.eval (.tmp 60)) from hdep 27 (by simp))
    · exact gl_move (d := (.val (.bool gb))) hop ((hout 8 rfl).trans e8)
    · exact gl_move (d := (.val (.bool gb))) hop ((hout 10 rfl).trans e10)
    · exact gl_eqv (gl_eqb hop (show FD (.val (.bool gb)) u (a.eval (.tmp 62)) from hdep 29 (by simp)) (show FD (.val (.bool gb)) u (a.eval (.tmp 63)) from hdep 30 (by simp))) (by simp)
    · exact gl_and hop (show FD (.val (.bool true)) u (a.eval (.tmp 61)) from hdep 28 (by simp)) (fun _ => (show FD (.val (.bool true)) u (a.eval (.tmp 64)) from hdep 31 (by simp))) rfl
    · exact gl_move (d := (.val (.bool true))) hop (show FD (.val (.bool true)) u (a.eval (.tmp 65)) from hdep 32 (by simp))
    · exact gl_load hop ((hout 7 rfl).trans e7) (V7.below hb) (H7.below hb)
    · exact gl_load hop ((hout 9 rfl).trans e9) (V9.below hb) (H9.below hb)
    · exact gl_call (d := (.val (.bool true))) 18 (args := #[a.eval (.tmp 67), a.eval (.tmp 68)]) hop (by simp only [List.map_toArray, List.map_cons, List.map_nil] <;> rfl) (fun args w => by kernel_rfl) (by have h := refSame_any _ Z Z (Nat.le_refl _) u _ _ (show FD (.jv Z) u (a.eval (.tmp 67)) from hdep 34 (by simp)) (show FD (.jv Z) u (a.eval (.tmp 68)) from hdep 35 (by simp)); rw [JV.same_yes] at h; exact gl_ret h)
    · exact gl_and hop (show FD (.val (.bool true)) u (a.eval (.tmp 66)) from hdep 33 (by simp)) (fun _ => (show FD (.val (.bool true)) u (a.eval (.tmp 69)) from hdep 36 (by simp))) rfl
    · exact gl_move (d := (.val (.bool true))) hop (show FD (.val (.bool true)) u (a.eval (.tmp 70)) from hdep 37 (by simp))
    · exact gl_load hop ((hout 3 rfl).trans e3) (V3.below hb) (H3.below hb)
    · exact gl_call (d := (.jv X)) 23 (args := #[a.eval (.tmp 72)]) hop (by simp only [List.map_toArray, List.map_cons, List.map_nil] <;> rfl) (fun args w => by kernel_rfl) ((copy_any _ X (Nat.le_refl _) hwX u _ (show FD (.jv X) u (a.eval (.tmp 72)) from hdep 39 (by simp))).mono fun e w2 ⟨⟨v, h1, h2⟩, h3⟩ => ⟨v, h1, h2.hv, h3⟩)
    · exact gl_load hop ((hout 3 rfl).trans e3) (V3.below hb) (H3.below hb)
    · exact gl_call (d := (.val (.bool true))) 18 (args := #[a.eval (.tmp 73), a.eval (.tmp 74)]) hop (by simp only [List.map_toArray, List.map_cons, List.map_nil] <;> rfl) (fun args w => by kernel_rfl) (by have h := refSame_any _ X X (Nat.le_refl _) u _ _ (show FD (.jv X) u (a.eval (.tmp 73)) from hdep 40 (by simp)) (show FD (.jv X) u (a.eval (.tmp 74)) from hdep 41 (by simp)); rw [JV.same_yes] at h; exact gl_ret h)
    · exact gl_and hop (show FD (.val (.bool true)) u (a.eval (.tmp 71)) from hdep 38 (by simp)) (fun _ => (show FD (.val (.bool true)) u (a.eval (.tmp 75)) from hdep 42 (by simp))) rfl
    · exact gl_move (d := (.val (.bool true))) hop (show FD (.val (.bool true)) u (a.eval (.tmp 76)) from hdep 43 (by simp))
    · exact gl_call (d := (.val (.bool true))) 12 (args := #[]) hop (by simp) (fun args w => by kernel_rfl) (gl_ret (awake_any u))
    · exact gl_and hop (show FD (.val (.bool true)) u (a.eval (.tmp 77)) from hdep 44 (by simp)) (fun _ => (show FD (.val (.bool true)) u (a.eval (.tmp 78)) from hdep 45 (by simp))) rfl
    · exact gl_assign (d := (.val (.bool true))) hop (show FD (.val (.bool true)) u (a.eval (.tmp 79)) from hdep 46 (by simp))
  · intro f u hall hb
    exact fin f u (hall 47 (by decide)) hb
end Go.Proofs.Ytcmalaabggohmaa
