/-
  The long statement of the laws' awake, which draws its order.
-/
import Derived.Test.YtcmalaabggohmaaValAwJ
namespace Go.Proofs.Ytcmalaabggohmaa
open Go.RowKit

def Taw : List (Option Tmp × Op × Option (Nat × Bool) × List Nat) :=
  [(some 18, Op.load 25 (Operand.tmp 1), none, []),
   (some 19, Op.call { callee := Callee.value (Operand.func 15), args := #[Operand.tmp 18], argTypes := #[25] }, none, [0]),
   (some 20, Op.move (Operand.tmp 19), none, [1, 1]),
   (some 21, Op.move (Operand.tmp 3), some (2, true), [2]),
   (some 22, Op.binOp BinOp.eql 35 (Operand.tmp 21) (Operand.const (Value.int IntKind.i64 0)) 35, some (2, true), [3, 2]),
   (some 23, Op.pick (Operand.tmp 20) (Operand.tmp 22) (Operand.const (Value.bool false)), none, [2, 4]),
   (some 24, Op.move (Operand.tmp 23), none, [5, 2]),
   (some 25, Op.load 25 (Operand.tmp 2), some (6, true), [6]),
   (some 26, Op.buildSlice 22 2 #[(0, Operand.const (Value.string { data := #[97] })), (1, Operand.const (Value.string { data := #[98] }))], some (6, true), [6]),
   (some 27, Op.call { callee := Callee.value (Operand.func 30), args := #[Operand.const (Value.int IntKind.i64 1)], argTypes := #[2] }, some (6, true), [6, 6]),
   (some 28, Op.call { callee := Callee.value (Operand.func 34), args := #[], argTypes := #[] }, some (6, true), [9, 6]),
   (some 29, Op.buildSlice 23 2 #[(0, Operand.tmp 27), (1, Operand.tmp 28)], some (6, true), [9, 10, 6]),
   (some 30, Op.call { callee := Callee.value (Operand.func 29), args := #[Operand.tmp 26, Operand.tmp 29], argTypes := #[22, 23] }, some (6, true), [8, 11, 10, 6]),
   (some 31, Op.call { callee := Callee.value (Operand.func 18), args := #[Operand.tmp 25, Operand.tmp 30], argTypes := #[25, 25] }, some (6, true), [7, 12, 12, 6]),
   (some 32, Op.pick (Operand.tmp 24) (Operand.tmp 31) (Operand.const (Value.bool false)), none, [6, 13]),
   (some 33, Op.move (Operand.tmp 32), none, [14, 13]),
   (some 34, Op.load 25 (Operand.tmp 2), some (15, true), [15]),
   (some 35, Op.call { callee := Callee.value (Operand.func 15), args := #[Operand.tmp 34], argTypes := #[25] }, some (15, true), [16, 15, 15]),
   (some 36, Op.pick (Operand.tmp 33) (Operand.tmp 35) (Operand.const (Value.bool false)), none, [15, 17]),
   (some 37, Op.move (Operand.tmp 36), none, [18, 17]),
   (some 38, Op.buildSlice 22 2 #[(0, Operand.const (Value.string { data := #[98] })), (1, Operand.const (Value.string { data := #[97] }))], some (19, true), [19]),
   (some 39, Op.call { callee := Callee.value (Operand.func 30), args := #[Operand.const (Value.int IntKind.i64 1)], argTypes := #[2] }, some (19, true), [19, 19]),
   (some 40, Op.call { callee := Callee.value (Operand.func 30), args := #[Operand.const (Value.int IntKind.i64 1)], argTypes := #[2] }, some (19, true), [21, 19]),
   (some 41, Op.buildSlice 23 2 #[(0, Operand.tmp 39), (1, Operand.tmp 40)], some (19, true), [21, 22, 19]),
   (some 42, Op.call { callee := Callee.value (Operand.func 29), args := #[Operand.tmp 38, Operand.tmp 41], argTypes := #[22, 23] }, some (19, true), [20, 23, 22, 19]),
   (some 43, Op.call { callee := Callee.value (Operand.func 15), args := #[Operand.tmp 42], argTypes := #[25] }, some (19, true), [24, 24, 19]),
   (some 44, Op.unOp UnOp.not 4 (Operand.tmp 43), some (19, true), [25, 19]),
   (some 45, Op.pick (Operand.tmp 37) (Operand.tmp 44) (Operand.const (Value.bool false)), none, [19, 26]),
   (some 46, Op.move (Operand.tmp 45), none, [27, 25]),
   (some 47, Op.load 25 (Operand.tmp 4), some (28, true), [28]),
   (some 48, Op.call { callee := Callee.value (Operand.func 21), args := #[Operand.tmp 47], argTypes := #[25] }, some (28, true), [29, 28, 28]),
   (some 49, Op.binOp BinOp.eql 3 (Operand.tmp 48) (Operand.const (Value.int IntKind.i64 2)) 3, some (28, true), [30, 28]),
   (some 50, Op.pick (Operand.tmp 46) (Operand.tmp 49) (Operand.const (Value.bool false)), none, [28, 31]),
   (some 51, Op.move (Operand.tmp 50), none, [32, 30]),
   (some 52, Op.load 25 (Operand.tmp 4), some (33, true), [33]),
   (some 53, Op.call { callee := Callee.value (Operand.func 19), args := #[Operand.tmp 52], argTypes := #[25] }, some (33, true), [34, 33, 33]),
   (some 54, Op.binOp BinOp.eql 3 (Operand.tmp 53) (Operand.const (Value.int IntKind.i64 2)) 3, some (33, true), [35, 33]),
   (some 55, Op.pick (Operand.tmp 51) (Operand.tmp 54) (Operand.const (Value.bool false)), none, [33, 36]),
   (some 56, Op.move (Operand.tmp 55), none, [37, 35]),
   (some 57, Op.build 25 #[(0, Operand.const (Value.int IntKind.u8 1)), (1, Operand.const (Value.int IntKind.i64 2))], some (38, true), [38]),
   (some 58, Op.call { callee := Callee.value (Operand.func 15), args := #[Operand.tmp 57], argTypes := #[25] }, some (38, true), [39, 38, 38]),
   (some 59, Op.unOp UnOp.not 4 (Operand.tmp 58), some (38, true), [40, 38]),
   (some 60, Op.pick (Operand.tmp 56) (Operand.tmp 59) (Operand.const (Value.bool false)), none, [38, 41]),
   (some 61, Op.move (Operand.tmp 60), none, [42, 40]),
   (some 62, Op.makeSlice 41 (Operand.const (Value.int IntKind.i64 4097)) (Operand.const (Value.int IntKind.i64 4097)), some (43, true), [43]),
   (some 63, Op.convert 41 9 (Operand.tmp 62), some (43, true), [44, 43]),
   (some 64, Op.call { callee := Callee.value (Operand.func 31), args := #[Operand.tmp 63], argTypes := #[9] }, some (43, true), [45, 43, 43]),
   (some 65, Op.call { callee := Callee.value (Operand.func 15), args := #[Operand.tmp 64], argTypes := #[25] }, some (43, true), [46, 46, 43]),
   (some 66, Op.unOp UnOp.not 4 (Operand.tmp 65), some (43, true), [47, 43]),
   (some 67, Op.pick (Operand.tmp 61) (Operand.tmp 66) (Operand.const (Value.bool false)), none, [43, 48]),
   (some 68, Op.move (Operand.tmp 67), none, [49, 47]),
   (some 69, Op.call { callee := Callee.value (Operand.func 31), args := #[Operand.const (Value.string { data := #[255] })], argTypes := #[9] }, some (50, true), [50, 50]),
   (some 70, Op.call { callee := Callee.value (Operand.func 15), args := #[Operand.tmp 69], argTypes := #[25] }, some (50, true), [51, 51, 50]),
   (some 71, Op.unOp UnOp.not 4 (Operand.tmp 70), some (50, true), [52, 50]),
   (some 72, Op.pick (Operand.tmp 68) (Operand.tmp 71) (Operand.const (Value.bool false)), none, [50, 53]),
   (some 73, Op.move (Operand.tmp 72), none, [54, 52]),
   (some 74, Op.makeSlice 41 (Operand.const (Value.int IntKind.i64 4096)) (Operand.const (Value.int IntKind.i64 4096)), some (55, true), [55]),
   (some 75, Op.convert 41 9 (Operand.tmp 74), some (55, true), [56, 55]),
   (some 76, Op.call { callee := Callee.value (Operand.func 31), args := #[Operand.tmp 75], argTypes := #[9] }, some (55, true), [57, 55, 55]),
   (some 77, Op.call { callee := Callee.value (Operand.func 15), args := #[Operand.tmp 76], argTypes := #[25] }, some (55, true), [58, 58, 55]),
   (some 78, Op.pick (Operand.tmp 73) (Operand.tmp 77) (Operand.const (Value.bool false)), none, [55, 59]),
   (some 79, Op.move (Operand.tmp 78), none, [60, 59]),
   (some 80, Op.load 25 (Operand.tmp 2), some (61, true), [61]),
   (some 81, Op.load 25 (Operand.tmp 2), some (61, true), [61]),
   (some 82, Op.call { callee := Callee.value (Operand.func 23), args := #[Operand.tmp 81], argTypes := #[25] }, some (61, true), [63, 61, 61]),
   (some 83, Op.call { callee := Callee.value (Operand.func 17), args := #[Operand.tmp 80, Operand.tmp 82], argTypes := #[25, 25] }, some (61, true), [62, 64, 64, 61]),
   (some 84, Op.pick (Operand.tmp 79) (Operand.tmp 83) (Operand.const (Value.bool false)), none, [61, 65]),
   (some 85, Op.move (Operand.tmp 84), none, [66, 65]),
   (some 86, Op.load 25 (Operand.tmp 1), some (67, true), [67]),
   (some 87, Op.load 25 (Operand.tmp 2), some (67, true), [67]),
   (some 88, Op.call { callee := Callee.value (Operand.func 17), args := #[Operand.tmp 86, Operand.tmp 87], argTypes := #[25, 25] }, some (67, true), [68, 69, 67, 67]),
   (some 89, Op.unOp UnOp.not 4 (Operand.tmp 88), some (67, true), [70, 67]),
   (some 90, Op.pick (Operand.tmp 85) (Operand.tmp 89) (Operand.const (Value.bool false)), none, [67, 71]),
   (some 0, Op.assign (Operand.tmp 90), none, [72, 70, 0, 1, 2, 3, 4, 5, 6, 7, 8, 9, 10, 11, 12, 13, 14, 15, 16, 17, 18, 19, 20, 21, 22, 23, 24, 25, 26, 27, 28, 29, 30, 31, 32, 33, 34, 35, 36, 37, 38, 39, 40, 41, 42, 43, 44, 45, 46, 47, 48, 49, 50, 51, 52, 53, 54, 55, 56, 57, 58, 59, 60, 61, 62, 63, 64, 65, 66, 67, 68, 69, 70, 71, 72])]
def Saw : List Nat := [18, 19, 20, 21, 22, 23, 24, 25, 26, 27, 28, 29, 30, 31, 32, 33, 34, 35, 36, 37, 38, 39, 40, 41, 42, 43, 44, 45, 46, 47, 48, 49, 50, 51, 52, 53, 54, 55, 56, 57, 58, 59, 60, 61, 62, 63, 64, 65, 66, 67, 68, 69, 70, 71, 72, 73, 74, 75, 76, 77, 78, 79, 80, 81, 82, 83, 84, 85, 86, 87, 88, 89, 90, 0]
def Daw (k : Nat) : Nat := Saw.getD k 0
def paw (i : Nat) : Bool := Saw.contains i
set_option maxRecDepth 100000 in
theorem injaw : ∀ i, i < 74 → ∀ j, j < 74 → Daw i = Daw j → i = j := by decide +kernel
set_option maxHeartbeats 8000000 in
set_option maxRecDepth 100000 in
theorem region_aw {ops : Array Oper} {Q : Exit → Act → World → Prop} {A : Act} {id : Nat} {w1 : World}
    (hkey : ops.toList.map keyG = Taw) (hlow : (List.range ops.size).all (fun i => match ops[i]? with | some o => o.after.all (fun e => !Region.binds .any e || decide (e.on < i)) | none => true) = true)
    (hsz : 90 < A.tmps.size) {ab bb db : Nat} {a0 a1 a2 a3 a4 b0 b1 b2 b3 b4 d0 d1 d2 d3 d4 : Value} (e1 : A.eval (.tmp 1) = .pointer (some ⟨ab, 0, none⟩)) (e2 : A.eval (.tmp 2) = .pointer (some ⟨bb, 0, none⟩)) (e4 : A.eval (.tmp 4) = .pointer (some ⟨db, 0, none⟩)) (e3 : A.eval (.tmp 3) = .int .i64 0)
    (V1 : VAt ab w1 a0 a1 a2 a3 a4) (V2 : VAt bb w1 b0 b1 b2 b3 b4) (V4 : VAt db w1 d0 d1 d2 d3 d4) (H1 : HV w1 (.agg #[a0, a1, a2, a3, a4]) Ja) (H2 : HV w1 (.agg #[b0, b1, b2, b3, b4]) Jb) (H4 : HV w1 (.agg #[d0, d1, d2, d3, d4]) Jd)
    (fin : ∀ (f : Nat → Value) u, FD (.val (.bool true)) u (f 0) → Below w1.heap.size w1 u → Q .normal (putR A paw f) u) : (Code.region id ops true).wp Try.prog Q A w1 := by
  refine wp_region_grow (by kernel_rfl) Taw hkey hlow paw Daw ?_ injaw (Fl [(.jv Ja), (.val (.bool true)), (.val (.bool true)), (.val (.int .i64 0)), (.val (.bool true)), (.val (.bool true)), (.val (.bool true)), (.jv Jb), (.names [[97], [98]]), (.jv (JV.num 1)), (.jv JV.yes), (.items [(JV.num 1), JV.yes]), (.jv Jb), (.val (.bool true)), (.val (.bool true)), (.val (.bool true)), (.jv Jb), (.val (.bool true)), (.val (.bool true)), (.val (.bool true)), (.names [[98], [97]]), (.jv (JV.num 1)), (.jv (JV.num 1)), (.items [(JV.num 1), (JV.num 1)]), (.jv (JV.obj [[98], [97]] [JV.num 1, JV.num 1])), (.val (.bool false)), (.val (.bool true)), (.val (.bool true)), (.val (.bool true)), (.jv Jd), (.val (.int .i64 2)), (.val (.bool true)), (.val (.bool true)), (.val (.bool true)), (.jv Jd), (.val (.int .i64 2)), (.val (.bool true)), (.val (.bool true)), (.val (.bool true)), (.jv (.mk 1 2 [] [] [])), (.val (.bool false)), (.val (.bool true)), (.val (.bool true)), (.val (.bool true)), (.zs 4097), (.val (.string (S (Zs 4097)))), (.jv (JV.text (Zs 4097))), (.val (.bool false)), (.val (.bool true)), (.val (.bool true)), (.val (.bool true)), (.jv (JV.text [255])), (.val (.bool false)), (.val (.bool true)), (.val (.bool true)), (.val (.bool true)), (.zs 4096), (.val (.string (S (Zs 4096)))), (.jv (JV.text (Zs 4096))), (.val (.bool true)), (.val (.bool true)), (.val (.bool true)), (.jv Jb), (.jv Jb), (.jv Jb), (.val (.bool true)), (.val (.bool true)), (.val (.bool true)), (.jv Ja), (.jv Jb), (.val (.bool false)), (.val (.bool true)), (.val (.bool true)), (.val (.bool true))]) (fun k u u2 v hb h => Fl.below _ k u u2 v hb h) (Gl [(.jv Ja), (.val (.bool true)), (.val (.bool true)), (.val (.int .i64 0)), (.val (.bool true)), (.val (.bool true)), (.val (.bool true)), (.jv Jb), (.names [[97], [98]]), (.jv (JV.num 1)), (.jv JV.yes), (.items [(JV.num 1), JV.yes]), (.jv Jb), (.val (.bool true)), (.val (.bool true)), (.val (.bool true)), (.jv Jb), (.val (.bool true)), (.val (.bool true)), (.val (.bool true)), (.names [[98], [97]]), (.jv (JV.num 1)), (.jv (JV.num 1)), (.items [(JV.num 1), (JV.num 1)]), (.jv (JV.obj [[98], [97]] [JV.num 1, JV.num 1])), (.val (.bool false)), (.val (.bool true)), (.val (.bool true)), (.val (.bool true)), (.jv Jd), (.val (.int .i64 2)), (.val (.bool true)), (.val (.bool true)), (.val (.bool true)), (.jv Jd), (.val (.int .i64 2)), (.val (.bool true)), (.val (.bool true)), (.val (.bool true)), (.jv (.mk 1 2 [] [] [])), (.val (.bool false)), (.val (.bool true)), (.val (.bool true)), (.val (.bool true)), (.zs 4097), (.val (.string (S (Zs 4097)))), (.jv (JV.text (Zs 4097))), (.val (.bool false)), (.val (.bool true)), (.val (.bool true)), (.val (.bool true)), (.jv (JV.text [255])), (.val (.bool false)), (.val (.bool true)), (.val (.bool true)), (.val (.bool true)), (.zs 4096), (.val (.string (S (Zs 4096)))), (.jv (JV.text (Zs 4096))), (.val (.bool true)), (.val (.bool true)), (.val (.bool true)), (.jv Jb), (.jv Jb), (.jv Jb), (.val (.bool true)), (.val (.bool true)), (.val (.bool true)), (.jv Ja), (.jv Jb), (.val (.bool false)), (.val (.bool true)), (.val (.bool true)), (.val (.bool true))]) (fun k c u v h1 h2 => Gl.val _ k c u v h1 h2) ?_ ?_ ?_ ?_
  · intro k y hy
    rcases k with _ | _ | _ | _ | _ | _ | _ | _ | _ | _ | _ | _ | _ | _ | _ | _ | _ | _ | _ | _ | _ | _ | _ | _ | _ | _ | _ | _ | _ | _ | _ | _ | _ | _ | _ | _ | _ | _ | _ | _ | _ | _ | _ | _ | _ | _ | _ | _ | _ | _ | _ | _ | _ | _ | _ | _ | _ | _ | _ | _ | _ | _ | _ | _ | _ | _ | _ | _ | _ | _ | _ | _ | _ | _ | k
    all_goals simp only [Taw, List.getElem?_cons_zero, List.getElem?_cons_succ, List.getElem?_nil, Option.some.injEq, reduceCtorEq] at hy
    all_goals subst hy
    all_goals exact ⟨rfl, rfl, Nat.lt_of_le_of_lt (by show (_ : Nat) ≤ 90; decide) hsz⟩
  · intro k y g b hy hg
    rcases k with _ | _ | _ | _ | _ | _ | _ | _ | _ | _ | _ | _ | _ | _ | _ | _ | _ | _ | _ | _ | _ | _ | _ | _ | _ | _ | _ | _ | _ | _ | _ | _ | _ | _ | _ | _ | _ | _ | _ | _ | _ | _ | _ | _ | _ | _ | _ | _ | _ | _ | _ | _ | _ | _ | _ | _ | _ | _ | _ | _ | _ | _ | _ | _ | _ | _ | _ | _ | _ | _ | _ | _ | _ | _ | k
    all_goals simp only [Taw, List.getElem?_cons_zero, List.getElem?_cons_succ, List.getElem?_nil, Option.some.injEq, reduceCtorEq] at hy
    all_goals subst hy
    all_goals first | (cases hg; done) | (have h2 := Prod.mk.inj (Option.some.inj hg); obtain ⟨rfl, rfl⟩ := h2; exact ⟨by simp, _, rfl⟩)
  · intro k y u hy hw
    rcases k with _ | _ | _ | _ | _ | _ | _ | _ | _ | _ | _ | _ | _ | _ | _ | _ | _ | _ | _ | _ | _ | _ | _ | _ | _ | _ | _ | _ | _ | _ | _ | _ | _ | _ | _ | _ | _ | _ | _ | _ | _ | _ | _ | _ | _ | _ | _ | _ | _ | _ | _ | _ | _ | _ | _ | _ | _ | _ | _ | _ | _ | _ | _ | _ | _ | _ | _ | _ | _ | _ | _ | _ | _ | _ | k
    all_goals simp only [Taw, List.getElem?_cons_zero, List.getElem?_cons_succ, List.getElem?_nil, Option.some.injEq, reduceCtorEq] at hy
    all_goals subst hy
    all_goals first | exact rfl | (exfalso; revert hw; decide)
  · intro k y a u hy hw hb hout hdep o hd hop
    rcases k with _ | _ | _ | _ | _ | _ | _ | _ | _ | _ | _ | _ | _ | _ | _ | _ | _ | _ | _ | _ | _ | _ | _ | _ | _ | _ | _ | _ | _ | _ | _ | _ | _ | _ | _ | _ | _ | _ | _ | _ | _ | _ | _ | _ | _ | _ | _ | _ | _ | _ | _ | _ | _ | _ | _ | _ | _ | _ | _ | _ | _ | _ | _ | _ | _ | _ | _ | _ | _ | _ | _ | _ | _ | _ | k
    all_goals simp only [Taw, List.getElem?_cons_zero, List.getElem?_cons_succ, List.getElem?_nil, Option.some.injEq, reduceCtorEq] at hy
    all_goals subst hy
    · exact gl_load hop ((hout 1 rfl).trans e1) (V1.below hb) (H1.below hb)
    · exact gl_call (d := (.val (.bool true))) 15 (args := #[a.eval (.tmp 18)]) hop (by simp only [List.map_toArray, List.map_cons, List.map_nil] <;> rfl) (fun args w => by kernel_rfl) (gl_ret (may_any Ja u _ (by decide) (show FD (.jv Ja) u (a.eval (.tmp 18)) from hdep 0 (by simp)) may_a))
    · exact gl_move (d := (.val (.bool true))) hop (show FD (.val (.bool true)) u (a.eval (.tmp 19)) from hdep 1 (by simp))
    · exact gl_move (d := (.val (.int .i64 0))) hop ((hout 3 rfl).trans e3)
    · exact gl_eqi hop (show FD (.val (.int .i64 0)) u (a.eval (.tmp 21)) from hdep 3 (by simp)) rfl
    · exact gl_and hop (show FD (.val (.bool true)) u (a.eval (.tmp 20)) from hdep 2 (by simp)) (fun _ => (show FD (.val (.bool true)) u (a.eval (.tmp 22)) from hdep 4 (by simp))) rfl
    · exact gl_move (d := (.val (.bool true))) hop (show FD (.val (.bool true)) u (a.eval (.tmp 23)) from hdep 5 (by simp))
    · exact gl_load hop ((hout 2 rfl).trans e2) (V2.below hb) (H2.below hb)
    · exact gl_names2 (l := [97]) (l' := [98]) _ _ hop rfl rfl
    · exact gl_call (d := (.jv (JV.num 1))) 30 (args := #[(Value.int IntKind.i64 1)]) hop (by simp only [List.map_toArray, List.map_cons, List.map_nil] <;> rfl) (fun args w => by kernel_rfl) (num_any 1 u (by omega))
    · exact gl_call (d := (.jv JV.yes)) 34 (args := #[]) hop (by simp) (fun args w => by kernel_rfl) (yes_any u)
    · exact gl_items2 hop (show FD (.jv (JV.num 1)) u (a.eval (.tmp 27)) from hdep 9 (by simp)) (show FD (.jv JV.yes) u (a.eval (.tmp 28)) from hdep 10 (by simp))
    · exact gl_call (d := (.jv Jb)) 29 (args := #[a.eval (.tmp 26), a.eval (.tmp 29)]) hop (by simp only [List.map_toArray, List.map_cons, List.map_nil] <;> rfl) (fun args w => by kernel_rfl) (obj_fd (X := Jb) rfl (by decide) (by decide) (by decide) (show FD (.names [[97], [98]]) u (a.eval (.tmp 26)) from hdep 8 (by simp)) (show FD (.items [(JV.num 1), JV.yes]) u (a.eval (.tmp 29)) from hdep 11 (by simp)))
    · exact gl_call (d := (.val (.bool true))) 18 (args := #[a.eval (.tmp 25), a.eval (.tmp 30)]) hop (by simp only [List.map_toArray, List.map_cons, List.map_nil] <;> rfl) (fun args w => by kernel_rfl) (by have h := refSame_any _ Jb Jb (Nat.le_refl _) u _ _ (show FD (.jv Jb) u (a.eval (.tmp 25)) from hdep 7 (by simp)) (show FD (.jv Jb) u (a.eval (.tmp 30)) from hdep 12 (by simp)); rw [JV.same_yes] at h; exact gl_ret h)
    · exact gl_and hop (show FD (.val (.bool true)) u (a.eval (.tmp 24)) from hdep 6 (by simp)) (fun _ => (show FD (.val (.bool true)) u (a.eval (.tmp 31)) from hdep 13 (by simp))) rfl
    · exact gl_move (d := (.val (.bool true))) hop (show FD (.val (.bool true)) u (a.eval (.tmp 32)) from hdep 14 (by simp))
    · exact gl_load hop ((hout 2 rfl).trans e2) (V2.below hb) (H2.below hb)
    · exact gl_call (d := (.val (.bool true))) 15 (args := #[a.eval (.tmp 34)]) hop (by simp only [List.map_toArray, List.map_cons, List.map_nil] <;> rfl) (fun args w => by kernel_rfl) (gl_ret (may_any Jb u _ (by decide) (show FD (.jv Jb) u (a.eval (.tmp 34)) from hdep 16 (by simp)) may_b))
    · exact gl_and hop (show FD (.val (.bool true)) u (a.eval (.tmp 33)) from hdep 15 (by simp)) (fun _ => (show FD (.val (.bool true)) u (a.eval (.tmp 35)) from hdep 17 (by simp))) rfl
    · exact gl_move (d := (.val (.bool true))) hop (show FD (.val (.bool true)) u (a.eval (.tmp 36)) from hdep 18 (by simp))
    · exact gl_names2 (l := [98]) (l' := [97]) _ _ hop rfl rfl
    · exact gl_call (d := (.jv (JV.num 1))) 30 (args := #[(Value.int IntKind.i64 1)]) hop (by simp only [List.map_toArray, List.map_cons, List.map_nil] <;> rfl) (fun args w => by kernel_rfl) (num_any 1 u (by omega))
    · exact gl_call (d := (.jv (JV.num 1))) 30 (args := #[(Value.int IntKind.i64 1)]) hop (by simp only [List.map_toArray, List.map_cons, List.map_nil] <;> rfl) (fun args w => by kernel_rfl) (num_any 1 u (by omega))
    · exact gl_items2 hop (show FD (.jv (JV.num 1)) u (a.eval (.tmp 39)) from hdep 21 (by simp)) (show FD (.jv (JV.num 1)) u (a.eval (.tmp 40)) from hdep 22 (by simp))
    · exact gl_call (d := (.jv (JV.obj [[98], [97]] [JV.num 1, JV.num 1]))) 29 (args := #[a.eval (.tmp 38), a.eval (.tmp 41)]) hop (by simp only [List.map_toArray, List.map_cons, List.map_nil] <;> rfl) (fun args w => by kernel_rfl) (obj_fd (X := (JV.obj [[98], [97]] [JV.num 1, JV.num 1])) rfl (by decide) (by decide) (by decide) (show FD (.names [[98], [97]]) u (a.eval (.tmp 38)) from hdep 20 (by simp)) (show FD (.items [(JV.num 1), (JV.num 1)]) u (a.eval (.tmp 41)) from hdep 23 (by simp)))
    · exact gl_call (d := (.val (.bool false))) 15 (args := #[a.eval (.tmp 42)]) hop (by simp only [List.map_toArray, List.map_cons, List.map_nil] <;> rfl) (fun args w => by kernel_rfl) (gl_ret (may_any (JV.obj [[98], [97]] [JV.num 1, JV.num 1]) u _ (by decide) (show FD (.jv (JV.obj [[98], [97]] [JV.num 1, JV.num 1])) u (a.eval (.tmp 42)) from hdep 24 (by simp)) may_ba))
    · exact gl_not hop (show FD (.val (.bool false)) u (a.eval (.tmp 43)) from hdep 25 (by simp))
    · exact gl_and hop (show FD (.val (.bool true)) u (a.eval (.tmp 37)) from hdep 19 (by simp)) (fun _ => (show FD (.val (.bool true)) u (a.eval (.tmp 44)) from hdep 26 (by simp))) rfl
    · exact gl_move (d := (.val (.bool true))) hop (show FD (.val (.bool true)) u (a.eval (.tmp 45)) from hdep 27 (by simp))
    · exact gl_load hop ((hout 4 rfl).trans e4) (V4.below hb) (H4.below hb)
    · exact gl_call (d := (.val (.int .i64 2))) 21 (args := #[a.eval (.tmp 47)]) hop (by simp only [List.map_toArray, List.map_cons, List.map_nil] <;> rfl) (fun args w => by kernel_rfl) (by have h := depth_any _ Jd (Nat.le_refl _) (by decide) u _ (show FD (.jv Jd) u (a.eval (.tmp 47)) from hdep 29 (by simp)); rw [dep_d] at h; exact gl_ret h)
    · exact gl_eqi hop (show FD (.val (.int .i64 2)) u (a.eval (.tmp 48)) from hdep 30 (by simp)) rfl
    · exact gl_and hop (show FD (.val (.bool true)) u (a.eval (.tmp 46)) from hdep 28 (by simp)) (fun _ => (show FD (.val (.bool true)) u (a.eval (.tmp 49)) from hdep 31 (by simp))) rfl
    · exact gl_move (d := (.val (.bool true))) hop (show FD (.val (.bool true)) u (a.eval (.tmp 50)) from hdep 32 (by simp))
    · exact gl_load hop ((hout 4 rfl).trans e4) (V4.below hb) (H4.below hb)
    · exact gl_call (d := (.val (.int .i64 2))) 19 (args := #[a.eval (.tmp 52)]) hop (by simp only [List.map_toArray, List.map_cons, List.map_nil] <;> rfl) (fun args w => by kernel_rfl) (by have h := count_any _ Jd (Nat.le_refl _) (by decide) u _ (show FD (.jv Jd) u (a.eval (.tmp 52)) from hdep 34 (by simp)); rw [cnt_d] at h; exact gl_ret h)
    · exact gl_eqi hop (show FD (.val (.int .i64 2)) u (a.eval (.tmp 53)) from hdep 35 (by simp)) rfl
    · exact gl_and hop (show FD (.val (.bool true)) u (a.eval (.tmp 51)) from hdep 33 (by simp)) (fun _ => (show FD (.val (.bool true)) u (a.eval (.tmp 54)) from hdep 36 (by simp))) rfl
    · exact gl_move (d := (.val (.bool true))) hop (show FD (.val (.bool true)) u (a.eval (.tmp 55)) from hdep 37 (by simp))
    · exact gl_two hop
    · exact gl_call (d := (.val (.bool false))) 15 (args := #[a.eval (.tmp 57)]) hop (by simp only [List.map_toArray, List.map_cons, List.map_nil] <;> rfl) (fun args w => by kernel_rfl) (gl_ret (may_any (.mk 1 2 [] [] []) u _ (by decide) (show FD (.jv (.mk 1 2 [] [] [])) u (a.eval (.tmp 57)) from hdep 39 (by simp)) may_two))
    · exact gl_not hop (show FD (.val (.bool false)) u (a.eval (.tmp 58)) from hdep 40 (by simp))
    · exact gl_and hop (show FD (.val (.bool true)) u (a.eval (.tmp 56)) from hdep 38 (by simp)) (fun _ => (show FD (.val (.bool true)) u (a.eval (.tmp 59)) from hdep 41 (by simp))) rfl
    · exact gl_move (d := (.val (.bool true))) hop (show FD (.val (.bool true)) u (a.eval (.tmp 60)) from hdep 42 (by simp))
    · exact gl_mk (n := 4097) hop (by decide)
    · exact gl_conv hop (show FD (.zs 4097) u (a.eval (.tmp 62)) from hdep 44 (by simp))
    · exact gl_call (d := (.jv (JV.text (Zs 4097)))) 31 (args := #[a.eval (.tmp 63)]) hop (by simp only [List.map_toArray, List.map_cons, List.map_nil] <;> rfl) (fun args w => by kernel_rfl) (text_fd (Zs 4097) (by rw [Zs_length]; decide) (show FD (.val (.string (S (Zs 4097)))) u (a.eval (.tmp 63)) from hdep 45 (by simp)))
    · exact gl_call (d := (.val (.bool false))) 15 (args := #[a.eval (.tmp 64)]) hop (by simp only [List.map_toArray, List.map_cons, List.map_nil] <;> rfl) (fun args w => by kernel_rfl) (gl_ret (may_any (JV.text (Zs 4097)) u _ (wt_zs 4097 (by decide)) (show FD (.jv (JV.text (Zs 4097))) u (a.eval (.tmp 64)) from hdep 46 (by simp)) may_long))
    · exact gl_not hop (show FD (.val (.bool false)) u (a.eval (.tmp 65)) from hdep 47 (by simp))
    · exact gl_and hop (show FD (.val (.bool true)) u (a.eval (.tmp 61)) from hdep 43 (by simp)) (fun _ => (show FD (.val (.bool true)) u (a.eval (.tmp 66)) from hdep 48 (by simp))) rfl
    · exact gl_move (d := (.val (.bool true))) hop (show FD (.val (.bool true)) u (a.eval (.tmp 67)) from hdep 49 (by simp))
    · exact gl_call (d := (.jv (JV.text [255]))) 31 (args := #[(Value.string { data := #[255] })]) hop (by simp only [List.map_toArray, List.map_cons, List.map_nil] <;> rfl) (fun args w => by kernel_rfl) (text_any [255] u (by decide))
    · exact gl_call (d := (.val (.bool false))) 15 (args := #[a.eval (.tmp 69)]) hop (by simp only [List.map_toArray, List.map_cons, List.map_nil] <;> rfl) (fun args w => by kernel_rfl) (gl_ret (may_any (JV.text [255]) u _ (by decide) (show FD (.jv (JV.text [255])) u (a.eval (.tmp 69)) from hdep 51 (by simp)) may_ff))
    · exact gl_not hop (show FD (.val (.bool false)) u (a.eval (.tmp 70)) from hdep 52 (by simp))
    · exact gl_and hop (show FD (.val (.bool true)) u (a.eval (.tmp 68)) from hdep 50 (by simp)) (fun _ => (show FD (.val (.bool true)) u (a.eval (.tmp 71)) from hdep 53 (by simp))) rfl
    · exact gl_move (d := (.val (.bool true))) hop (show FD (.val (.bool true)) u (a.eval (.tmp 72)) from hdep 54 (by simp))
    · exact gl_mk (n := 4096) hop (by decide)
    · exact gl_conv hop (show FD (.zs 4096) u (a.eval (.tmp 74)) from hdep 56 (by simp))
    · exact gl_call (d := (.jv (JV.text (Zs 4096)))) 31 (args := #[a.eval (.tmp 75)]) hop (by simp only [List.map_toArray, List.map_cons, List.map_nil] <;> rfl) (fun args w => by kernel_rfl) (text_fd (Zs 4096) (by rw [Zs_length]; decide) (show FD (.val (.string (S (Zs 4096)))) u (a.eval (.tmp 75)) from hdep 57 (by simp)))
    · exact gl_call (d := (.val (.bool true))) 15 (args := #[a.eval (.tmp 76)]) hop (by simp only [List.map_toArray, List.map_cons, List.map_nil] <;> rfl) (fun args w => by kernel_rfl) (gl_ret (may_any (JV.text (Zs 4096)) u _ (wt_zs 4096 (by decide)) (show FD (.jv (JV.text (Zs 4096))) u (a.eval (.tmp 76)) from hdep 58 (by simp)) may_most))
    · exact gl_and hop (show FD (.val (.bool true)) u (a.eval (.tmp 73)) from hdep 55 (by simp)) (fun _ => (show FD (.val (.bool true)) u (a.eval (.tmp 77)) from hdep 59 (by simp))) rfl
    · exact gl_move (d := (.val (.bool true))) hop (show FD (.val (.bool true)) u (a.eval (.tmp 78)) from hdep 60 (by simp))
    · exact gl_load hop ((hout 2 rfl).trans e2) (V2.below hb) (H2.below hb)
    · exact gl_load hop ((hout 2 rfl).trans e2) (V2.below hb) (H2.below hb)
    · exact gl_call (d := (.jv Jb)) 23 (args := #[a.eval (.tmp 81)]) hop (by simp only [List.map_toArray, List.map_cons, List.map_nil] <;> rfl) (fun args w => by kernel_rfl) ((copy_any _ Jb (Nat.le_refl _) (by decide) u _ (show FD (.jv Jb) u (a.eval (.tmp 81)) from hdep 63 (by simp))).mono fun e w2 ⟨⟨v, h1, h2⟩, h3⟩ => ⟨v, h1, h2.hv, h3⟩)
    · exact gl_call (d := (.val (.bool true))) 17 (args := #[a.eval (.tmp 80), a.eval (.tmp 82)]) hop (by simp only [List.map_toArray, List.map_cons, List.map_nil] <;> rfl) (fun args w => by kernel_rfl) (by have h := same_any _ Jb Jb (Nat.le_refl _) u _ _ (show FD (.jv Jb) u (a.eval (.tmp 80)) from hdep 62 (by simp)) (show FD (.jv Jb) u (a.eval (.tmp 82)) from hdep 64 (by simp)); rw [JV.same_yes] at h; exact gl_ret h)
    · exact gl_and hop (show FD (.val (.bool true)) u (a.eval (.tmp 79)) from hdep 61 (by simp)) (fun _ => (show FD (.val (.bool true)) u (a.eval (.tmp 83)) from hdep 65 (by simp))) rfl
    · exact gl_move (d := (.val (.bool true))) hop (show FD (.val (.bool true)) u (a.eval (.tmp 84)) from hdep 66 (by simp))
    · exact gl_load hop ((hout 1 rfl).trans e1) (V1.below hb) (H1.below hb)
    · exact gl_load hop ((hout 2 rfl).trans e2) (V2.below hb) (H2.below hb)
    · exact gl_call (d := (.val (.bool false))) 17 (args := #[a.eval (.tmp 86), a.eval (.tmp 87)]) hop (by simp only [List.map_toArray, List.map_cons, List.map_nil] <;> rfl) (fun args w => by kernel_rfl) (by have h := same_any _ Ja Jb (Nat.le_refl _) u _ _ (show FD (.jv Ja) u (a.eval (.tmp 86)) from hdep 68 (by simp)) (show FD (.jv Jb) u (a.eval (.tmp 87)) from hdep 69 (by simp)); rw [JV.same_no ne_ab] at h; exact gl_ret h)
    · exact gl_not hop (show FD (.val (.bool false)) u (a.eval (.tmp 88)) from hdep 70 (by simp))
    · exact gl_and hop (show FD (.val (.bool true)) u (a.eval (.tmp 85)) from hdep 67 (by simp)) (fun _ => (show FD (.val (.bool true)) u (a.eval (.tmp 89)) from hdep 71 (by simp))) rfl
    · exact gl_assign (d := (.val (.bool true))) hop (show FD (.val (.bool true)) u (a.eval (.tmp 90)) from hdep 72 (by simp))
  · intro f u hall hb
    exact fin f u (hall 73 (by decide)) hb
end Go.Proofs.Ytcmalaabggohmaa
