/-
  The long statement of the laws' awake, which draws its order.
-/
import Derived.Test.YtpifbmcgadjhbaaDoorCanAwJ
namespace Go.Proofs.YtpifbmcgadjhbaaDoor
open Go.RowKit

/-- the chapter's example -/
def Jw : JV := .mk 5 0 [] [[97], [98]] [.mk 4 0 [] [] [JV.num 1, JV.yes], JV.text [120, 34, 121]]
theorem itoa_1 : Lib.itoa 1 = [49] := (Nm.itoa_is (by decide) 1).2 (by decide)
theorem enc_Jw : ENC Jw = ([123, 34, 97, 34, 58, 91, 49, 44, 116, 114, 117, 101, 93, 44, 34, 98, 34, 58, 34, 120, 92, 34, 121, 34, 125], 0) := by
  rw [ENC_ok (by decide)]
  unfold Jw JV.num JV.yes JV.text
  simp only [Cn.form, Cn.cat, Cn.mem, Cn.hd, itoa_1]
  rfl
theorem enc_nl : ENC (JV.text [10]) = ([34, 10, 34], 0) := by rw [ENC_ok (by decide)]; rfl
theorem enc_no : ENC (.mk 5 0 [] [] []) = ([123, 125], 0) := by rw [ENC_ok (by decide)]; rfl
theorem enc_b2 : ENC (.mk 1 2 [] [] []) = ([], 3) := ENC_no (by decide)
def Tcw : List (Option Tmp × Op × Option (Nat × Bool) × List Nat) :=
  [(some 12, Op.buildSlice 22 2 #[(0, Operand.const (Value.string { data := #[97] })), (1, Operand.const (Value.string { data := #[98] }))], none, []),
   (some 13, Op.load 25 (Operand.tmp 1), none, []),
   (some 14, Op.load 25 (Operand.tmp 2), none, []),
   (some 15, Op.buildSlice 23 2 #[(0, Operand.tmp 13), (1, Operand.tmp 14)], none, [1, 2]),
   (some 16, Op.build 25 #[(0, Operand.const (Value.int IntKind.u8 4)), (4, Operand.tmp 15)], none, [3]),
   (some 17, Op.call { callee := Callee.value (Operand.func 14), args := #[Operand.const (Value.string { data := #[120, 34, 121] })], argTypes := #[9] }, none, []),
   (some 18, Op.buildSlice 23 2 #[(0, Operand.tmp 16), (1, Operand.tmp 17)], none, [4, 5]),
   (some 19, Op.build 25 #[(0, Operand.const (Value.int IntKind.u8 5)), (3, Operand.tmp 12), (4, Operand.tmp 18)], none, [0, 6]),
   (some 20, Op.call { callee := Callee.value (Operand.func 13), args := #[Operand.tmp 19, Operand.const (Value.string { data := #[123, 34, 97, 34, 58, 91, 49, 44, 116, 114, 117, 101, 93, 44, 34, 98, 34, 58, 34, 120, 92, 34, 121, 34, 125] })], argTypes := #[25, 9] }, none, [7, 5]),
   (some 21, Op.move (Operand.tmp 20), none, [8, 8]),
   (some 22, Op.call { callee := Callee.value (Operand.func 14), args := #[Operand.const (Value.string { data := #[10] })], argTypes := #[9] }, some (9, true), [9, 9]),
   (some 23, Op.call { callee := Callee.value (Operand.func 13), args := #[Operand.tmp 22, Operand.const (Value.string { data := #[34, 10, 34] })], argTypes := #[25, 9] }, some (9, true), [10, 10, 9]),
   (some 24, Op.pick (Operand.tmp 21) (Operand.tmp 23) (Operand.const (Value.bool false)), none, [9, 11]),
   (some 25, Op.move (Operand.tmp 24), none, [12, 11]),
   (some 26, Op.build 25 #[(0, Operand.const (Value.int IntKind.u8 5))], some (13, true), [13]),
   (some 27, Op.call { callee := Callee.value (Operand.func 13), args := #[Operand.tmp 26, Operand.const (Value.string { data := #[123, 125] })], argTypes := #[25, 9] }, some (13, true), [14, 13, 13]),
   (some 28, Op.pick (Operand.tmp 25) (Operand.tmp 27) (Operand.const (Value.bool false)), none, [13, 15]),
   (some 29, Op.move (Operand.tmp 28), none, [16, 15]),
   (some 30, Op.move (Operand.tmp 4), some (17, true), [17]),
   (some 31, Op.binOp BinOp.eql 28 (Operand.tmp 30) (Operand.const (Value.int IntKind.i64 3)) 28, some (17, true), [18, 17]),
   (some 32, Op.pick (Operand.tmp 29) (Operand.tmp 31) (Operand.const (Value.bool false)), none, [17, 19]),
   (some 0, Op.assign (Operand.tmp 32), none, [20, 17, 0, 1, 2, 3, 4, 5, 6, 7, 8, 9, 10, 11, 12, 13, 14, 15, 16, 17, 18, 19, 20])]
def Scw : List Nat := [12, 13, 14, 15, 16, 17, 18, 19, 20, 21, 22, 23, 24, 25, 26, 27, 28, 29, 30, 31, 32, 0]
def Dcw (k : Nat) : Nat := Scw.getD k 0
def pcw (i : Nat) : Bool := Scw.contains i
set_option maxRecDepth 100000 in
theorem injcw : ∀ i, i < 22 → ∀ j, j < 22 → Dcw i = Dcw j → i = j := by decide +kernel
set_option maxHeartbeats 8000000 in
set_option maxRecDepth 100000 in
theorem region_cw {ops : Array Oper} {Q : Exit → Act → World → Prop} {A : Act} {id : Nat} {w1 : World}
    (hkey : ops.toList.map keyG = Tcw) (hlow : (List.range ops.size).all (fun i => match ops[i]? with | some o => o.after.all (fun e => !Region.binds .any e || decide (e.on < i)) | none => true) = true)
    (hsz : 32 < A.tmps.size) {ab bb : Nat} {a0 a1 a2 a3 a4 b0 b1 b2 b3 b4 : Value} (e1 : A.eval (.tmp 1) = .pointer (some ⟨ab, 0, none⟩)) (e2 : A.eval (.tmp 2) = .pointer (some ⟨bb, 0, none⟩)) (e4 : A.eval (.tmp 4) = .int .i64 3)
    (V1 : VAt ab w1 a0 a1 a2 a3 a4) (V2 : VAt bb w1 b0 b1 b2 b3 b4) (H1 : HV w1 (.agg #[a0, a1, a2, a3, a4]) (JV.num 1)) (H2 : HV w1 (.agg #[b0, b1, b2, b3, b4]) JV.yes) (hT : TabN w1)
    (fin : ∀ (f : Nat → Value) u, FD (.val (.bool true)) u (f 0) → Below w1.heap.size w1 u → Q .normal (putR A pcw f) u) : (Code.region id ops true).wp Tryd.prog Q A w1 := by
  refine wp_region_grow (by kernel_rfl) Tcw hkey hlow pcw Dcw ?_ injcw (Fl [(.names [[97], [98]]), (.jv (JV.num 1)), (.jv JV.yes), (.items [(JV.num 1), JV.yes]), (.jv (.mk 4 0 [] [] [JV.num 1, JV.yes])), (.jv (JV.text [120, 34, 121])), (.items [(.mk 4 0 [] [] [JV.num 1, JV.yes]), (JV.text [120, 34, 121])]), (.jv Jw), (.val (.bool true)), (.val (.bool true)), (.jv (JV.text [10])), (.val (.bool true)), (.val (.bool true)), (.val (.bool true)), (.jv (.mk 5 0 [] [] [])), (.val (.bool true)), (.val (.bool true)), (.val (.bool true)), (.val (.int .i64 3)), (.val (.bool true)), (.val (.bool true)), (.val (.bool true))]) (fun k u u2 v hb h => Fl.below _ k u u2 v hb h) (Gl [(.names [[97], [98]]), (.jv (JV.num 1)), (.jv JV.yes), (.items [(JV.num 1), JV.yes]), (.jv (.mk 4 0 [] [] [JV.num 1, JV.yes])), (.jv (JV.text [120, 34, 121])), (.items [(.mk 4 0 [] [] [JV.num 1, JV.yes]), (JV.text [120, 34, 121])]), (.jv Jw), (.val (.bool true)), (.val (.bool true)), (.jv (JV.text [10])), (.val (.bool true)), (.val (.bool true)), (.val (.bool true)), (.jv (.mk 5 0 [] [] [])), (.val (.bool true)), (.val (.bool true)), (.val (.bool true)), (.val (.int .i64 3)), (.val (.bool true)), (.val (.bool true)), (.val (.bool true))]) (fun k c u v h1 h2 => Gl.val _ k c u v h1 h2) ?_ ?_ ?_ ?_
  · intro k y hy
    rcases k with _ | _ | _ | _ | _ | _ | _ | _ | _ | _ | _ | _ | _ | _ | _ | _ | _ | _ | _ | _ | _ | _ | k
    all_goals simp only [Tcw, List.getElem?_cons_zero, List.getElem?_cons_succ, List.getElem?_nil, Option.some.injEq, reduceCtorEq] at hy
    all_goals subst hy
    all_goals exact ⟨rfl, rfl, Nat.lt_of_le_of_lt (by show (_ : Nat) ≤ 32; decide) hsz⟩
  · intro k y g b hy hg
    rcases k with _ | _ | _ | _ | _ | _ | _ | _ | _ | _ | _ | _ | _ | _ | _ | _ | _ | _ | _ | _ | _ | _ | k
    all_goals simp only [Tcw, List.getElem?_cons_zero, List.getElem?_cons_succ, List.getElem?_nil, Option.some.injEq, reduceCtorEq] at hy
    all_goals subst hy
    all_goals first | (cases hg; done) | (have h2 := Prod.mk.inj (Option.some.inj hg); obtain ⟨rfl, rfl⟩ := h2; exact ⟨by simp, _, rfl⟩)
  · intro k y u hy hw
    rcases k with _ | _ | _ | _ | _ | _ | _ | _ | _ | _ | _ | _ | _ | _ | _ | _ | _ | _ | _ | _ | _ | _ | k
    all_goals simp only [Tcw, List.getElem?_cons_zero, List.getElem?_cons_succ, List.getElem?_nil, Option.some.injEq, reduceCtorEq] at hy
    all_goals subst hy
    all_goals first | exact rfl | exact Bool.noConfusion (show true = false from hw)
  · intro k y a u hy hw hb hout hdep o hd hop
    rcases k with _ | _ | _ | _ | _ | _ | _ | _ | _ | _ | _ | _ | _ | _ | _ | _ | _ | _ | _ | _ | _ | _ | k
    all_goals simp only [Tcw, List.getElem?_cons_zero, List.getElem?_cons_succ, List.getElem?_nil, Option.some.injEq, reduceCtorEq] at hy
    all_goals subst hy
    · exact gl_names2 (l := [97]) (l' := [98]) _ _ hop rfl rfl
    · exact gl_load hop ((hout 1 rfl).trans e1) (V1.below hb) (H1.below hb)
    · exact gl_load hop ((hout 2 rfl).trans e2) (V2.below hb) (H2.below hb)
    · exact gl_items2 hop (show FD (.jv (JV.num 1)) u (a.eval (.tmp 13)) from hdep 1 (by simp)) (show FD (.jv JV.yes) u (a.eval (.tmp 14)) from hdep 2 (by simp))
    · exact gl_bi (k := 4) (by decide) hop (show FD (.items [(JV.num 1), JV.yes]) u (a.eval (.tmp 15)) from hdep 3 (by simp)) (by decide)
    · exact gl_call (d := (.jv (JV.text [120, 34, 121]))) 14 (args := #[(Value.string { data := #[120, 34, 121] })]) hop (by simp only [List.map_toArray, List.map_cons, List.map_nil] <;> rfl) (fun args w => by kernel_rfl) (text10_fd [120, 34, 121] (by decide) rfl)
    · exact gl_items2 hop (show FD (.jv (.mk 4 0 [] [] [JV.num 1, JV.yes])) u (a.eval (.tmp 16)) from hdep 4 (by simp)) (show FD (.jv (JV.text [120, 34, 121])) u (a.eval (.tmp 17)) from hdep 5 (by simp))
    · exact gl_bo (k := 5) (by decide) hop (show FD (.names [[97], [98]]) u (a.eval (.tmp 12)) from hdep 0 (by simp)) (show FD (.items [(.mk 4 0 [] [] [JV.num 1, JV.yes]), (JV.text [120, 34, 121])]) u (a.eval (.tmp 18)) from hdep 6 (by simp)) (by decide) (by decide) (by decide)
    · exact gl_call (d := (.val (.bool true))) 13 (args := #[a.eval (.tmp 19), (Value.string { data := #[123, 34, 97, 34, 58, 91, 49, 44, 116, 114, 117, 101, 93, 44, 34, 98, 34, 58, 34, 120, 92, 34, 121, 34, 125] })]) hop (by simp only [List.map_toArray, List.map_cons, List.map_nil] <;> rfl) (fun args w => by kernel_rfl) (is_fd [123, 34, 97, 34, 58, 91, 49, 44, 116, 114, 117, 101, 93, 44, 34, 98, 34, 58, 34, 120, 92, 34, 121, 34, 125] enc_Jw (by decide) (show FD (.jv Jw) u (a.eval (.tmp 19)) from hdep 7 (by simp)) (hT.below hb) rfl)
    · exact gl_move (d := (.val (.bool true))) hop (show FD (.val (.bool true)) u (a.eval (.tmp 20)) from hdep 8 (by simp))
    · exact gl_call (d := (.jv (JV.text [10]))) 14 (args := #[(Value.string { data := #[10] })]) hop (by simp only [List.map_toArray, List.map_cons, List.map_nil] <;> rfl) (fun args w => by kernel_rfl) (text10_fd [10] (by decide) rfl)
    · exact gl_call (d := (.val (.bool true))) 13 (args := #[a.eval (.tmp 22), (Value.string { data := #[34, 10, 34] })]) hop (by simp only [List.map_toArray, List.map_cons, List.map_nil] <;> rfl) (fun args w => by kernel_rfl) (is_fd [34, 10, 34] enc_nl (by decide) (show FD (.jv (JV.text [10])) u (a.eval (.tmp 22)) from hdep 10 (by simp)) (hT.below hb) rfl)
    · exact gl_and hop (show FD (.val (.bool true)) u (a.eval (.tmp 21)) from hdep 9 (by simp)) (fun _ => (show FD (.val (.bool true)) u (a.eval (.tmp 23)) from hdep 11 (by simp))) rfl
    · exact gl_move (d := (.val (.bool true))) hop (show FD (.val (.bool true)) u (a.eval (.tmp 24)) from hdep 12 (by simp))
    · exact gl_bk (k := 5) (by decide) hop
    · exact gl_call (d := (.val (.bool true))) 13 (args := #[a.eval (.tmp 26), (Value.string { data := #[123, 125] })]) hop (by simp only [List.map_toArray, List.map_cons, List.map_nil] <;> rfl) (fun args w => by kernel_rfl) (is_fd [123, 125] enc_no (by decide) (show FD (.jv (.mk 5 0 [] [] [])) u (a.eval (.tmp 26)) from hdep 14 (by simp)) (hT.below hb) rfl)
    · exact gl_and hop (show FD (.val (.bool true)) u (a.eval (.tmp 25)) from hdep 13 (by simp)) (fun _ => (show FD (.val (.bool true)) u (a.eval (.tmp 27)) from hdep 15 (by simp))) rfl
    · exact gl_move (d := (.val (.bool true))) hop (show FD (.val (.bool true)) u (a.eval (.tmp 28)) from hdep 16 (by simp))
    · exact gl_move (d := (.val (.int .i64 3))) hop ((hout 4 rfl).trans e4)
    · exact gl_eqi hop (show FD (.val (.int .i64 3)) u (a.eval (.tmp 30)) from hdep 18 (by simp)) rfl
    · exact gl_and hop (show FD (.val (.bool true)) u (a.eval (.tmp 29)) from hdep 17 (by simp)) (fun _ => (show FD (.val (.bool true)) u (a.eval (.tmp 31)) from hdep 19 (by simp))) rfl
    · exact gl_assign (d := (.val (.bool true))) hop (show FD (.val (.bool true)) u (a.eval (.tmp 32)) from hdep 20 (by simp))
  · intro f u hall hb
    exact fin f u (hall 21 (by decide)) hb
end Go.Proofs.YtpifbmcgadjhbaaDoor
