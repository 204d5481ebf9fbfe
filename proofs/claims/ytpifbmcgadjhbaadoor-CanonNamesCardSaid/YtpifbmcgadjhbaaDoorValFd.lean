/-
  Texts of zero bytes. What the operations of a drawn region leave, each in a slot of its own: by the kind of what it leaves.
-/
import Derived.Test.YtpifbmcgadjhbaaDoorValRefWo
import Derived.Test.YtpifbmcgadjhbaaDoorValRise
import Derived.Test.YtpifbmcgadjhbaaDoorRegGrow
import Derived.Laws.MakeOwn
import Derived.Laws.IdiomStrings
namespace Go.Proofs.YtpifbmcgadjhbaaDoor
section
open Go.RowKit

theorem fd_add (b o j : Nat) : (⟨b, o, none⟩ : Addr).add j = ⟨b, o + j, none⟩ := by unfold Addr.add; split <;> simp_all
/-- n zero bytes -/
def Zs (n : Nat) : List UInt8 := List.replicate n 0
def ZA (n : Nat) : Array Value := (V (Zs n)).toArray
theorem Zs_length (n : Nat) : (Zs n).length = n := by simp [Zs]
theorem cnt_zeros : ∀ n : Nat, Um.cnt (Zs n) = some n
  | 0 => rfl
  | n + 1 => by
    have h : Um.nx (Zs (n + 1)) = (0, 1, 0) := by
      unfold Um.nx
      rw [show Um.bt (Zs (n + 1)) 0 = 0 from rfl]
      unfold Um.nxN
      rw [if_neg (by rw [Zs_length]; omega), if_pos (by omega)]
    rw [Um.cnt_ok h]
    show (Um.cnt (Zs n)).map (· + 1) = _
    rw [cnt_zeros n]
    rfl
theorem txt_zeros (n : Nat) : Jn.txt (Zs n) = decide (n ≤ 4096) := by
  unfold Jn.txt
  rw [LEN_some (cnt_zeros n), Zs_length]
  rfl
theorem made_zs (n : Nat) : madeCells (Value.int .u8 0).cells (n * 1) = ZA n := by
  rw [Nat.mul_one]
  apply Array.ext
  · rw [size_madeCells]
    simp [ZA, V, Zs]
  · intro i h1 h2
    simp [madeCells, ZA, V, Zs, Value.cells, Nat.mod_one]
theorem run_make_zs (n : Nat) (c : Int) (hc : c = (n : Int)) (hn : n ≤ 100000000) (w : World) :
    (Instr.makeSlice 37 (.int .i64 c) (.int .i64 c)).run Tryd.prog w = .ok (.slice (some ⟨w.heap.size, 0, none⟩) n n) (w.alloc (.cells (ZA n) 5)) := by
  subst hc
  obtain ⟨i0, hi, hz, hs, hb⟩ := info_parts info5
  have h := run_make (P := Tryd.prog) w 37 5 i0 _ Tryd.underlying37 hi hz .i64 .i64 (n : Int) (n : Int) (by omega) (by omega) (by rw [hb]; omega) (by omega)
  rw [h, Int.toNat_natCast, hs, made_zs]
theorem conv_zs (w : World) (b n : Nat) (h : w.heap[b]? = some (.cells (ZA n) 5 (0, 0))) :
    (convert 37 9 (.slice (some ⟨b, 0, none⟩) n n)).run Tryd.prog w = .ok (.string (S (Zs n))) w := by
  have := run_convert_bytes_back (P := Tryd.prog) w 37 9 5 ⟨b, 0, none⟩ n (Zs n) Tryd.underlying37 Tryd.underlying5 Tryd.underlying9 (by
    intro j hj
    rw [fd_add, Nat.zero_add, cell_of_row w b j _ _ _ h]
    simp [ZA, V, List.getElem?_eq_getElem hj])
  rwa [Zs_length] at this
end

section
open Go.RowKit

/-- kinds of what an operation leaves -/
inductive Fd where
  | val (v : Value)
  | jv (x : JV)
  | names (ns : List (List UInt8))
  | items (is : List JV)
  | zs (n : Nat)
def FD : Fd → World → Value → Prop
  | .val x, _, v => v = x
  | .jv x, u, v => HV u v x
  | .names ns, u, v => ∃ b, v = .slice (some ⟨b, 0, none⟩) ns.length ns.length ∧ u.heap[b]? = some (.cells (NC ns).toArray 9 (0, 0))
  | .items is, u, v => ∃ b cs, v = .slice (some ⟨b, 0, none⟩) is.length is.length ∧ u.heap[b]? = some (.cells (cs : List Value).toArray 25 (0, 0)) ∧ HCS u cs is
  | .zs n, u, v => ∃ b, v = .slice (some ⟨b, 0, none⟩) n n ∧ u.heap[b]? = some (.cells (ZA n) 5 (0, 0))
theorem FD.below {u u' : World} (hb : Below u.heap.size u u') : ∀ {d : Fd} {v : Value}, FD d u v → FD d u' v
  | .val _, _, h => h
  | .jv _, _, h => HV.below h hb
  | .names _, _, ⟨b, h1, h2⟩ => ⟨b, h1, (hb.block b (Array.getElem?_eq_some_iff.1 h2).1).trans h2⟩
  | .items _, _, ⟨b, cs, h1, h2, h3⟩ => ⟨b, cs, h1, (hb.block b (Array.getElem?_eq_some_iff.1 h2).1).trans h2, HCS.below hb _ _ h3⟩
  | .zs _, _, ⟨b, h1, h2⟩ => ⟨b, h1, (hb.block b (Array.getElem?_eq_some_iff.1 h2).1).trans h2⟩
def Fl (l : List Fd) (k : Nat) (u : World) (v : Value) : Prop := match l[k]? with | some d => FD d u v | none => True
theorem Fl.below (l : List Fd) (k : Nat) (u u' : World) (v : Value) (hb : Below u.heap.size u u') (h : Fl l k u v) : Fl l k u' v := by
  unfold Fl at *
  split
  · rename_i d hd
    rw [hd] at h
    exact FD.below hb h
  · trivial
def Gl (l : List Fd) (k : Nat) : Option Bool := match l[k]? with | some (.val (.bool b)) => some b | _ => none
theorem Gl.val (l : List Fd) (k : Nat) (c : Bool) (u : World) (v : Value) (h : Gl l k = some c) (h2 : Fl l k u v) : v = .bool c := by
  unfold Gl at h
  unfold Fl at h2
  split at h
  · rename_i b hb
    rw [hb] at h2
    simp only [Option.some.injEq] at h
    rw [← h]
    exact h2
  · cases h
section
variable {Q : Exit → Act → World → Prop} {a : Act} {u : World} {o : Oper} {d : Fd}
abbrev Gw (o : Oper) (a : Act) (u : World) (Q : Exit → Act → World → Prop) (d : Fd) : Prop := o.wp Tryd.prog a u (fun a' u' => ∃ v, a' = a.put o.dst v ∧ FD d u' v ∧ Below u.heap.size u u') Q
theorem gl_val {v : Value} (h : (execOp a.eval o).run Tryd.prog u = .ok (.value v) u) : Gw o a u Q (.val v) := wp_val h ⟨v, rfl, rfl, Below.refl _ _⟩
theorem eval_c (v : Value) : a.eval (.const v) = v := rfl
theorem gl_move {x : Operand} (ho : o.op = .move x) (hx : FD d u (a.eval x)) : Gw o a u Q d := wp_val (by simp only [execOp, ho]; rfl) ⟨_, rfl, hx, Below.refl _ _⟩
theorem gl_assign {x : Operand} (ho : o.op = .assign x) (hx : FD d u (a.eval x)) : Gw o a u Q d := wp_val (by simp only [execOp, ho]; rfl) ⟨_, rfl, hx, Below.refl _ _⟩
theorem ld_box {b : Nat} {c0 c1 c2 c3 c4 : Value} (h : VAt b u c0 c1 c2 c3 c4) : (Instr.loadAt 25 (.pointer (some ⟨b, 0, none⟩))).run Tryd.prog u = .ok (.agg #[c0, c1, c2, c3, c4]) u := ld_val _ fun j z hj => by
  obtain ⟨⟨p0, p1, p2, p3, p4⟩, _⟩ := h.cells
  rw [Nat.zero_add]
  rcases j with _ | _ | _ | _ | _ | j
  all_goals simp only [List.getElem?_cons_zero, List.getElem?_cons_succ, List.getElem?_nil, Option.some.injEq, reduceCtorEq] at hj
  all_goals subst hj
  all_goals assumption
theorem gl_load {x : Operand} {b : Nat} {c0 c1 c2 c3 c4 : Value} {X : JV} (ho : o.op = .load 25 x) (hx : a.eval x = .pointer (some ⟨b, 0, none⟩)) (h : VAt b u c0 c1 c2 c3 c4) (hh : HV u (.agg #[c0, c1, c2, c3, c4]) X) : Gw o a u Q (.jv X) :=
  wp_val (by simp [execOp, ho, hx, ld_box h]) ⟨_, rfl, hh, Below.refl _ _⟩
/-- a call of a function by its name -/
theorem gl_call (f : FuncId) {xs : Array Operand} {ts : Array TypeId} {args : Array Value} (ho : o.op = .call { callee := .value (.func f), args := xs, argTypes := ts }) (hx : xs.map a.eval = args)
    (hf : ∀ args w, (callFunc f args).run Tryd.prog w = .ok (.enter f args) w) (hc : Calls Tryd.prog f args u fun e w' => ∃ v, e = .returned v ∧ FD d w' v ∧ Below u.heap.size u w') : Gw o a u Q d := by
  unfold Gw Oper.wp
  rw [exec_call f ho hx hf, Oper.upon_enter]
  refine hc.mono fun e w' ⟨v, he, hr⟩ => ?_
  subst he
  exact ⟨v, rfl, hr⟩
theorem gl_ret {f : FuncId} {args : Array Value} {v : Value} (h : Calls Tryd.prog f args u fun e w' => e = .returned v ∧ Below u.heap.size u w') : Calls Tryd.prog f args u fun e w' => ∃ z, e = .returned z ∧ FD (.val v) w' z ∧ Below u.heap.size u w' :=
  h.mono fun _ _ ⟨h1, h2⟩ => ⟨v, h1, rfl, h2⟩
theorem gl_not {x : Operand} {c : Bool} (ho : o.op = .unOp .not 4 x) (hx : a.eval x = .bool c) : Gw o a u Q (.val (.bool (!c))) := gl_val (by simp [execOp, ho, hx]; simp [go_sem])
theorem gl_eqi {t : TypeId} {x : Operand} {y z : Int} {r : Bool} (ho : o.op = .binOp .eql t x (.const (.int .i64 z)) t) (hx : a.eval x = .int .i64 y) (hr : (y == z) = r) : Gw o a u Q (.val (.bool r)) := gl_val (by
  subst hr
  have hc : a.eval (.const (.int .i64 z)) = .int .i64 z := rfl
  simp [execOp, ho, hx, hc, eqGuard]
  simp [go_sem, binOp])
theorem gl_eqb {x y : Operand} {b c : Bool} (ho : o.op = .binOp .eql 4 x y 4) (hx : a.eval x = .bool b) (hy : a.eval y = .bool c) : Gw o a u Q (.val (.bool (b == c))) := gl_val (by
  have he := run_equal_bool u 4 b c Tryd.underlying4
  simp [execOp, ho, hx, hy, eqGuard]
  simp [binOp, he])
theorem gl_neb {x y : Operand} {b c : Bool} (ho : o.op = .binOp .neq 4 x y 4) (hx : a.eval x = .bool b) (hy : a.eval y = .bool c) : Gw o a u Q (.val (.bool (b != c))) := gl_val (by
  have he := run_equal_bool u 4 b c Tryd.underlying4
  simp [execOp, ho, hx, hy, eqGuard]
  simp [binOp, he]
  cases b <;> cases c <;> rfl)
theorem gl_eqii {x y : Operand} {b c : Int} (ho : o.op = .binOp .eql 3 x y 3) (hx : a.eval x = .int .i64 b) (hy : a.eval y = .int .i64 c) : Gw o a u Q (.val (.bool (b == c))) := gl_val (by simp [execOp, ho, hx, hy, eqGuard]; simp [go_sem, binOp])
/-- '&&' behind what is true: what stands on the right; behind what is false: false -/
theorem gl_and {x y : Operand} {b c r : Bool} (ho : o.op = .pick x y (.const (.bool false))) (hx : a.eval x = .bool b) (hy : b = true → a.eval y = .bool c) (hr : r = (b && c)) : Gw o a u Q (.val (.bool r)) := by
  subst hr
  have hc : a.eval (.const (.bool false)) = .bool false := rfl
  cases b with
  | true => exact gl_val (by simp [execOp, ho, hx, hy rfl]; first | done | simp [go_sem])
  | false => exact gl_val (by simp [execOp, ho, hx, hc]; first | done | simp [go_sem])
/-- '||' -/
theorem gl_or {x y : Operand} {b c r : Bool} (ho : o.op = .pick x (.const (.bool true)) y) (hx : a.eval x = .bool b) (hy : b = false → a.eval y = .bool c) (hr : r = (b || c)) : Gw o a u Q (.val (.bool r)) := by
  subst hr
  have hc : a.eval (.const (.bool true)) = .bool true := rfl
  cases b with
  | false => exact gl_val (by simp [execOp, ho, hx, hy rfl]; first | done | simp [go_sem])
  | true => exact gl_val (by simp [execOp, ho, hx, hc]; first | done | simp [go_sem])
theorem gl_names1 {l : List UInt8} (t : ByteArray) (ho : o.op = .buildSlice 22 1 #[(0, .const (.string t))]) (ht : t = S l) : Gw o a u Q (.names [l]) := by
  subst ht
  obtain ⟨i0, hi0, hz0, hz1, hz2⟩ := info_parts info_name
  refine wp_buildSlice 22 9 1 _ ho #[.string (S l)] i0 _ Tryd.underlying22 hi0 hz0 (by rw [hz1]; decide) (by rw [hz1]; decide) ?_ ⟨_, rfl, ⟨_, rfl, heap_alloc_new u _⟩, (Below.refl _ _).alloc (Nat.le_refl _) _⟩
  rw [hz1, show (#[(0, Operand.const (.string (S l)))].map fun y : Nat × Operand => (y.1, a.eval y.2)).toList = [(0, Value.string (S l))] by simp [Act.eval]]
  exact fill_str (S l)
theorem fill_str2 (t t' : ByteArray) : Instr.fill (fun i => some (i * 1, 1)) ((Array.range (2 * 1)).map ((Value.string ⟨#[]⟩).cells[· % (Value.string ⟨#[]⟩).cells.size]!)) [(0, .string t), (1, .string t')] = some #[.string t, .string t'] := by kernel_rfl
theorem gl_names2 {l l' : List UInt8} (t t' : ByteArray) (ho : o.op = .buildSlice 22 2 #[(0, .const (.string t)), (1, .const (.string t'))]) (ht : t = S l) (ht' : t' = S l') : Gw o a u Q (.names [l, l']) := by
  subst ht ht'
  obtain ⟨i0, hi0, hz0, hz1, hz2⟩ := info_parts info_name
  refine wp_buildSlice 22 9 2 _ ho #[.string (S l), .string (S l')] i0 _ Tryd.underlying22 hi0 hz0 (by rw [hz1]; decide) (by rw [hz1]; decide) ?_ ⟨_, rfl, ⟨_, rfl, heap_alloc_new u _⟩, (Below.refl _ _).alloc (Nat.le_refl _) _⟩
  rw [hz1, show (#[(0, Operand.const (.string (S l))), (1, Operand.const (.string (S l')))].map fun y : Nat × Operand => (y.1, a.eval y.2)).toList = [(0, Value.string (S l)), (1, Value.string (S l'))] by simp [Act.eval]]
  exact fill_str2 (S l) (S l')
theorem gl_items1 {x : Operand} {X : JV} (ho : o.op = .buildSlice 23 1 #[(0, x)]) (hx : HV u (a.eval x) X) : Gw o a u Q (.items [X]) := by
  obtain ⟨i0, hi0, hz0, hz1, hz2⟩ := info_parts info_val
  obtain ⟨cs, he, hc⟩ := hx
  obtain ⟨ya, yb, yca, ycb, rfl, _⟩ := hc.form
  have ba : Below u.heap.size u (u.alloc (.cells #[.int .u8 (X.k : Int), .int .i64 X.n, .string (S X.t), .slice ya X.ns.length yca, .slice yb X.is.length ycb] 25)) := (Below.refl _ _).alloc (Nat.le_refl _) _
  refine wp_buildSlice 23 25 1 _ ho #[.int .u8 (X.k : Int), .int .i64 X.n, .string (S X.t), .slice ya X.ns.length yca, .slice yb X.is.length ycb] i0 _ Tryd.underlying23 hi0 hz0 (by rw [hz1]; decide) (by rw [hz1]; decide) ?_ ⟨_, rfl, ⟨u.heap.size, _, rfl, heap_alloc_new u _, HCS.one (HC.below ba _ _ hc)⟩, ba⟩
  rw [hz1, show (#[(0, x)].map fun y : Nat × Operand => (y.1, a.eval y.2)).toList = [(0, Value.agg #[.int .u8 (X.k : Int), .int .i64 X.n, .string (S X.t), .slice ya X.ns.length yca, .slice yb X.is.length ycb])] by simp [he]]
  exact fill_val _ _ _ _ _
theorem fill_val2 (c0 c1 c2 c3 c4 d0 d1 d2 d3 d4 : Value) : Instr.fill (fun i => some (i * 5, 5)) ((Array.range (2 * 5)).map ((Value.agg V5).cells[· % (Value.agg V5).cells.size]!)) [(0, .agg #[c0, c1, c2, c3, c4]), (1, .agg #[d0, d1, d2, d3, d4])] = some #[c0, c1, c2, c3, c4, d0, d1, d2, d3, d4] := by kernel_rfl
theorem gl_items2 {x y : Operand} {X Y : JV} (ho : o.op = .buildSlice 23 2 #[(0, x), (1, y)]) (hx : HV u (a.eval x) X) (hy : HV u (a.eval y) Y) : Gw o a u Q (.items [X, Y]) := by
  obtain ⟨i0, hi0, hz0, hz1, hz2⟩ := info_parts info_val
  obtain ⟨cs, he, hc⟩ := hx
  obtain ⟨ya, yb, yca, ycb, rfl, _⟩ := hc.form
  obtain ⟨cs, he', hc'⟩ := hy
  obtain ⟨za, zb, zca, zcb, rfl, _⟩ := hc'.form
  have ba : Below u.heap.size u (u.alloc (.cells #[.int .u8 (X.k : Int), .int .i64 X.n, .string (S X.t), .slice ya X.ns.length yca, .slice yb X.is.length ycb, .int .u8 (Y.k : Int), .int .i64 Y.n, .string (S Y.t), .slice za Y.ns.length zca, .slice zb Y.is.length zcb] 25)) := (Below.refl _ _).alloc (Nat.le_refl _) _
  refine wp_buildSlice 23 25 2 _ ho #[.int .u8 (X.k : Int), .int .i64 X.n, .string (S X.t), .slice ya X.ns.length yca, .slice yb X.is.length ycb, .int .u8 (Y.k : Int), .int .i64 Y.n, .string (S Y.t), .slice za Y.ns.length zca, .slice zb Y.is.length zcb] i0 _ Tryd.underlying23 hi0 hz0 (by rw [hz1]; decide) (by rw [hz1]; decide) ?_ ⟨_, rfl, ⟨u.heap.size, _, rfl, heap_alloc_new u _, HCS.snoc (HC.below ba _ _ hc') (HCS.one (HC.below ba _ _ hc))⟩, ba⟩
  rw [hz1, show (#[(0, x), (1, y)].map fun y : Nat × Operand => (y.1, a.eval y.2)).toList = [(0, Value.agg #[.int .u8 (X.k : Int), .int .i64 X.n, .string (S X.t), .slice ya X.ns.length yca, .slice yb X.is.length ycb]), (1, Value.agg #[.int .u8 (Y.k : Int), .int .i64 Y.n, .string (S Y.t), .slice za Y.ns.length zca, .slice zb Y.is.length zcb])] by simp [he, he']]
  exact fill_val2 _ _ _ _ _ _ _ _ _ _
theorem gl_mk {n : Nat} (ho : o.op = .makeSlice 37 (.const (.int .i64 (n : Int))) (.const (.int .i64 (n : Int)))) (hn : n ≤ 100000000) : Gw o a u Q (.zs n) := by
  have hc : a.eval (.const (.int .i64 (n : Int))) = .int .i64 (n : Int) := rfl
  exact wp_val (by simp only [execOp, ho, hc]; rw [Sem.run_bind, run_make_zs n n rfl hn u]; rfl) ⟨_, rfl, ⟨_, rfl, heap_alloc_new u _⟩, (Below.refl _ _).alloc (Nat.le_refl _) _⟩
theorem gl_conv {x : Operand} {n : Nat} (ho : o.op = .convert 37 9 x) (hx : FD (.zs n) u (a.eval x)) : Gw o a u Q (.val (.string (S (Zs n)))) := by
  obtain ⟨b, h1, h2⟩ := hx
  have := conv_zs u b n h2
  exact gl_val (by simp only [execOp, ho, h1]; rw [Sem.run_bind, this]; rfl)
end
end
end Go.Proofs.YtpifbmcgadjhbaaDoor
