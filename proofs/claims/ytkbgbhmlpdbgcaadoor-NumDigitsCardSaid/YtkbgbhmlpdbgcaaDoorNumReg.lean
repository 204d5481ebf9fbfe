/-
  The statement of NumDigits that draws its order.
-/
import Derived.Test.YtkbgbhmlpdbgcaaDoorNumAwake
import Derived.Test.YtkbgbhmlpdbgcaaDoorRegCalls
import Derived.Great.BuildSlice
namespace Go.Proofs.YtkbgbhmlpdbgcaaDoor
open Go.RowKit
open Go.Lib (itoa decDigits)

/-- a digit more -/
theorem Nm.more_dig_form {n : Int} {c : UInt8} (hn : 1 ≤ n) (hc : Nm.dig c = true) : Nm.form (itoa n ++ [c]) = true ∧ Nm.val (itoa n ++ [c]) = 10 * n + ((c.toNat : Int) - 48) := by
  have hI : itoa n = decDigits n.toNat := Nm.itoa_nn (by omega)
  have hp := Nm.pos_iff.1 (Nm.pos_dec (show 1 ≤ n.toNat by omega))
  have hall : (itoa n ++ [c]).all Nm.dig = true := by rw [hI, List.all_append, hp.2.2]; simp [hc]
  have hc' := Nm.dig_iff.1 hc
  refine ⟨?_, ?_⟩
  · unfold Nm.form
    rw [Nm.body_of_dig hall]
    have : Nm.pos (itoa n ++ [c]) = true := by
      rw [Nm.pos_iff]
      refine ⟨by simp, ?_, hall⟩
      rw [hI]
      cases hd : decDigits n.toNat with
      | nil => exact absurd hd hp.1
      | cons a r =>
        have h2 := hp.2.1
        rw [hd] at h2
        exact h2
    rw [this, Bool.or_true]
  · unfold Nm.val
    rw [Nm.neg_of_dig hall, Nm.body_of_dig hall, Nm.nat_append, hI, Nm.nat_dec]
    simp only [Bool.false_eq_true, ↓reduceIte]
    omega
theorem Nm.txt_all_self {l : List UInt8} (h : l.all Nm.more = true) : Nm.txt l 0 = l := by
  show (l.drop 0).takeWhile Nm.more = l
  rw [List.drop_zero]
  induction l with
  | nil => rfl
  | cons a r ih =>
    simp only [List.all_cons, Bool.and_eq_true] at h
    rw [List.takeWhile_cons, if_pos h.1, ih h.2]
theorem Nm.READ_form {l : List UInt8} (h : Nm.form l = true) : Nm.READ l 0 = if Nm.inR (Nm.val l) then (Nm.val l, (l.length : Int), 0) else (0, 0, 9) := by
  unfold Nm.READ
  rw [if_pos (by omega), show (0 : Int).toNat = 0 from rfl, Nm.txt_all_self (Nm.more_form h), Int.zero_add, h]
  rfl

theorem Nm.inR_iff' {z : Int} : Nm.inR z = true ↔ -9223372036854775808 ≤ z ∧ z ≤ 9223372036854775807 := by unfold Nm.inR; simp
def Td : List (Option Tmp × Op × List Nat) :=
  [(some 18, .move (.tmp 0), []),
   (some 19, .call { callee := .value (.func 13), args := #[.tmp 18], argTypes := #[2] }, [0]),
   (some 20, .move (.tmp 1), []),
   (some 21, .binOp .add 5 (.const (.int .u8 48)) (.tmp 20) 5, [2]),
   (some 22, .buildSlice 35 1 #[(0, .tmp 21)], [3]),
   (some 23, .convert 35 9 (.tmp 22), [4]),
   (some 24, .binOp .add 9 (.tmp 19) (.tmp 23) 9, [1, 5]),
   (some 25, .call { callee := .value (.func 11), args := #[.tmp 24, .const (.int .i64 0)], argTypes := #[9, 3] }, [6, 1]),
   (some 17, .move (.tmp 25), [7]),
   (some 26, .extract (.tmp 17) 0, [8]),
   (some 27, .extract (.tmp 17) 1, [8]),
   (some 28, .extract (.tmp 17) 2, [8]),
   (some 5, .assign (.tmp 26), [9, 7, 0, 1, 2, 3, 4, 5, 6, 7, 8, 9]),
   (some 6, .assign (.tmp 27), [10, 12, 0, 1, 2, 3, 4, 5, 6, 7, 8, 9, 10, 12]),
   (some 7, .assign (.tmp 28), [11, 13, 0, 1, 2, 3, 4, 5, 6, 7, 8, 9, 10, 11, 12, 13])]
def Dd (k : Nat) : Nat := if k < 8 then 18 + k else if k = 8 then 17 else if k < 12 then 17 + k else k - 7
def pd : Nat → Bool := fun i => decide (17 ≤ i) && decide (i ≤ 28) || decide (5 ≤ i) && decide (i ≤ 7)
def Fd (n D : Int) (I : List UInt8) (c : UInt8) (m p x : Int) : Nat → World → Value → Prop
  | 0, _, v => v = .int .i64 n
  | 1, _, v => v = .string (S I)
  | 2, _, v => v = .int .u8 D
  | 3, _, v => v = .int .u8 (48 + D)
  | 4, u, v => ∃ b, v = .slice (some ⟨b, 0, none⟩) 1 1 ∧ u.heap[b]? = some (.cells #[.int .u8 (48 + D)] 5 (0, 0))
  | 5, _, v => v = .string (S [c])
  | 6, _, v => v = .string (S (I ++ [c]))
  | 7, _, v => v = .tuple #[.int .i64 m, .int .i64 p, .int .i64 x]
  | 8, _, v => v = .tuple #[.int .i64 m, .int .i64 p, .int .i64 x]
  | 9, _, v => v = .int .i64 m
  | 10, _, v => v = .int .i64 p
  | 11, _, v => v = .int .i64 x
  | 12, _, v => v = .int .i64 m
  | 13, _, v => v = .int .i64 p
  | _, _, v => v = .int .i64 x
theorem call_Show (args : Array Value) (w : World) : (callFunc 13 args).run Tryd.prog w = .ok (.enter 13 args) w := by kernel_rfl
theorem call_Read (args : Array Value) (w : World) : (callFunc 11 args).run Tryd.prog w = .ok (.enter 11 args) w := by kernel_rfl
section
variable {Q : Exit → Act → World → Prop} {a : Act} {w : World} {o : Oper} {F : World → Value → Prop}
theorem rc_add {x y : Operand} {l t : List UInt8} (ho : o.op = .binOp .add 9 x y 9) (hx : a.eval x = .string (S l)) (hy : a.eval y = .string (S t))
    (hl : l.length + t.length ≤ 9223372036854775807) (hv : F w (.string (S (l ++ t)))) : o.wp Tryd.prog a w (fun a' u' => ∃ v, a' = a.put o.dst v ∧ F u' v ∧ Below w.heap.size w u') Q :=
  rc_val (by
    have hs := add_S l t hl w
    simp [execOp, ho, hx, hy, eqGuard, binOp_string_add, hs]) hv
theorem rc_u8 {x : Operand} {D : Int} (ho : o.op = .binOp .add 5 (.const (.int .u8 48)) x 5) (hx : a.eval x = .int .u8 D)
    (h : 0 ≤ D ∧ D ≤ 9) (hv : F w (.int .u8 (48 + D))) : o.wp Tryd.prog a w (fun a' u' => ∃ v, a' = a.put o.dst v ∧ F u' v ∧ Below w.heap.size w u') Q :=
  rc_val (by
    have hc : a.eval (.const (.int .u8 48)) = .int .u8 48 := rfl
    have hw : IntKind.wrap .u8 (48 + D) = 48 + D := by unfold IntKind.wrap; simp [IntKind.signed, IntKind.bits]; omega
    simp [execOp, ho, hx, hc, eqGuard]
    simp [go_sem, binOp, hw]) hv
theorem rc_extract {x : Operand} {k : Nat} {vs : Array Value} {v : Value} (ho : o.op = .extract x k) (hx : a.eval x = .tuple vs) (hk : vs[k]? = some v) (hv : F w v) : o.wp Tryd.prog a w (fun a' u' => ∃ v, a' = a.put o.dst v ∧ F u' v ∧ Below w.heap.size w u') Q :=
  rc_val (by
    simp [execOp, ho, hx]
    simp [Instr.extract, hk]) hv
end

set_option maxRecDepth 100000 in
set_option maxHeartbeats 2000000 in
theorem dig_region {ops : Array Oper} {Q : Exit → Act → World → Prop} {A : Act} {id : Nat} {w1 : World} {n D m p x : Int} {c : UInt8}
    (hkey : ops.toList.map keyOf = Td.map fun x => (x.1, x.2.1, true, x.2.2)) (hlow : (List.range ops.size).all (fun i => match ops[i]? with | some o => o.after.all (fun e => !Region.binds .any e || decide (e.on < i)) | none => true) = true)
    (hA0 : A.eval (.tmp 0) = .int .i64 n) (hA1 : A.eval (.tmp 1) = .int .u8 D) (hsz : 28 < A.tmps.size) (hT : TabN w1) (hn : -9223372036854775808 ≤ n ∧ n ≤ 9223372036854775807) (hD : 0 ≤ D ∧ D ≤ 9) (hc : (c.toNat : Int) = 48 + D)
    (hR : Nm.READ (itoa n ++ [c]) 0 = (m, p, x))
    (fin : ∀ (f : Nat → Value) u, f 5 = .int .i64 m → f 6 = .int .i64 p → f 7 = .int .i64 x → Below w1.heap.size w1 u → Q .normal (putR A pd f) u) : (Code.region id ops true).wp Tryd.prog Q A w1 := by
  have hI21 : (itoa n).length ≤ 21 := Go.Lib.itoa_length_le n hn.1 hn.2
  refine wp_region_calls (by kernel_rfl) Td hkey hlow pd Dd ?_ ?_ (Fd n D (itoa n) c m p x) ?_ ?_ ?_
  · intro k y hy
    rcases k with _ | _ | _ | _ | _ | _ | _ | _ | _ | _ | _ | _ | _ | _ | _ | k
    all_goals simp only [Td, List.getElem?_cons_zero, List.getElem?_cons_succ, List.getElem?_nil, Option.some.injEq, reduceCtorEq] at hy
    all_goals subst hy
    all_goals refine ⟨rfl, by decide, by simp [Dd]; omega⟩
  · intro i j hi hj
    have : Td.length = 15 := rfl
    unfold Dd
    repeat' split
    all_goals omega
  · intro k u u' v hb h
    rcases k with _ | _ | _ | _ | _ | _ | _ | _ | _ | _ | _ | _ | _ | _ | k
    all_goals first | exact h | (obtain ⟨b, h1, h2⟩ := h; exact ⟨b, h1, (hb.block b (Array.getElem?_eq_some_iff.1 h2).1).trans h2⟩)
  · intro k y a u hy hb ho5 hdep o hod hop
    rcases k with _ | _ | _ | _ | _ | _ | _ | _ | _ | _ | _ | _ | _ | _ | _ | k
    all_goals simp only [Td, List.getElem?_cons_zero, List.getElem?_cons_succ, List.getElem?_nil, Option.some.injEq, reduceCtorEq] at hy
    all_goals subst hy
    · exact rc_move hop ((ho5 0 (by decide)).trans hA0) rfl
    · have e0 : a.eval (.tmp 18) = .int .i64 n := hdep 0 (by simp)
      exact rc_call 13 (F := fun _ v => v = .string (S (itoa n))) (args := #[.int .i64 n]) hop (by simp [e0]) call_Show ((Show_any n u (hT.below hb) hn.1 hn.2).mono fun _ _ ⟨he, hb⟩ => ⟨_, he, rfl, hb⟩)
    · exact rc_move hop ((ho5 1 (by decide)).trans hA1) rfl
    · have e0 : a.eval (.tmp 20) = .int .u8 D := hdep 2 (by simp)
      exact rc_u8 (F := fun _ v => v = .int .u8 (48 + D)) hop e0 hD rfl
    · have e0 : a.eval (.tmp 21) = .int .u8 (48 + D) := hdep 3 (by simp)
      obtain ⟨ie, hie, hx⟩ := Option.map_eq_some_iff.1 info5
      simp only [Prod.mk.injEq] at hx
      obtain ⟨hz, h1, _⟩ := hx
      refine wp_buildSlice 35 5 1 _ hop #[.int .u8 (48 + D)] ie _ Tryd.underlying35 hie hz (by rw [h1]; decide) (by rw [h1]; decide) ?_ ?_
      · rw [h1]
        have hr1 : Array.range 1 = #[0] := by decide
        simp [e0, Instr.fill, Value.cells, hr1]
      · exact ⟨_, rfl, ⟨u.heap.size, rfl, heap_alloc_new u _⟩, (Below.refl _ _).alloc (Nat.le_refl _) _⟩
    · obtain ⟨b, hv, hh⟩ : ∃ b, a.eval (.tmp 22) = .slice (some ⟨b, 0, none⟩) 1 1 ∧ u.heap[b]? = some (.cells #[.int .u8 (48 + D)] 5 (0, 0)) := hdep 4 (by simp)
      have hcell : u.cell? ⟨b, 0, none⟩ = some (.int .u8 (c.toNat : Int)) := by
        rw [cell_of_row u b 0 _ _ _ hh, hc]
        rfl
      have hconv : (convert 35 9 (.slice (some ⟨b, 0, none⟩) 1 1)).run Tryd.prog u = .ok (.string (S [c])) u :=
        run_convert_bytes_back (P := Tryd.prog) u 35 9 5 ⟨b, 0, none⟩ 1 [c] Tryd.underlying35 Tryd.underlying5 Tryd.underlying9 (fun j hj => by
          simp at hj
          subst hj
          exact hcell)
      exact rc_val (F := fun _ v => v = .string (S [c])) (by simp [execOp, hop, hv, hconv]) rfl
    · exact rc_add (F := fun _ v => v = .string (S (itoa n ++ [c]))) hop (hdep 1 (by simp)) (hdep 5 (by simp)) (by simp; omega) rfl
    · have e0 : a.eval (.tmp 24) = .string (S (itoa n ++ [c])) := hdep 6 (by simp)
      have ec : a.eval (.const (.int .i64 0)) = .int .i64 0 := rfl
      have hr := Read_any (itoa n ++ [c]) 0 u (hT.below hb) (by simp; omega)
      rw [hR] at hr
      exact rc_call 11 (F := fun _ v => v = .tuple #[.int .i64 m, .int .i64 p, .int .i64 x]) (args := #[.string (S (itoa n ++ [c])), .int .i64 0]) hop (by simp [e0, ec]) call_Read (hr.mono fun _ _ ⟨he, hb⟩ => ⟨_, he, rfl, hb⟩)
    · exact rc_move (F := fun _ v => v = .tuple #[.int .i64 m, .int .i64 p, .int .i64 x]) hop (hdep 7 (by simp)) rfl
    · exact rc_extract (F := fun _ v => v = .int .i64 m) hop (hdep 8 (by simp)) (by rfl) rfl
    · exact rc_extract (F := fun _ v => v = .int .i64 p) hop (hdep 8 (by simp)) (by rfl) rfl
    · exact rc_extract (F := fun _ v => v = .int .i64 x) hop (hdep 8 (by simp)) (by rfl) rfl
    · exact rc_assign (F := fun _ v => v = .int .i64 m) hop (hdep 9 (by simp)) rfl
    · exact rc_assign (F := fun _ v => v = .int .i64 p) hop (hdep 10 (by simp)) rfl
    · exact rc_assign (F := fun _ v => v = .int .i64 x) hop (hdep 11 (by simp)) rfl
  · intro f u hF hb
    exact fin f u (hF 12 (by decide)) (hF 13 (by decide)) (hF 14 (by decide)) hb
end Go.Proofs.YtkbgbhmlpdbgcaaDoor
