/-
  What mac.Of comes to: the two statements that draw their order.
-/
import Derived.Test.YtnlkmbbgcellfaaDoorMacComb
import Derived.Test.YtnlkmbbgcellfaaDoorRegCalls
namespace Go.Proofs.YtnlkmbbgcellfaaDoor
open Go.RowKit

namespace Mm
def hmac (k t : List UInt8) : List UInt8 := Sm.sha (xr (blk k) 92 ++ Sm.sha (xr (blk k) 54 ++ t))
theorem hmac_length (k t : List UInt8) : (hmac k t).length = 32 := Sm.sha_length _
end Mm
/-- sha.Sum(combine(b, xor(x)) + t) -/
def Tm (s d r : Nat) (x : UInt8) : List (Option Tmp × Op × List Nat) :=
  [(some s, .load 34 (.tmp 5), []), (some (s + 1), .call { callee := .value (.func 20), args := #[.const (.int .u8 (x.toNat : Int))], argTypes := #[5] }, []),
   (some (s + 2), .call { callee := .value (.func 19), args := #[.tmp s, .tmp (s + 1)], argTypes := #[34, 37] }, [0, 1, 1]), (some (s + 3), .move (.tmp r), []),
   (some (s + 4), .binOp .add 9 (.tmp (s + 2)) (.tmp (s + 3)) 9, [2, 3]), (some (s + 5), .call { callee := .value (.func 16), args := #[.tmp (s + 4)], argTypes := #[9] }, [4, 2]),
   (some d, .assign (.tmp (s + 5)), [5, 5, 0, 1, 2, 3, 4, 5])]
def Dm (s d k : Nat) : Nat := if k = 6 then d else s + k
def pm (s d : Nat) : Nat → Bool := fun i => decide (s ≤ i) && decide (i ≤ s + 5) || decide (i = d)
def Fm (l : List UInt8) (x : UInt8) (t : List UInt8) : Nat → World → Value → Prop
  | 0, _, v => v = .agg (AB l)
  | 1, u, v => Xo x u v
  | 2, _, v => v = .string (S (Mm.xr l x))
  | 3, _, v => v = .string (S t)
  | 4, _, v => v = .string (S (Mm.xr l x ++ t))
  | _, _, v => v = .string (S (Sm.sha (Mm.xr l x ++ t)))
theorem run_load_AB (w : World) (g : Nat) (l : List UInt8) (hl : l.length = 64) (h : w.heap[g]? = some (.cells (AB l) 34 (0, 0))) :
    (Instr.loadAt 34 (.pointer (some ⟨g, 0, none⟩))).run Tryd.prog w = .ok (.agg (AB l)) w := by
  have hr := World.rangeAt_of_block h 0 64
  have e : ((AB l).extract 0 (0 + 64)).toList = V l := by
    simp only [Array.toList_extract, List.extract_eq_take_drop, AB]
    rw [List.drop_zero, List.take_of_length_le (by simp [V_length, hl])]
  rw [e] at hr
  exact run_loadAt_mid w g 0 34 _ _ hr Tryd.underlying34 rfl (by rw [V_length, hl]; exact info64b)
theorem call_xor (args : Array Value) (w : World) : (callFunc 20 args).run Tryd.prog w = .ok (.enter 20 args) w := by kernel_rfl
theorem call_combine (args : Array Value) (w : World) : (callFunc 19 args).run Tryd.prog w = .ok (.enter 19 args) w := by kernel_rfl
theorem call_sum (args : Array Value) (w : World) : (callFunc 16 args).run Tryd.prog w = .ok (.enter 16 args) w := by kernel_rfl
theorem rc_cat {Q : Exit → Act → World → Prop} {a : Act} {w : World} {o : Oper} {F : World → Value → Prop} {x y : Operand} {l t : List UInt8} (ho : o.op = .binOp .add 9 x y 9) (hx : a.eval x = .string (S l)) (hy : a.eval y = .string (S t))
    (hl : l.length + t.length ≤ 9223372036854775807) (hv : F w (.string (S (l ++ t)))) : o.wp Tryd.prog a w (fun a' u' => ∃ v, a' = a.put o.dst v ∧ F u' v ∧ Below w.heap.size w u') Q :=
  rc_val (by
    have hs := add_S l t hl w
    simp [execOp, ho, hx, hy, eqGuard, binOp_string_add, hs]) hv

set_option maxRecDepth 100000 in
set_option maxHeartbeats 800000 in
theorem mac_region {ops : Array Oper} {Q : Exit → Act → World → Prop} {A : Act} {id g : Nat} {w1 : World} {l t : List UInt8} (s d r : Nat) (x : UInt8)
    (hkey : ops.toList.map keyOf = (Tm s d r x).map fun x => (x.1, x.2.1, true, x.2.2)) (hlow : (List.range ops.size).all (fun i => match ops[i]? with | some o => o.after.all (fun e => !Region.binds .any e || decide (e.on < i)) | none => true) = true)
    (hd : d < s ∧ d ≠ 5) (hr : r < s ∧ r ≠ d) (h5 : 5 < s)
    (hA5 : A.eval (.tmp 5) = .pointer (some ⟨g, 0, none⟩)) (hAr : A.eval (.tmp r) = .string (S t)) (hsz : s + 5 < A.tmps.size) (hT : Tabs w1) (hl : l.length = 64) (ht : t.length ≤ 800000000)
    (hg : w1.heap[g]? = some (.cells (AB l) 34 (0, 0)))
    (fin : ∀ (f : Nat → Value) u, f d = .string (S (Sm.sha (Mm.xr l x ++ t))) → Below w1.heap.size w1 u → Q .normal (putR A (pm s d) f) u) : (Code.region id ops true).wp Tryd.prog Q A w1 := by
  have hlx : (Mm.xr l x).length = 64 := by rw [Mm.xr_length, hl]
  refine wp_region_calls (by kernel_rfl) (Tm s d r x) hkey hlow (pm s d) (Dm s d) ?_ ?_ (Fm l x t) ?_ ?_ ?_
  · intro k y hy
    rcases k with _ | _ | _ | _ | _ | _ | _ | k
    all_goals simp only [Tm, List.getElem?_cons_zero, List.getElem?_cons_succ, List.getElem?_nil, Option.some.injEq, reduceCtorEq] at hy
    all_goals subst hy
    all_goals refine ⟨rfl, by simp [pm, Dm], by simp [Dm]; omega⟩
  · intro i j hi hj
    simp only [Tm, List.length_cons, List.length_nil] at hi hj
    unfold Dm
    split <;> split <;> omega
  · intro k u u' v hb h
    rcases k with _ | _ | _ | _ | _ | k
    all_goals first | exact Xo.below h hb | exact h
  · intro k y a u hy hb ho5 hdep o hod hop
    have h0 := hb.block g (Array.getElem?_eq_some_iff.1 hg).1
    rcases k with _ | _ | _ | _ | _ | _ | _ | k
    all_goals simp only [Tm, List.getElem?_cons_zero, List.getElem?_cons_succ, List.getElem?_nil, Option.some.injEq, reduceCtorEq] at hy
    all_goals subst hy
    · exact rc_load hop ((ho5 5 (by simp [pm]; omega)).trans hA5) (run_load_AB u g l hl (h0.trans hg)) rfl
    · exact rc_call 20 (F := fun u v => Xo x u v) hop (by simp [Act.eval]) call_xor (xor_any x u)
    · have e0 : a.eval (.tmp s) = .agg (AB l) := hdep 0 (by simp)
      obtain ⟨b, hv, hc⟩ : Xo x u (a.eval (.tmp (s + 1))) := hdep 1 (by simp)
      exact rc_call 19 (F := fun _ v => v = .string (S (Mm.xr l x))) (args := #[.agg (AB l), Xf b]) hop (by simp [e0, hv]) call_combine ((combine_any l x b u hl hc).mono fun _ _ ⟨he, hb⟩ => ⟨_, he, rfl, hb⟩)
    · exact rc_move hop ((ho5 r (by simp [pm]; omega)).trans hAr) rfl
    · exact rc_cat (F := fun _ v => v = .string (S (Mm.xr l x ++ t))) hop (hdep 2 (by simp)) (hdep 3 (by simp)) (by omega) rfl
    · have e0 : a.eval (.tmp (s + 4)) = .string (S (Mm.xr l x ++ t)) := hdep 4 (by simp)
      exact rc_call 16 (F := fun _ v => v = .string (S (Sm.sha (Mm.xr l x ++ t)))) (args := #[.string (S (Mm.xr l x ++ t))]) hop (by simp [e0]) call_sum
        ((sum_l hb hT _ (by rw [List.length_append]; omega)).mono fun _ _ ⟨he, _, hb⟩ => ⟨_, he, rfl, hb⟩)
    · exact rc_assign (F := fun _ v => v = .string (S (Sm.sha (Mm.xr l x ++ t)))) hop (hdep 5 (by simp)) rfl
  · intro f u hF hb
    exact fin f u (hF 6 (by simp [Tm])) hb

set_option maxRecDepth 100000 in
set_option maxHeartbeats 800000 in
theorem Of_any (k t : List UInt8) (w : World) (hT : Tabs w) (hk : k.length ≤ 800000000) (ht : t.length ≤ 800000000) :
    Calls Tryd.prog 10 #[.string (S k), .string (S t)] w fun e w' => e = .returned (.string (S (Mm.hmac k t))) ∧ Below w.heap.size w w' := by
  have hz := zero_64b
  go_enter Tryd.func10, Tryd.ntmps10
  go_wp2_with fail
  refine (block_any k w hT (by omega)).mono ?_; rintro e w1 ⟨rfl, h1⟩
  have HN : Hid ((w1.alloc (.cells (AB Z64b) 34)).heap[w1.heap.size]? = some (.cells (AB Z64b) 34 (0, 0))) := heap_alloc_new w1 _
  have HB : Hid (Below w.heap.size w ((w1.alloc (.cells (AB Z64b) 34)).setRow w1.heap.size (AB (Mm.blk k)))) := below_setRow (h1.alloc h1.size _) h1.size _
  have HG := Lib.hid (setRow_heap (w1.alloc (.cells (AB Z64b) 34)) w1.heap.size _ (AB (Mm.blk k)) _ _ HN.out)
  go_wp2_with (refine wpList_store_row (by rfl) 34 _ _ (by rfl) w1.heap.size _ (by rfl) (by rfl) 34 _ HN.out (by rw [AB_size, Mm.blk_length]; exact info64b) (by rw [AB_size, AB_size, Mm.blk_length]; rfl) (AB_one _) ?_)
  dsimp only [Act.put]
  refine mac_region 9 6 1 54 (by kernel_rfl) (by kernel_rfl) (by decide) (by decide) (by decide) (by rfl) (by rfl) (by simp) (hT.below HB.out) (Mm.blk_length k) ht HG.out (fun f w2 hf hb2 => ?_)
  have HG2 := Lib.hid ((hb2.block _ (Array.getElem?_eq_some_iff.1 HG.out).1).trans HG.out)
  have HB2 := Lib.hid (HB.out.trans (hb2.mono HB.out.size))
  clear HB HG HN hb2
  rw [putR_lit]
  simp only [putL, pm, Nat.reduceAdd, Nat.reduceLeDiff, Nat.reduceEqDiff, decide_true, decide_false, Bool.and_true, Bool.and_false, Bool.or_true, Bool.or_false, cond_true, cond_false, hf]
  go_wp2_with fail
  refine mac_region 15 4 6 92 (by kernel_rfl) (by kernel_rfl) (by decide) (by decide) (by decide) (by rfl) (by rfl) (by simp) (hT.below HB2.out) (Mm.blk_length k) (by rw [Sm.sha_length]; decide) HG2.out (fun f w3 hf hb3 => ?_)
  have HB3 := Lib.hid (HB2.out.trans (hb3.mono HB2.out.size))
  clear HB2 HG2 hb3
  rw [putR_lit]
  simp only [putL, pm, Nat.reduceAdd, Nat.reduceLeDiff, Nat.reduceEqDiff, decide_true, decide_false, Bool.and_true, Bool.or_true, Bool.or_false, cond_true, cond_false, hf]
  go_wp2_with fail
  go_ret
  exact ⟨rfl, HB3.out⟩
end Go.Proofs.YtnlkmbbgcellfaaDoor
