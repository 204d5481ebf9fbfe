/-
  What Write comes to.
-/
import Derived.Test.YtnlkmbbgcellfaaDoorShaPad
import Derived.Deep.MidRow
import Derived.Deep.CutRange
import Derived.Test.YtnlkmbbgcellfaaDoorRegInv
namespace Go.Proofs.YtnlkmbbgcellfaaDoor
open Go.RowKit

/-- copy(row[o:], text) -/
theorem run_copy_str {P : Program} (w : World) (dT sT ty elem : TypeId) (g o dLen dCap : Nat) (s : ByteArray) (cur : Array Value) (t : TypeId) (hu : P.underlying dT = some (.slice elem)) (hs : ((P.info? elem).map (·.size)).isSome = true)
    (hg : w.heap[g]? = some (.cells cur t (0, 0))) (hfit : o + Nat.min s.size dLen ≤ cur.size) :
    (Builtin.copy_ #[dT, sT] ty #[.slice (some ⟨g, o, none⟩) dLen dCap, .string s]).run P w =
      .ok (goInt (Nat.min s.size dLen)) (w.setRow g (cur.toList.take o ++ V (s.data.toList.take (Nat.min s.size dLen)) ++ cur.toList.drop (o + Nat.min s.size dLen)).toArray) := by
  have hlen : (V (s.data.toList.take (Nat.min s.size dLen))).length = Nat.min s.size dLen := by
    have : s.data.toList.length = s.size := by simp
    simp only [V, List.length_map, List.length_take, this]
    exact Nat.min_eq_left (Nat.min_le_left _ _)
  have hst := run_storeCells_at P g o t (V (s.data.toList.take (Nat.min s.size dLen))) 0 cur w hg (by rw [hlen]; simpa using hfit) (by intro v hv; simp only [V, List.mem_map] at hv; obtain ⟨b, _, rfl⟩ := hv; rfl)
  rw [hlen] at hst
  have hfc : (s.extract 0 (Nat.min s.size dLen)).data.map (fun b => Value.int .u8 (b.toNat : Int)) = (V (s.data.toList.take (Nat.min s.size dLen))).toArray := by
    apply Array.toList_inj.1
    simp [V, ByteArray.data_extract, List.map_take]
  cases hq : P.info? elem with
  | none => simp [hq] at hs
  | some i =>
    simp only [Nat.add_zero] at hst
    simp [Builtin.copy_, run_underlying hu, Builtin.lenOf, Builtin.firstCells, sizeOf, typeInfo, hq]
    have e : List.take (s.size.min dLen) (List.map (fun b => Value.int IntKind.u8 ↑b.toNat) s.data.toList) = V (s.data.toList.take (s.size.min dLen)) := by simp [V, List.map_take]
    rw [e, hst]
    simp [Result.andThen]

theorem wpList_copy_str {P : Program} {w : World} {ops : Array Oper} {rest : List Oper} {o : Oper} {a : Act} {Q : Exit → Act → World → Prop} (hgd : o.guard = none) (d s : Operand) (dT sT : TypeId)
    (ho : o.op = .call { callee := .builtin .copy, args := #[d, s], argTypes := #[dT, sT] }) (elem : TypeId) (hu : P.underlying dT = some (.slice elem)) (hsz : ((P.info? elem).map (·.size)).isSome = true)
    (g off dLen dCap : Nat) (x : ByteArray) (hd : a.eval d = .slice (some ⟨g, off, none⟩) dLen dCap) (hs : a.eval s = .string x)
    (cur : Array Value) (t : TypeId) (hg : w.heap[g]? = some (.cells cur t (0, 0))) (n : Nat) (hn : n = Nat.min x.size dLen) (hfit : off + n ≤ cur.size)
    (h : wpList P ops Q rest (a.put o.dst (goInt n)) (w.setRow g (cur.toList.take off ++ V (x.data.toList.take n) ++ cur.toList.drop (off + n)).toArray)) : wpList P ops Q (o :: rest) a w := by
  subst hn
  refine wpList_plain hgd fun K hK => ?_
  have hrun := run_copy_str (P := P) w dT sT o.type elem g off dLen dCap x cur t hu hsz hg hfit
  unfold Oper.wp
  simp [execOp, ho, resolve, invoke, builtin, hd, hs, hrun, Result.andThen]
  rw [List.append_assoc] at h
  exact hK _ _ h

/-- only block b may have changed; more may have been laid -/
structure Kp (b : Nat) (w w' : World) : Prop where
  os : w'.os = w.os
  tape : w'.tape = w.tape
  output : w'.output = w.output
  size : w.heap.size ≤ w'.heap.size
  block : ∀ k, k ≠ b → k < w.heap.size → w'.heap[k]? = w.heap[k]?
theorem Kp.refl (b : Nat) (w : World) : Kp b w w := ⟨rfl, rfl, rfl, Nat.le_refl _, fun _ _ _ => rfl⟩
theorem Kp.trans {b : Nat} {u v w : World} (h : Kp b u v) (k : Kp b v w) : Kp b u w :=
  ⟨k.os.trans h.os, k.tape.trans h.tape, k.output.trans h.output, Nat.le_trans h.size k.size, fun i hi hl => (k.block i hi (Nat.lt_of_lt_of_le hl h.size)).trans (h.block i hi hl)⟩
theorem Kp.of {b : Nat} {w w' : World} (h : Below w.heap.size w w') : Kp b w w' := ⟨h.os, h.tape, h.output, h.size, fun i _ hl => h.block i hl⟩
theorem Kp.setRow (b : Nat) (w : World) (cs : Array Value) : Kp b w (w.setRow b cs) := ⟨rfl, rfl, rfl, by simp, fun k hk _ => setRow_other w b k cs hk⟩
theorem Kp.setCell (b k : Nat) (w : World) (v : Value) : Kp b w (w.setCell ⟨b, k, none⟩ v) := ⟨rfl, rfl, rfl, by simp [World.setCell], fun i hi _ => setCell_other w b k i v hi⟩
theorem Kp.drew (b : Nat) (w : World) : Kp b w w.drew := ⟨rfl, rfl, rfl, Nat.le_refl _, fun _ _ _ => rfl⟩
theorem Kp.below {b : Nat} {w0 w w' : World} (h : Below w0.heap.size w0 w) (k : Kp b w w') (hb : w0.heap.size ≤ b) : Below w0.heap.size w0 w' :=
  h.trans ⟨k.os, k.tape, k.output, k.size, fun i hi => k.block i (by omega) (Nat.lt_of_lt_of_le hi h.size)⟩
/-- the two variables of package sha -/
def Init (w : World) : Prop := ∃ t fr, w.heap[1]? = some (.cells (AR Sm.H0.list) t fr)
def Glob (w : World) : Prop := Init w ∧ Added w
theorem Glob.kp {b : Nat} {w w' : World} (h : Glob w) (k : Kp b w w') (h0 : b ≠ 1) (h1 : b ≠ 2) : Glob w' := by
  obtain ⟨⟨t, fr, hi⟩, ⟨u, gr, ha⟩⟩ := h
  exact ⟨⟨t, fr, (k.block _ (Ne.symm h0) (Array.getElem?_eq_some_iff.1 hi).1).trans hi⟩, ⟨u, gr, (k.block _ (Ne.symm h1) (Array.getElem?_eq_some_iff.1 ha).1).trans ha⟩⟩

namespace Sm
theorem write_full (l x : List UInt8) (h : x.length = 64 - l.length % 64) :
    state (l ++ x) = mix (state l) (words (tail l ++ x)) ∧ (l ++ x).length % 64 = 0 ∧ tail (l ++ x) = [] := by
  have hq : (l ++ x).length = 64 * (l.length / 64 + 1) := by simp; omega
  have hd : (l ++ x).length / 64 = l.length / 64 + 1 := by omega
  refine ⟨?_, by omega, ?_⟩
  · unfold state
    rw [hd, chain, chain_append _ _ _ (by omega)]
    congr 2
    unfold blk tail
    rw [List.drop_append_of_le_length (by omega), List.take_of_length_le (by simp; omega)]
  · unfold tail
    rw [hd]
    exact List.drop_of_length_le (by omega)
theorem write_part (l x : List UInt8) (h : x.length < 64 - l.length % 64) :
    state (l ++ x) = state l ∧ (l ++ x).length % 64 = l.length % 64 + x.length ∧ tail (l ++ x) = tail l ++ x := by
  have hl : (l ++ x).length = l.length + x.length := by simp
  have hd : (l ++ x).length / 64 = l.length / 64 := by omega
  refine ⟨?_, by omega, ?_⟩
  · unfold state
    rw [hd, chain_append _ _ _ (by omega)]
  · unfold tail
    rw [hd, List.drop_append_of_le_length (by omega)]
end Sm
/-- the state told: as Hs, of no bytes too -/
def Ht (w : World) (b : Nat) (l : List UInt8) (rest : List UInt8) : Prop :=
  w.heap[b]? = some (.cells (HC (Sm.state l) rest l.length) 49 (0, 0)) ∧ rest.length = 64 ∧ rest.take (l.length % 64) = Sm.tail l
theorem Ht.hs {w : World} {b : Nat} {l rest : List UInt8} (h : Ht w b l rest) : Hs w b l := ⟨_, rest, h.1, h.2.1, h.2.2, fun _ => rfl⟩

/-- a state, laid into a Hash -/
theorem run_store_state (w : World) (b : Nat) (s s' : Sm.St) (rest : List UInt8) (n : Nat) (hr : rest.length = 64) (h : w.heap[b]? = some (.cells (HC s rest n) 49 (0, 0))) :
    (storeVar 46 ⟨b, 0, none⟩ (.agg (AR s'.list))).run Tryd.prog w = .ok () (w.setRow b (HC s' rest n)) := by
  have := run_storeCells_at Tryd.prog b 0 49 (AR s'.list).toList 0 (HC s rest n) w h (by rw [HC_size _ _ _ hr]; simp [AR_size, Sm.list_length]) (fun v hv => (Array.all_eq_true_iff_forall_mem.1 (AR_one s'.list)) v (by simpa using hv))
  have hi : (Tryd.prog.info? 46).map (·.size) = some 8 := by kernel_rfl
  cases hq : Tryd.prog.info? 46 with
  | none => simp [hq] at hi
  | some i =>
    have hs : i.size = 8 := by simpa [hq] using hi
    have e : ((HC s rest n).toList.take (0 + 0) ++ (AR s'.list).toList ++ (HC s rest n).toList.drop (0 + 0 + (AR s'.list).toList.length)).toArray = HC s' rest n := by
      simp [HC, AR, WV, Sm.St.list]
    rw [e] at this
    simp [storeVar, sizeOf, typeInfo, hq, Value.cells, hs, this, AR_size, Sm.list_length]
theorem run_storeAt_state (w : World) (b : Nat) (s s' : Sm.St) (rest : List UInt8) (n : Nat) (hr : rest.length = 64) (h : w.heap[b]? = some (.cells (HC s rest n) 49 (0, 0))) :
    (Instr.storeAt 46 (.pointer (some ⟨b, 0, none⟩)) (.agg (AR s'.list))).run Tryd.prog w = .ok () (w.setRow b (HC s' rest n)) := by
  simp only [Instr.storeAt, Instr.sureAddr, Sem.run_bind, Sem.run_pure, Result.andThen_ok, run_store_state w b s s' rest n hr h]
theorem run_load_state (w : World) (b : Nat) (s : Sm.St) (rest : List UInt8) (n : Nat) (h : w.heap[b]? = some (.cells (HC s rest n) 49 (0, 0))) :
    (Instr.loadAt 46 (.pointer (some ⟨b, 0, none⟩))).run Tryd.prog w = .ok (.agg (AR s.list)) w := by
  have hr := World.rangeAt_of_block h 0 8
  have e : ((HC s rest n).extract 0 (0 + 8)).toList = WV s.list := by simp [HC, WV, Sm.St.list]
  rw [e] at hr
  exact run_loadAt_mid w b 0 46 _ _ hr Tryd.underlying46 rfl (by kernel_rfl)
theorem run_load_rest (w : World) (b : Nat) (s : Sm.St) (rest : List UInt8) (n : Nat) (hl : rest.length = 64) (h : w.heap[b]? = some (.cells (HC s rest n) 49 (0, 0))) :
    (Instr.loadAt 34 (.pointer (some ⟨b, 8, none⟩))).run Tryd.prog w = .ok (.agg (AB rest)) w := by
  have hr := World.rangeAt_of_block h 8 64
  have e : ((HC s rest n).extract 8 (8 + 64)).toList = V rest := by
    simp only [HC, Array.toList_extract, List.extract_eq_take_drop]
    simp [WV, Sm.St.list, V, hl]
  rw [e] at hr
  have hi : (Tryd.prog.info? 34).map (·.size) = some 64 := by kernel_rfl
  exact run_loadAt_mid w b 8 34 _ _ hr Tryd.underlying34 rfl (by rw [hi, V_length, hl])
theorem wpList_store_state {ops : Array Oper} {rl : List Oper} {op : Oper} {a : Act} {w : World} {Q : Exit → Act → World → Prop} (hgd : op.guard = none) (x y : Operand) (ho : op.op = .store 46 x y)
    (b : Nat) (s s' : Sm.St) (rest : List UInt8) (n : Nat) (hx : a.eval x = .pointer (some ⟨b, 0, none⟩)) (hy : a.eval y = .agg (AR s'.list)) (hr : rest.length = 64)
    (hg : w.heap[b]? = some (.cells (HC s rest n) 49 (0, 0))) (h : wpList Tryd.prog ops Q rl (a.put op.dst undef) (w.setRow b (HC s' rest n))) : wpList Tryd.prog ops Q (op :: rl) a w :=
  wpList_plain hgd fun _ hK => by
    unfold Oper.wp execOp
    simp only [ho, hx, hy, Instr.storeAt, Instr.sureAddr, Sem.run_bind, Sem.run_pure, Result.andThen_ok, run_store_state w b s s' rest n hr hg]
    exact hK _ _ h
/-- the cells behind a copy of x to the place r of the bytes -/
def put (rest : List UInt8) (r : Nat) (x : List UInt8) : List UInt8 := rest.take r ++ (x ++ rest.drop (r + x.length))
theorem put_length (rest : List UInt8) (r : Nat) (x : List UInt8) (h : rest.length = 64) (h1 : r + x.length ≤ 64) : (put rest r x).length = 64 := by simp [put]; omega
theorem HC_copy (s : Sm.St) (rest : List UInt8) (n r : Nat) (x : List UInt8) (c : Nat) (hc : x.length = c) (h : rest.length = 64) (h1 : r + c ≤ 64) :
    ((HC s rest n).toList.take (8 + r) ++ V x ++ (HC s rest n).toList.drop (8 + r + c)).toArray = HC s (put rest r x) n := by
  subst hc
  unfold HC put
  congr 1
  have w8 : (WV s.list).length = 8 := by rw [WV_length]; rfl
  have b64 : (V rest).length = 64 := by rw [V_length, h]
  simp only [List.append_assoc]
  rw [List.take_append, List.drop_append, w8, List.take_of_length_le (by omega), List.drop_eq_nil_of_le (by omega), show 8 + r - 8 = r by omega, show 8 + r + x.length - 8 = r + x.length by omega,
    List.take_append_of_le_length (by omega), List.drop_append_of_le_length (by omega)]
  simp [V, List.map_take, List.map_drop]
theorem put_take (rest : List UInt8) (r : Nat) (x : List UInt8) (h : rest.length = 64) (h1 : r + x.length ≤ 64) : (put rest r x).take (r + x.length) = rest.take r ++ x := by
  unfold put
  rw [← List.append_assoc, List.take_left' (by simp; omega)]
theorem put_full (rest : List UInt8) (r : Nat) (x : List UInt8) (h : rest.length = 64) (h1 : r + x.length = 64) : put rest r x = rest.take r ++ x := by
  unfold put
  rw [List.drop_eq_nil_of_le (by omega)]; simp

/-- copy into the bytes of a Hash, the world behind it a letter -/
theorem wpList_copy_hash {ops : Array Oper} {rl : List Oper} {o : Oper} {a : Act} {w : World} {Q : Exit → Act → World → Prop} (hgd : o.guard = none) (d x : Operand)
    (ho : o.op = .call { callee := .builtin .copy, args := #[d, x], argTypes := #[31, 9] })
    (b r j c : Nat) (R : List UInt8) (hd : a.eval d = .slice (some ⟨b, 8 + r, none⟩) j j) (hx : a.eval x = .string (S R)) (s : Sm.St) (rest : List UInt8) (n : Nat)
    (hr : rest.length = 64) (hg : w.heap[b]? = some (.cells (HC s rest n) 49 (0, 0))) (hj : r + j = 64) (hc : c = min R.length j)
    (h : ∀ w1, Hid (w1.heap[b]? = some (.cells (HC s (put rest r (R.take c)) n) 49 (0, 0))) → Kp b w w1 → wpList Tryd.prog ops Q rl (a.put o.dst (.int .i64 (c : Int))) w1) : wpList Tryd.prog ops Q (o :: rl) a w := by
  refine wpList_copy_str hgd d x _ _ ho 5 Tryd.underlying31 (by kernel_rfl) b (8 + r) j j (S R) hd hx _ _ hg c (by rw [S_size]; exact hc) (by rw [HC_size _ _ _ hr]; omega) ?_
  rw [S_data, HC_copy s rest n r (R.take c) c (by simp; omega) hr (by omega)]
  exact h _ (setRow_heap w b _ _ _ _ hg) (Kp.setRow b w _)
theorem set_n (w : World) (b : Nat) (s : Sm.St) (rest : List UInt8) (n m : Nat) (hr : rest.length = 64) (h : w.heap[b]? = some (.cells (HC s rest n) 49 (0, 0))) :
    (w.setCell ⟨b, 72, none⟩ (.int .i64 (m : Int))).heap[b]? = some (.cells (HC s rest m) 49 (0, 0)) := by
  rw [setCell_eq_setRow w b 72 _ _ _ _ h, HC_set_n _ _ _ _ hr]
  exact setRow_heap w b _ _ _ _ h
theorem ht_part {w w1 : World} {b r c : Nat} {cur R rest : List UInt8} (HT : Ht w b cur rest) (hr : r = cur.length % 64) (hc : c ≤ R.length) (hq : r + c < 64)
    (HH : w1.heap[b]? = some (.cells (HC (Sm.state cur) (put rest r (R.take c)) cur.length) 49 (0, 0))) :
    Ht (w1.setCell ⟨b, 72, none⟩ (.int .i64 ((cur.length + c : Nat) : Int))) b (cur ++ R.take c) (put rest r (R.take c)) := by
  have hx : (R.take c).length = c := by simp; omega
  have hp := put_length rest r (R.take c) HT.2.1 (by omega)
  obtain ⟨m1, m2, m3⟩ := Sm.write_part cur (R.take c) (by omega)
  refine ⟨?_, hp, ?_⟩
  · rw [m1, List.length_append, hx]
    exact set_n w1 b _ _ _ _ hp HH
  · rw [m2, m3, ← hr, put_take _ _ _ HT.2.1 (by omega), hr, HT.2.2]
theorem ht_full {w w1 : World} {b r c : Nat} {cur R rest : List UInt8} (HT : Ht w b cur rest) (hr : r = cur.length % 64) (hc : c ≤ R.length) (hq : r + c = 64)
    (HH : w1.heap[b]? = some (.cells (HC (Sm.mix (Sm.state cur) (Sm.words (put rest r (R.take c)))) (put rest r (R.take c)) cur.length) 49 (0, 0))) :
    Ht (w1.setCell ⟨b, 72, none⟩ (.int .i64 ((cur.length + c : Nat) : Int))) b (cur ++ R.take c) (put rest r (R.take c)) := by
  have hx : (R.take c).length = c := by simp; omega
  have hp := put_length rest r (R.take c) HT.2.1 (by omega)
  obtain ⟨m1, m2, m3⟩ := Sm.write_full cur (R.take c) (by omega)
  have hf := put_full rest r (R.take c) HT.2.1 (by omega)
  have ht := HT.2.2
  rw [← hr] at ht
  refine ⟨?_, hp, ?_⟩
  · rw [m1, List.length_append, hx, ← ht, ← hf]
    exact set_n w1 b _ _ _ _ hp HH
  · rw [m2, m3]; rfl
theorem range1 {w : World} {b k : Nat} {cs : List Value} {v : Value} (h : w.rangeAt b 8 cs) (hk : k < 8) : (w.setCell ⟨b, k, none⟩ v).rangeAt b 8 cs := fun j u hu => by
  rw [World.cell?_setCell_other]
  · exact h j u hu
  · intro e; injection e with _ e; omega
theorem range_below {w w' : World} {B b o : Nat} {cs : List Value} (h : w.rangeAt b o cs) (hb : Below B w w') (hB : b < B) : w'.rangeAt b o cs := fun j u hu => by
  rw [hb.cell (p := ⟨b, o + j, none⟩) hB]; exact h j u hu
theorem range_rest {w : World} {b : Nat} {s : Sm.St} {rest : List UInt8} {n : Nat} (hl : rest.length = 64) (h : w.heap[b]? = some (.cells (HC s rest n) 49 (0, 0))) : w.rangeAt b 8 (V rest) := by
  have hr := World.rangeAt_of_block h 8 64
  have e : ((HC s rest n).extract 8 (8 + 64)).toList = V rest := by
    simp only [HC, Array.toList_extract, List.extract_eq_take_drop]
    simp [WV, Sm.St.list, V, hl]
  rw [e] at hr
  exact hr
theorem range8 {w : World} {b : Nat} {cs : List Value} {v0 v1 v2 v3 v4 v5 v6 v7 : Value} (h : w.rangeAt b 8 cs) :
    ((((((((w.setCell ⟨b, 0, none⟩ v0).setCell ⟨b, 1, none⟩ v1).setCell ⟨b, 2, none⟩ v2).setCell ⟨b, 3, none⟩ v3).setCell ⟨b, 4, none⟩ v4).setCell ⟨b, 5, none⟩ v5).setCell ⟨b, 6, none⟩ v6).setCell ⟨b, 7, none⟩ v7).rangeAt b 8 cs :=
  range1 (range1 (range1 (range1 (range1 (range1 (range1 (range1 h (by omega)) (by omega)) (by omega)) (by omega)) (by omega)) (by omega)) (by omega)) (by omega)
/-- what each operation of 'h.state = mix(h.state, expand(h.rest))' leaves -/
def V9 (b : Nat) (s : Sm.St) (rest : List UInt8) : Nat → Option Value
  | 0 => some (.pointer (some ⟨b, 0, none⟩))
  | 1 => some (.pointer (some ⟨b, 0, none⟩))
  | 2 => some (.pointer (some ⟨b, 0, none⟩))
  | 3 => some (.pointer (some ⟨b, 0, none⟩))
  | 4 => some (.agg (AR s.list))
  | 5 => some (.pointer (some ⟨b, 0, none⟩))
  | 6 => some (.pointer (some ⟨b, 0, none⟩))
  | 7 => some (.pointer (some ⟨b, 8, none⟩))
  | 8 => some (.agg (AB rest))
  | 9 => some (.agg (AR (Sm.words rest)))
  | 10 => some (.agg (AR (Sm.mix s (Sm.words rest)).list))
  | 11 => some (.pointer (some ⟨b, 0, none⟩))
  | 12 => some (.pointer (some ⟨b, 0, none⟩))
  | _ => none
/-- the world: the store, operation 13, has come up, or not -/
def W9 (b : Nat) (s : Sm.St) (rest : List UInt8) (n : Nat) (w0 : World) (listed : Array Bool) (w : World) : Prop :=
  (listed.getD 13 false = false → w.heap[b]? = some (.cells (HC s rest n) 49 (0, 0))) ∧ (listed.getD 13 false = true → w.heap[b]? = some (.cells (HC (Sm.mix s (Sm.words rest)) rest n) 49 (0, 0))) ∧ Kp b w0 w
def p9 : Nat → Bool := fun i => decide (37 ≤ i) && decide (i ≤ 49)
theorem W9_keep {b : Nat} {s : Sm.St} {rest : List UInt8} {n : Nat} {w0 : World} {listed : Array Bool} {w : World} (h : W9 b s rest n w0 listed w) {k : Nat} (hk : 13 ≠ k) : W9 b s rest n w0 (listed.setIfInBounds k true) w := by
  unfold W9 at *
  rw [getD_set_other hk]
  exact h
theorem field0 (b : Nat) (w : World) : (Instr.fieldAt 49 (.pointer (some ⟨b, 0, none⟩)) 0).run Tryd.prog w = .ok (.pointer (some ⟨b, 0, none⟩)) w := by kernel_rfl
theorem field1 (b : Nat) (w : World) : (Instr.fieldAt 49 (.pointer (some ⟨b, 0, none⟩)) 1).run Tryd.prog w = .ok (.pointer (some ⟨b, 8, none⟩)) w := by kernel_rfl
theorem W9_below {b : Nat} {s : Sm.St} {rest : List UInt8} {n : Nat} {w0 : World} {listed : Array Bool} {w w' : World} (h : W9 b s rest n w0 listed w) (hb : Below w.heap.size w w') (hlt : b < w0.heap.size) : W9 b s rest n w0 listed w' := by
  have hl : b < w.heap.size := Nat.lt_of_lt_of_le hlt h.2.2.size
  exact ⟨fun e => (hb.block b hl).trans (h.1 e), fun e => (hb.block b hl).trans (h.2.1 e), h.2.2.trans (Kp.of hb)⟩
def D9 (listed : Array Bool) : Prop := listed.getD 13 false = true → listed.getD 4 false = true ∧ listed.getD 8 false = true
theorem D9_set {listed : Array Bool} (h : D9 listed) {k : Nat} (hk : k ≠ 13) : D9 (listed.setIfInBounds k true) := fun e => by
  rw [getD_set_other (Ne.symm hk)] at e
  have mono (j : Nat) (hj : listed.getD j false = true) : (listed.setIfInBounds k true).getD j false = true := by
    by_cases e : j = k
    · subst e
      by_cases hl : j < listed.size
      · exact getD_set_self hl
      · simp [hl] at hj
    · rw [getD_set_other e]; exact hj
  exact ⟨mono 4 (h e).1, mono 8 (h e).2⟩
theorem getD_clash {l : Array Bool} {j : Nat} (h1 : l.getD j false = true) (h2 : l.getD j true = false) : False := by
  by_cases hl : j < l.size
  · simp [hl] at h1 h2
    rw [h1] at h2; cases h2
  · simp [hl] at h1
theorem D9_not4 {listed : Array Bool} (h : D9 listed) (hun : listed.getD 4 true = false) : listed.getD 13 false = false := by
  rcases e : listed.getD 13 false with _ | _
  · rfl
  · exact absurd hun (fun x => getD_clash (h e).1 x)
theorem D9_not8 {listed : Array Bool} (h : D9 listed) (hun : listed.getD 8 true = false) : listed.getD 13 false = false := by
  rcases e : listed.getD 13 false with _ | _
  · rfl
  · exact absurd hun (fun x => getD_clash (h e).2 x)
theorem call_expand (args : Array Value) (w : World) : (callFunc 29 args).run Tryd.prog w = .ok (.enter 29 args) w := by kernel_rfl
theorem call_mix (args : Array Value) (w : World) : (callFunc 28 args).run Tryd.prog w = .ok (.enter 28 args) w := by kernel_rfl
/-- the operations of that statement -/
def T9 : List (Option Tmp × Op × List Nat) :=
  [(some 37, .move (.tmp 0), []), (some 38, .move (.tmp 0), []), (some 39, .nilCheck (.tmp 38), [1]), (some 40, .fieldAddr 49 (.tmp 39) 0, [2]), (some 41, .load 46 (.tmp 40), [3]),
  (some 42, .move (.tmp 0), []), (some 43, .nilCheck (.tmp 42), [5]), (some 44, .fieldAddr 49 (.tmp 43) 1, [6]), (some 45, .load 34 (.tmp 44), [7]),
  (some 46, .call { callee := .value (.func 29), args := #[.tmp 45], argTypes := #[34] }, [8]),
  (some 47, .call { callee := .value (.func 28), args := #[.tmp 41, .tmp 46], argTypes := #[46, 51] }, [4, 9, 9]),
  (some 48, .nilCheck (.tmp 37), [0, 0, 1, 2, 3, 4, 5, 6, 7, 8, 9, 10]), (some 49, .fieldAddr 49 (.tmp 48) 0, [11, 0, 1, 2, 3, 4, 5, 6, 7, 8, 9, 10]),
  (none, .store 46 (.tmp 49) (.tmp 47), [12, 10, 10, 0, 1, 2, 3, 4, 5, 6, 7, 8, 9, 10])]
set_option maxRecDepth 100000 in
theorem hash_region {ops : Array Oper} {Q : Exit → Act → World → Prop} {A : Act} {id b n : Nat} {w1 : World} {s : Sm.St} {rest : List UInt8}
    (hkey : ops.toList.map keyOf = T9.map fun x => (x.1, x.2.1, true, x.2.2)) (hlow : (List.range ops.size).all (fun i => match ops[i]? with | some o => o.after.all (fun e => !Region.binds .any e || decide (e.on < i)) | none => true) = true)
    (hA : A.eval (.tmp 0) = .pointer (some ⟨b, 0, none⟩)) (hsz : 49 < A.tmps.size) (hr : rest.length = 64) (hh : w1.heap[b]? = some (.cells (HC s rest n) 49 (0, 0)))
    (hG : Added w1) (hlt : b < w1.heap.size) (hb : b ≠ 2)
    (fin : ∀ (f : Nat → Value) w2, w2.heap[b]? = some (.cells (HC (Sm.mix s (Sm.words rest)) rest n) 49 (0, 0)) → Kp b w1 w2 → Q .normal (putR A p9 f) w2) : (Code.region id ops true).wp Tryd.prog Q A w1 := by
  refine wp_region_tab (by kernel_rfl) T9 hkey hlow p9 (fun listed f w => Tbl 37 (V9 b s rest) listed f ∧ listed.size = 14 ∧ W9 b s rest n w1 listed w ∧ D9 listed) ?_ ?_ ?_
  · exact ⟨Tbl.zero _ _ _ _, rfl, ⟨fun _ => hh, fun h => (by simp [T9] at h), Kp.drew _ _⟩, fun h => (by simp [T9] at h)⟩
  · intro listed f w2 i x hI hx hun hdep o hd hop
    obtain ⟨hT, hs, hW, hD⟩ := hI
    have P0 : (putR A p9 f).eval (.tmp 0) = .pointer (some ⟨b, 0, none⟩) := (putR_out _ _ _ 0 rfl).trans hA
    have EV (j : Nat) (hj : p9 j = true) (hj2 : j ≤ 49) : (putR A p9 f).eval (.tmp j) = f j := putR_in A p9 f j hj (by omega)
    have fin1 (k : Nat) (v : Value) (hk : k ≤ 12) (hv : V9 b s rest k = some v) (ho : o.dst = some (37 + k)) (w3 : World) (hW3 : W9 b s rest n w1 (listed.setIfInBounds k true) w3) :
        ∃ f', (putR A p9 f).put o.dst v = putR A p9 f' ∧ Tbl 37 (V9 b s rest) (listed.setIfInBounds k true) f' ∧ (listed.setIfInBounds k true).size = 14 ∧ W9 b s rest n w1 (listed.setIfInBounds k true) w3 ∧ D9 (listed.setIfInBounds k true) := by
      refine ⟨_, by rw [ho]; exact putR_put _ _ _ (37 + k) _ (by unfold p9; simp; omega), hT.put hv, by simpa using hs, hW3, D9_set hD (by omega)⟩
    rcases i with _ | _ | _ | _ | _ | _ | _ | _ | _ | _ | _ | _ | _ | _ | i
    all_goals simp only [T9, List.getElem?_cons_zero, List.getElem?_cons_succ, List.getElem?_nil, Option.some.injEq, reduceCtorEq] at hx
    all_goals subst hx
    · exact op_move hop P0 (fin1 0 _ (by omega) rfl hd w2 (W9_keep hW (by decide)))
    · exact op_move hop P0 (fin1 1 _ (by omega) rfl hd w2 (W9_keep hW (by decide)))
    · exact op_nil hop ((EV 38 rfl (by omega)).trans (hT 1 _ (hdep 1 (by simp)) rfl)) (fin1 2 _ (by omega) rfl hd w2 (W9_keep hW (by decide)))
    · exact op_field hop ((EV 39 rfl (by omega)).trans (hT 2 _ (hdep 2 (by simp)) rfl)) (field0 b w2) (fin1 3 _ (by omega) rfl hd w2 (W9_keep hW (by decide)))
    · have h13 : listed.getD 13 false = false := D9_not4 hD hun
      exact op_load hop ((EV 40 rfl (by omega)).trans (hT 3 _ (hdep 3 (by simp)) rfl)) (run_load_state w2 b s rest n (hW.1 h13)) (fin1 4 _ (by omega) rfl hd w2 (W9_keep hW (by decide)))
    · exact op_move hop P0 (fin1 5 _ (by omega) rfl hd w2 (W9_keep hW (by decide)))
    · exact op_nil hop ((EV 42 rfl (by omega)).trans (hT 5 _ (hdep 5 (by simp)) rfl)) (fin1 6 _ (by omega) rfl hd w2 (W9_keep hW (by decide)))
    · exact op_field hop ((EV 43 rfl (by omega)).trans (hT 6 _ (hdep 6 (by simp)) rfl)) (field1 b w2) (fin1 7 _ (by omega) rfl hd w2 (W9_keep hW (by decide)))
    · have h13 : listed.getD 13 false = false := D9_not8 hD hun
      exact op_load hop ((EV 44 rfl (by omega)).trans (hT 7 _ (hdep 7 (by simp)) rfl)) (run_load_rest w2 b s rest n hr (hW.1 h13)) (fin1 8 _ (by omega) rfl hd w2 (W9_keep hW (by decide)))
    · have e45 := (EV 45 rfl (by omega)).trans (hT 8 _ (hdep 8 (by simp)) rfl)
      exact wp_enter (f := 29) (args := #[.agg (AB rest)]) (R := fun w' => Below w2.heap.size w2 w') (exec_call _ hop (by simp [e45]) call_expand) (expand_any rest w2 hr) (fun w3 hb => fin1 9 _ (by omega) rfl hd w3 (W9_keep (W9_below hW hb hlt) (by decide)))
    · have e41 := (EV 41 rfl (by omega)).trans (hT 4 _ (hdep 4 (by simp)) rfl)
      have e46 := (EV 46 rfl (by omega)).trans (hT 9 _ (hdep 9 (by simp)) rfl)
      have hG2 : Added w2 := by
        obtain ⟨u, gr, ha⟩ := hG
        exact ⟨u, gr, (hW.2.2.block _ (Ne.symm hb) (Array.getElem?_eq_some_iff.1 ha).1).trans ha⟩
      exact wp_enter (f := 28) (args := #[.agg (AR s.list), .agg (AR (Sm.words rest))]) (R := fun w' => Below w2.heap.size w2 w') (exec_call _ hop (by simp [e41, e46]) call_mix) (mix_any s (Sm.words rest) w2 (Sm.words_length rest) hG2) (fun w3 hb => fin1 10 _ (by omega) rfl hd w3 (W9_keep (W9_below hW hb hlt) (by decide)))
    · exact op_nil hop ((EV 37 rfl (by omega)).trans (hT 0 _ (hdep 0 (by simp)) rfl)) (fin1 11 _ (by omega) rfl hd w2 (W9_keep hW (by decide)))
    · exact op_field hop ((EV 48 rfl (by omega)).trans (hT 11 _ (hdep 11 (by simp)) rfl)) (field0 b w2) (fin1 12 _ (by omega) rfl hd w2 (W9_keep hW (by decide)))
    · have e49 := (EV 49 rfl (by omega)).trans (hT 12 _ (hdep 12 (by simp)) rfl)
      have e47 := (EV 47 rfl (by omega)).trans (hT 10 _ (hdep 10 (by simp)) rfl)
      have h13 : listed.getD 13 false = false := by simpa [hs] using hun
      refine op_store hop e49 e47 hd (run_storeAt_state w2 b s _ rest n hr (hW.1 h13)) ⟨f, rfl, hT.skip rfl, by simpa using hs, ⟨fun h => ?_, fun _ => setRow_heap _ _ _ _ _ _ (hW.1 h13), hW.2.2.trans (Kp.setRow _ _ _)⟩, fun _ => ?_⟩
      · rw [getD_set_self (by omega)] at h; cases h
      · exact ⟨by rw [getD_set_other (by decide)]; exact hdep 4 (by simp), by rw [getD_set_other (by decide)]; exact hdep 8 (by simp)⟩
  · intro listed f w2 hI hall
    obtain ⟨hT, hs, hW, hD⟩ := hI
    exact fin f w2 (hW.2.1 (hall 13 (by decide))) hW.2.2
theorem mix_lit (s : Sm.St) (ws : List Nat) (w : World) (hws : ws.length = 64) (hT : Added w) :
    Calls Tryd.prog 28 #[.agg #[.int .u32 (s.a : Int), .int .u32 (s.b : Int), .int .u32 (s.c : Int), .int .u32 (s.d : Int), .int .u32 (s.e : Int), .int .u32 (s.f : Int), .int .u32 (s.g : Int), .int .u32 (s.h : Int)], .agg (AR ws)] w fun e w' => e = .returned (.agg #[.int .u32 ((Sm.mix s ws).a : Int), .int .u32 ((Sm.mix s ws).b : Int), .int .u32 ((Sm.mix s ws).c : Int), .int .u32 ((Sm.mix s ws).d : Int), .int .u32 ((Sm.mix s ws).e : Int), .int .u32 ((Sm.mix s ws).f : Int), .int .u32 ((Sm.mix s ws).g : Int), .int .u32 ((Sm.mix s ws).h : Int)]) ∧ Below w.heap.size w w' := mix_any s ws w hws hT
theorem cells8 {w : World} {b : Nat} {s : Sm.St} {rest : List UInt8} {n : Nat} (h : w.heap[b]? = some (.cells (HC s rest n) 49 (0, 0))) :
    w.cell? ⟨b, 0, none⟩ = some (.int .u32 (s.a : Int)) ∧ w.cell? ⟨b, 1, none⟩ = some (.int .u32 (s.b : Int)) ∧ w.cell? ⟨b, 2, none⟩ = some (.int .u32 (s.c : Int)) ∧ w.cell? ⟨b, 3, none⟩ = some (.int .u32 (s.d : Int)) ∧ w.cell? ⟨b, 4, none⟩ = some (.int .u32 (s.e : Int)) ∧ w.cell? ⟨b, 5, none⟩ = some (.int .u32 (s.f : Int)) ∧ w.cell? ⟨b, 6, none⟩ = some (.int .u32 (s.g : Int)) ∧ w.cell? ⟨b, 7, none⟩ = some (.int .u32 (s.h : Int)) := by
  refine ⟨?_, ?_, ?_, ?_, ?_, ?_, ?_, ?_⟩ <;> (rw [cell_of_row w b _ _ _ _ h]; simp [HC, WV, Sm.St.list])
theorem frozen8 {w : World} {b : Nat} {s : Sm.St} {rest : List UInt8} {n : Nat} (h : w.heap[b]? = some (.cells (HC s rest n) 49 (0, 0))) :
    w.frozen? ⟨b, 0, none⟩ = false ∧ w.frozen? ⟨b, 1, none⟩ = false ∧ w.frozen? ⟨b, 2, none⟩ = false ∧ w.frozen? ⟨b, 3, none⟩ = false ∧ w.frozen? ⟨b, 4, none⟩ = false ∧ w.frozen? ⟨b, 5, none⟩ = false ∧ w.frozen? ⟨b, 6, none⟩ = false ∧ w.frozen? ⟨b, 7, none⟩ = false := by
  refine ⟨?_, ?_, ?_, ?_, ?_, ?_, ?_, ?_⟩ <;> exact frozen_of_row w b _ _ _ h
theorem set8_arr (s m : Sm.St) (rest : List UInt8) (n : Nat) : ((((((((HC s rest n).setIfInBounds 0 (.int .u32 (m.a : Int))).setIfInBounds 1 (.int .u32 (m.b : Int))).setIfInBounds 2 (.int .u32 (m.c : Int))).setIfInBounds 3 (.int .u32 (m.d : Int))).setIfInBounds 4 (.int .u32 (m.e : Int))).setIfInBounds 5 (.int .u32 (m.f : Int))).setIfInBounds 6 (.int .u32 (m.g : Int))).setIfInBounds 7 (.int .u32 (m.h : Int)) = HC m rest n := by
  simp only [HC, WV, Sm.St.list, List.map_cons, List.map_nil, List.cons_append, List.nil_append, List.setIfInBounds_toArray, List.set_cons_zero, List.set_cons_succ]
theorem set_twice {w : World} {b k : Nat} {cs c1 : Array Value} {v : Value} (h : w.heap[b]? = some (.cells cs 49 (0, 0))) : (w.setRow b c1).setCell ⟨b, k, none⟩ v = w.setRow b (c1.setIfInBounds k v) := by
  rw [setCell_eq_setRow (w.setRow b c1) b k c1 49 (0, 0) v (setRow_heap w b _ _ _ _ h), setRow_setRow]
theorem set8 {w : World} {b : Nat} {s : Sm.St} {rest : List UInt8} {n : Nat} (m : Sm.St) (h : w.heap[b]? = some (.cells (HC s rest n) 49 (0, 0))) :
    (((((((w.setCell ⟨b, 0, none⟩ (.int .u32 (m.a : Int))).setCell ⟨b, 1, none⟩ (.int .u32 (m.b : Int))).setCell ⟨b, 2, none⟩ (.int .u32 (m.c : Int))).setCell ⟨b, 3, none⟩ (.int .u32 (m.d : Int))).setCell ⟨b, 4, none⟩ (.int .u32 (m.e : Int))).setCell ⟨b, 5, none⟩ (.int .u32 (m.f : Int))).setCell ⟨b, 6, none⟩ (.int .u32 (m.g : Int))).setCell ⟨b, 7, none⟩ (.int .u32 (m.h : Int)) = w.setRow b (HC m rest n) := by
  rw [setCell_eq_setRow w b 0 _ _ _ _ h, set_twice h, set_twice h, set_twice h, set_twice h, set_twice h, set_twice h, set_twice h, set8_arr]
end Go.Proofs.YtnlkmbbgcellfaaDoor
