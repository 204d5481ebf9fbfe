/-
  What the program's token comes to: its table of functions by the first byte.
-/
import Derived.Test.YtpifbmcgadjhbaaGreatDoorLexWord
import Derived.Great.Walk
namespace Go.Proofs.YtpifbmcgadjhbaaGreatDoor
open Go.RowKit

/-- a table of 256 values -/
def TB (f : Nat → Value) : Array Value := ((List.range 256).map f).toArray
theorem TB_size (f : Nat → Value) : (TB f).size = 256 := by simp [TB]
theorem TB_get (f : Nat → Value) {k : Nat} (h : k < 256) : (TB f)[k]? = some (f k) := by simp [TB, h]
def upd (f : Nat → Value) (d : Nat) (v : Value) : Nat → Value := fun k => if k = d then v else f k
theorem TB_set (f : Nat → Value) (d : Nat) (v : Value) : (TB f).setIfInBounds d v = TB (upd f d v) := by
  apply Array.ext_getElem?
  intro k
  rw [Array.getElem?_setIfInBounds]
  by_cases hk : k < 256
  · rw [TB_get _ hk, TB_get _ hk, TB_size]
    unfold upd
    by_cases e : k = d
    · subst e
      simp [hk]
    · simp [e, Ne.symm e]
  · rw [Array.getElem?_eq_none (by rw [TB_size]; omega), Array.getElem?_eq_none (by rw [TB_size]; omega), TB_size]
    by_cases e : d = k
    · subst e
      simp [hk]
    · simp [e]
/-- block b holds the table f -/
def FAt (b : Nat) (f : Nat → Value) (w : World) : Prop := w.heap[b]? = some (.cells (TB f) 133 (0, 0))
theorem FAt.cell {b : Nat} {f : Nat → Value} {w : World} (h : FAt b f w) {k : Nat} (hk : k < 256) : w.cell? ⟨b, k, none⟩ = some (f k) := by
  rw [cell_of_row w b k _ _ _ h, TB_get f hk]
theorem FAt.free {b : Nat} {f : Nat → Value} {w : World} (h : FAt b f w) (o : Nat) : w.frozen? ⟨b, o, none⟩ = false := by
  unfold World.frozen?
  rw [show w.heap[b]? = _ from h]
  simp
theorem FAt.set {b : Nat} {f : Nat → Value} {w : World} (h : FAt b f w) (d : Nat) (v : Value) : FAt b (upd f d v) (w.setCell ⟨b, d, none⟩ v) := by
  have := heap_setCell_same w b d _ _ v h
  rw [TB_set] at this
  exact this
theorem FAt.as {b : Nat} {f g : Nat → Value} {w : World} (h : FAt b f w) (e : ∀ k, f k = g k) : FAt b g w := by
  rw [← show f = g from funext e]; exact h
def Tf : Value := .func (.func 106) #[] #[]
def Cf : Value := .func (.func 107) #[] #[]
def Wf : Value := .func (.func 108) #[] #[]
/-- what the literal lays -/
def F0 (v1 v2 v3 v4 v5 v6 : Value) : Nat → Value := fun k => if k = 123 then v1 else if k = 125 then v2 else if k = 91 then v3 else if k = 93 then v4 else if k = 44 then v5 else if k = 58 then v6 else if k = 34 then Tf else .nilFunc
/-- the digits below i are in -/
def F1 (g : Nat → Value) (i : Nat) : Nat → Value := fun k => if 48 ≤ k ∧ k < 48 + i then Cf else g k
def F2 (g : Nat → Value) (i : Nat) : Nat → Value := fun k => if k = 45 ∧ 0 < i ∨ k = 43 ∧ 1 < i ∨ k = 46 ∧ 2 < i then Cf else g k
def F3 (g : Nat → Value) (i : Nat) : Nat → Value := fun k => if 97 ≤ k ∧ k < 97 + i then Wf else g k
theorem T_info : (Tryz.prog.info? 133).map (·.size) = some 256 := by kernel_rfl
theorem built_is (b1 b2 b3 b4 b5 b6 : Nat) : Tryz.prog.built 133 [(123, Pf b1), (125, Pf b2), (91, Pf b3), (93, Pf b4), (44, Pf b5), (58, Pf b6), (34, Tf)] = some (TB (F0 (Pf b1) (Pf b2) (Pf b3) (Pf b4) (Pf b5) (Pf b6))) := by kernel_rfl
theorem zero_is (w : World) : (zeroValue 133).run Tryz.prog w = .ok (.agg (TB fun _ => .nilFunc)) w := by kernel_rfl
theorem TB_one {f : Nat → Value} (h : ∀ k, (f k).oneCell' = true) : (TB f).all (·.oneCell') = true := by
  rw [Array.all_eq_true_iff_forall_mem]
  intro v hv
  unfold TB at hv
  simp only [List.mem_toArray, List.mem_map] at hv
  obtain ⟨k, _, rfl⟩ := hv
  exact h k
theorem F0_one (b1 b2 b3 b4 b5 b6 k : Nat) : (F0 (Pf b1) (Pf b2) (Pf b3) (Pf b4) (Pf b5) (Pf b6) k).oneCell' = true := by
  unfold F0
  repeat' split
  all_goals rfl
theorem exec_alloc (ρ : Operand → Value) (o : Oper) (w : World) (ho : o.op = .alloc 133) : (execOp ρ o).run Tryz.prog w = .ok (.value (.pointer (some ⟨w.heap.size, 0, none⟩))) (w.alloc (.cells (TB fun _ => .nilFunc) 133)) := by
  cases o
  simp only at ho
  subst ho
  kernel_rfl
section
variable {ops : Array Oper} {rest : List Oper} {o : Oper} {a : Act} {w : World} {Q : Exit → Act → World → Prop}
theorem wpList_tabAlloc (hg : o.guard = none) (dst : Option Tmp) (hdst : o.dst = dst) (ho : o.op = .alloc 133)
    (h : ∀ w', FAt w.heap.size (fun _ => .nilFunc) w' → Below w.heap.size w w' → wpList Tryz.prog ops Q rest (a.put dst (.pointer (some ⟨w.heap.size, 0, none⟩))) w') : wpList Tryz.prog ops Q (o :: rest) a w :=
  Great.wpList_allocTo hg dst hdst _ _ (exec_alloc _ o w ho) (h _ (heap_alloc_new w _) ((Below.refl _ _).alloc (Nat.le_refl _) _))
theorem wpList_tabBuild (hg : o.guard = none) (x1 x2 x3 x4 x5 x6 : Operand) (ho : o.op = .build 133 #[(123, x1), (125, x2), (91, x3), (93, x4), (44, x5), (58, x6), (34, .func 106)])
    (b1 b2 b3 b4 b5 b6 : Nat) (h1 : a.eval x1 = Pf b1) (h2 : a.eval x2 = Pf b2) (h3 : a.eval x3 = Pf b3) (h4 : a.eval x4 = Pf b4) (h5 : a.eval x5 = Pf b5) (h6 : a.eval x6 = Pf b6)
    (h : wpList Tryz.prog ops Q rest (a.put o.dst (.agg (TB (F0 (Pf b1) (Pf b2) (Pf b3) (Pf b4) (Pf b5) (Pf b6))))) w) : wpList Tryz.prog ops Q (o :: rest) a w := by
  have hb := built_is b1 b2 b3 b4 b5 b6
  have hl : (#[(123, x1), (125, x2), (91, x3), (93, x4), (44, x5), (58, x6), (34, Operand.func 106)].map fun (i, x) => (i, a.eval x)).toList = [(123, Pf b1), (125, Pf b2), (91, Pf b3), (93, Pf b4), (44, Pf b5), (58, Pf b6), (34, Tf)] := by
    simp [h1, h2, h3, h4, h5, h6]
    rfl
  refine wpList_build hg _ _ ho (by rw [hl, hb]; rfl) ?_
  rw [hl, hb]
  exact h
theorem wpList_tabStore (hg : o.guard = none) (x y : Operand) (ho : o.op = .store 133 x y) (g : Nat) (f f' : Nat → Value) (hx : a.eval x = .pointer (some ⟨g, 0, none⟩)) (hy : a.eval y = .agg (TB f'))
    (hf : FAt g f w) (h1 : ∀ k, (f' k).oneCell' = true)
    (h : ∀ w', FAt g f' w' → Below g w w' → wpList Tryz.prog ops Q rest (a.put o.dst undef) w') : wpList Tryz.prog ops Q (o :: rest) a w := by
  refine wpList_store_row hg _ x y ho g (TB f') hx hy _ _ hf (by rw [TB_size]; exact T_info) (by rw [TB_size, TB_size]) (TB_one h1) (h _ (setRow_heap w g _ _ _ _ hf) ⟨rfl, rfl, rfl, by simp, fun i hi => setRow_other w g i _ (by omega)⟩)
end
theorem digit_at {i : Nat} (h : i < 10) : ∀ hh, ((⟨#[48, 49, 50, 51, 52, 53, 54, 55, 56, 57]⟩ : ByteArray)[i]'hh).toNat = 48 + i := by
  intro hh
  rcases (show i = 0 ∨ i = 1 ∨ i = 2 ∨ i = 3 ∨ i = 4 ∨ i = 5 ∨ i = 6 ∨ i = 7 ∨ i = 8 ∨ i = 9 by omega) with rfl | rfl | rfl | rfl | rfl | rfl | rfl | rfl | rfl | rfl <;> rfl
set_option maxRecDepth 10000 in
theorem eq_rec (f : Fn) (a b : Array Value) (w : World) : (binOp .eql 131 (.func f a b) .nilFunc).run Tryz.prog w = .ok (.bool false) w := by rfl
set_option maxRecDepth 10000 in
theorem eq_recnil (w : World) : (binOp .eql 131 .nilFunc .nilFunc).run Tryz.prog w = .ok (.bool true) w := by rfl
theorem store_fn {w : World} {b k : Nat} {f : Nat → Value} (h : FAt b f w) (hk : k < 256) (n : FuncId) : (store ⟨b, k, none⟩ (.func (.func n) #[] #[])).run Tryz.prog w = .ok () (w.setCell ⟨b, k, none⟩ (.func (.func n) #[] #[])) := by
  rw [run_store _ _ _ _ _ rfl, h.cell hk]
  simp [h.free]
theorem F1_next (G : Nat → Value) (i k : Nat) : upd (F1 G i) (48 + i) Cf k = F1 G (i + 1) k := by
  unfold upd F1
  by_cases h : k = 48 + i
  · rw [if_pos h, if_pos (by omega)]
  · rw [if_neg h]
    by_cases h2 : 48 ≤ k ∧ k < 48 + i
    · rw [if_pos h2, if_pos (by omega)]
    · rw [if_neg h2, if_neg (by omega)]
theorem F2_next (G : Nat → Value) (i k d : Nat) (h : i = 0 ∧ d = 45 ∨ i = 1 ∧ d = 43 ∨ i = 2 ∧ d = 46) : upd (F2 G i) d Cf k = F2 G (i + 1) k := by
  unfold upd F2
  by_cases h1 : k = d
  · rw [if_pos h1, if_pos (by omega)]
  · rw [if_neg h1]
    by_cases h2 : k = 45 ∧ 0 < i ∨ k = 43 ∧ 1 < i ∨ k = 46 ∧ 2 < i
    · rw [if_pos h2, if_pos (by omega)]
    · rw [if_neg h2, if_neg (by omega)]
theorem F3_next (G : Nat → Value) (i k : Nat) : upd (F3 G i) (97 + i) Wf k = F3 G (i + 1) k := by
  unfold upd F3
  by_cases h : k = 97 + i
  · rw [if_pos h, if_pos (by omega)]
  · rw [if_neg h]
    by_cases h2 : 97 ≤ k ∧ k < 97 + i
    · rw [if_pos h2, if_pos (by omega)]
    · rw [if_neg h2, if_neg (by omega)]
/-- the whole table -/
def FT (b1 b2 b3 b4 b5 b6 : Nat) : Nat → Value := F3 (F2 (F1 (F0 (Pf b1) (Pf b2) (Pf b3) (Pf b4) (Pf b5) (Pf b6)) 10) 3) 26
theorem FT_word {b1 b2 b3 b4 b5 b6 k : Nat} (h : 97 ≤ k ∧ k ≤ 122) : FT b1 b2 b3 b4 b5 b6 k = Wf := by
  unfold FT F3
  rw [if_pos (by omega)]
theorem FT_num {b1 b2 b3 b4 b5 b6 k : Nat} (h : 48 ≤ k ∧ k ≤ 57 ∨ k = 45 ∨ k = 43 ∨ k = 46) : FT b1 b2 b3 b4 b5 b6 k = Cf := by
  unfold FT F3 F2 F1
  rw [if_neg (by omega)]
  by_cases h2 : k = 45 ∧ 0 < 3 ∨ k = 43 ∧ 1 < 3 ∨ k = 46 ∧ 2 < 3
  · rw [if_pos h2]
  · rw [if_neg h2, if_pos (by omega)]
theorem FT_else {b1 b2 b3 b4 b5 b6 k : Nat} (h : ¬ (97 ≤ k ∧ k ≤ 122)) (h2 : ¬ (48 ≤ k ∧ k ≤ 57 ∨ k = 45 ∨ k = 43 ∨ k = 46)) : FT b1 b2 b3 b4 b5 b6 k = F0 (Pf b1) (Pf b2) (Pf b3) (Pf b4) (Pf b5) (Pf b6) k := by
  unfold FT F3 F2 F1
  rw [if_neg (by omega), if_neg (by omega), if_neg (by omega)]
theorem Lm.mark_cons {l : List UInt8} {p : Nat} {c : UInt8} (h : l.drop p = c :: l.drop (p + 1)) : Lm.mark l p = if Lm.punct c ≠ 0 then (⟨Lm.punct c, p, p + 1, 0, []⟩, 0)
    else if c = 34 then (if (Qm.RD l (p : Int)).2.2 = 0 then (⟨10, p, (Qm.RD l (p : Int)).2.1, 0, (Qm.RD l (p : Int)).1⟩, 0) else (Lm.zero, (Qm.RD l (p : Int)).2.2))
    else if Lm.numb c then (if (Nm.READ l (p : Int)).2.2 = 0 then (⟨9, p, (Nm.READ l (p : Int)).2.1.toNat, (Nm.READ l (p : Int)).1, []⟩, 0) else (Lm.zero, (Nm.READ l (p : Int)).2.2.toNat))
    else if Lm.word l p = Lm.TRUE then (⟨7, p, p + 4, 0, []⟩, 0)
    else if Lm.word l p = Lm.FALSE then (⟨8, p, p + 5, 0, []⟩, 0)
    else (Lm.zero, 3) := by
  unfold Lm.mark
  rw [h]
theorem u8_of {c : UInt8} {k : Nat} {d : UInt8} (h : c.toNat = k) (hd : d.toNat = k) : c = d := UInt8.toNat.inj (h.trans hd.symm)
/-- what the table holds for the byte at p, and the mark that stands there -/
theorem FT_ways {l : List UInt8} {p : Nat} {c : UInt8} (hdr : l.drop p = c :: l.drop (p + 1)) (b1 b2 b3 b4 b5 b6 : Nat) {w : World} (o1 : Po 1 w (Pf b1)) (o2 : Po 2 w (Pf b2)) (o3 : Po 3 w (Pf b3)) (o4 : Po 4 w (Pf b4)) (o5 : Po 5 w (Pf b5)) (o6 : Po 6 w (Pf b6)) :
    (∃ k b, FT b1 b2 b3 b4 b5 b6 c.toNat = Pf b ∧ Po k w (Pf b) ∧ Lm.mark l p = (⟨k, p, p + 1, 0, []⟩, 0))
    ∨ (FT b1 b2 b3 b4 b5 b6 c.toNat = Tf ∧ Lm.mark l p = if (Qm.RD l (p : Int)).2.2 = 0 then (⟨10, p, (Qm.RD l (p : Int)).2.1, 0, (Qm.RD l (p : Int)).1⟩, 0) else (Lm.zero, (Qm.RD l (p : Int)).2.2))
    ∨ (FT b1 b2 b3 b4 b5 b6 c.toNat = Cf ∧ Lm.mark l p = if (Nm.READ l (p : Int)).2.2 = 0 then (⟨9, p, (Nm.READ l (p : Int)).2.1.toNat, (Nm.READ l (p : Int)).1, []⟩, 0) else (Lm.zero, (Nm.READ l (p : Int)).2.2.toNat))
    ∨ (FT b1 b2 b3 b4 b5 b6 c.toNat = Wf ∧ Lm.mark l p = if Lm.word l p = Lm.TRUE then (⟨7, p, p + 4, 0, []⟩, 0) else if Lm.word l p = Lm.FALSE then (⟨8, p, p + 5, 0, []⟩, 0) else (Lm.zero, 3))
    ∨ (FT b1 b2 b3 b4 b5 b6 c.toNat = .nilFunc ∧ Lm.mark l p = (⟨0, 0, 0, 0, []⟩, 3)) := by
  by_cases g1 : c = 123
  · subst g1; exact .inl ⟨1, b1, rfl, o1, Lm.mark_punct hdr rfl (by decide)⟩
  by_cases g2 : c = 125
  · subst g2; exact .inl ⟨2, b2, rfl, o2, Lm.mark_punct hdr rfl (by decide)⟩
  by_cases g3 : c = 91
  · subst g3; exact .inl ⟨3, b3, rfl, o3, Lm.mark_punct hdr rfl (by decide)⟩
  by_cases g4 : c = 93
  · subst g4; exact .inl ⟨4, b4, rfl, o4, Lm.mark_punct hdr rfl (by decide)⟩
  by_cases g5 : c = 44
  · subst g5; exact .inl ⟨5, b5, rfl, o5, Lm.mark_punct hdr rfl (by decide)⟩
  by_cases g6 : c = 58
  · subst g6; exact .inl ⟨6, b6, rfl, o6, Lm.mark_punct hdr rfl (by decide)⟩
  have hP : ¬ Lm.punct c ≠ 0 := by
    unfold Lm.punct
    rw [if_neg g1, if_neg g2, if_neg g3, if_neg g4, if_neg g5, if_neg g6]
    exact fun h => h rfl
  rw [Lm.mark_cons hdr, if_neg hP]
  by_cases g7 : c = 34
  · subst g7
    exact .inr (.inl ⟨rfl, by rw [if_pos rfl]⟩)
  rw [if_neg g7]
  by_cases hn : Lm.numb c = true
  · rw [if_pos hn]
    refine .inr (.inr (.inl ⟨FT_num ?_, rfl⟩))
    unfold Lm.numb at hn
    simp only [Bool.or_eq_true, beq_iff_eq] at hn
    rcases hn with ((hn | rfl) | rfl) | rfl
    · exact .inl (Nm.dig_iff.1 hn)
    · exact .inr (.inl rfl)
    · exact .inr (.inr (.inl rfl))
    · exact .inr (.inr (.inr rfl))
  rw [if_neg hn]
  by_cases hz : 97 ≤ c.toNat ∧ c.toNat ≤ 122
  · exact .inr (.inr (.inr (.inl ⟨FT_word hz, rfl⟩)))
  have hnn : ¬ (48 ≤ c.toNat ∧ c.toNat ≤ 57 ∨ c.toNat = 45 ∨ c.toNat = 43 ∨ c.toNat = 46) := by
    intro h
    apply hn
    unfold Lm.numb
    simp only [Bool.or_eq_true, beq_iff_eq]
    rcases h with h | h | h | h
    · exact .inl (.inl (.inl (Nm.dig_iff.2 h)))
    · exact .inl (.inl (.inr (u8_of h rfl)))
    · exact .inl (.inr (u8_of h rfl))
    · exact .inr (u8_of h rfl)
  have hw : Lm.word l p = [] := by
    unfold Lm.word
    rw [hdr, List.takeWhile_cons, if_neg]
    rw [Lm.az_is (rfl : (c.toNat : Int) = (c.toNat : Int))]
    unfold Lm.azN
    simp only [Bool.and_eq_true, decide_eq_true_eq]
    omega
  refine .inr (.inr (.inr (.inr ⟨?_, ?_⟩)))
  · rw [FT_else hz hnn]
    have n1 : ¬ c.toNat = 123 := fun h => g1 (u8_of h rfl)
    have n2 : ¬ c.toNat = 125 := fun h => g2 (u8_of h rfl)
    have n3 : ¬ c.toNat = 91 := fun h => g3 (u8_of h rfl)
    have n4 : ¬ c.toNat = 93 := fun h => g4 (u8_of h rfl)
    have n5 : ¬ c.toNat = 44 := fun h => g5 (u8_of h rfl)
    have n6 : ¬ c.toNat = 58 := fun h => g6 (u8_of h rfl)
    have n7 : ¬ c.toNat = 34 := fun h => g7 (u8_of h rfl)
    unfold F0
    rw [if_neg n1, if_neg n2, if_neg n3, if_neg n4, if_neg n5, if_neg n6, if_neg n7]
  · rw [hw, if_neg (by decide), if_neg (by decide)]
    rfl
theorem mr_form {f : FuncId} {args : Array Value} {w : World} {x : Lm.Mark × Nat} {K A E y : Nat} {n : Int} {t : List UInt8} (h : Calls Tryz.prog f args w fun e w' => e = Lm.MR x ∧ Below w.heap.size w w') (hx : x = (⟨K, A, E, n, t⟩, y)) {kI aI eI yI : Int} (hk : kI = (K : Int)) (ha : aI = (A : Int)) (he : eI = (E : Int)) (hy : yI = (y : Int)) :
    Calls Tryz.prog f args w fun e w' => e = .returned (.tuple #[.agg #[.int .u8 kI, .int .i64 aI, .int .i64 eI, .int .i64 n, .string (S t)], .int .i64 yI]) ∧ Below w.heap.size w w' := by
  subst hx hk ha he hy
  exact h
set_option maxHeartbeats 4000000 in
set_option maxRecDepth 3000 in
theorem token_any (l : List UInt8) (p : Nat) (w : World) (hT : TabL w) (hp : p ≤ l.length) (hl : l.length ≤ 50000000) :
    Calls Tryz.prog 85 #[.string (S l), .int .i64 (p : Int)] w fun e w' => e = Lm.MR (Lm.mark l p) ∧ Below w.heap.size w w' := by
  have z1 := S_size l
  have hat := Tx_at l
  by_cases hend : (p : Int) = (l.length : Int)
  · have HR : Hid (Lm.mark l p = (⟨11, p, p, 0, []⟩, 0)) := by
      unfold Lm.mark Hid
      rw [List.drop_of_length_le (by omega)]
    have hee : ((p : Int) == (l.length : Int)) = true := beq_iff_eq.2 hend
    clear hend
    go_enter Tryz.func85, Tryz.ntmps85
    go_wp2_with fail
    go_returns
    exact ⟨Lm.ret_mr HR.out rfl rfl rfl rfl rfl, (Below.refl _ _).alloc (Nat.le_refl _) _⟩
  have hee : ((p : Int) == (l.length : Int)) = false := beq_eq_false_iff_ne.2 hend
  have hpl : p < l.length := by omega
  obtain ⟨W1, hW1⟩ : ∃ W1, W1 = w.alloc (.cells #[.int .u8 0, .int .i64 0, .int .i64 0, .int .i64 0, .string ⟨#[]⟩] 85) := ⟨_, rfl⟩
  have HB1 : Hid (Below w.heap.size w W1) := by rw [hW1]; exact (Below.refl _ _).alloc (Nat.le_refl _) _
  have HH1 : NAt w.heap.size W1 := by rw [hW1]; exact MkAt.new ..
  clear hend
  go_enter Tryz.func85, Tryz.ntmps85
  go_wp2_with fail
  rw [← hW1]
  clear hW1
  refine (lexOnly_any 1 _ rfl).mono ?_; rintro e u1 ⟨_, rfl, ⟨b1, rfl, l1, c1⟩, d1⟩
  have O1 : Po 1 u1 (Pf b1) := ⟨b1, rfl, l1, c1⟩
  clear l1 c1
  go_wp2_with fail
  refine (lexOnly_any 2 _ rfl).mono ?_; rintro e u2 ⟨_, rfl, ⟨b2, rfl, l2, c2⟩, d2⟩
  have O2 : Po 2 u2 (Pf b2) := ⟨b2, rfl, l2, c2⟩
  clear l2 c2
  go_wp2_with fail
  refine (lexOnly_any 3 _ rfl).mono ?_; rintro e u3 ⟨_, rfl, ⟨b3, rfl, l3, c3⟩, d3⟩
  have O3 : Po 3 u3 (Pf b3) := ⟨b3, rfl, l3, c3⟩
  clear l3 c3
  go_wp2_with fail
  refine (lexOnly_any 4 _ rfl).mono ?_; rintro e u4 ⟨_, rfl, ⟨b4, rfl, l4, c4⟩, d4⟩
  have O4 : Po 4 u4 (Pf b4) := ⟨b4, rfl, l4, c4⟩
  clear l4 c4
  go_wp2_with fail
  refine (lexOnly_any 5 _ rfl).mono ?_; rintro e u5 ⟨_, rfl, ⟨b5, rfl, l5, c5⟩, d5⟩
  have O5 : Po 5 u5 (Pf b5) := ⟨b5, rfl, l5, c5⟩
  clear l5 c5
  go_wp2_with fail
  refine (lexOnly_any 6 _ rfl).mono ?_; rintro e u6 ⟨_, rfl, ⟨b6, rfl, l6, c6⟩, d6⟩
  have O6 : Po 6 u6 (Pf b6) := ⟨b6, rfl, l6, c6⟩
  clear l6 c6
  have P6 : Hid (∃ W2 : World, W2.heap.size = u6.heap.size ∧ Below W1.heap.size W1 u6 ∧ Po 1 u6 (Pf b1) ∧ Po 2 u6 (Pf b2) ∧ Po 3 u6 (Pf b3) ∧ Po 4 u6 (Pf b4) ∧ Po 5 u6 (Pf b5) ∧ Po 6 u6 (Pf b6)) := by
    have e5 := (O5.below d6)
    have e4 := (O4.below d5).below d6
    have e3 := ((O3.below d4).below d5).below d6
    have e2 := (((O2.below d3).below d4).below d5).below d6
    have e1 := ((((O1.below d2).below d3).below d4).below d5).below d6
    have h1 := d1.trans (d2.mono d1.size)
    have h2 := h1.trans (d3.mono h1.size)
    have h3 := h2.trans (d4.mono h2.size)
    have h4 := h3.trans (d5.mono h3.size)
    exact ⟨u6, rfl, h4.trans (d6.mono h4.size), e1, e2, e3, e4, e5, O6⟩
  clear O1 O2 O3 O4 O5 O6 d1 d2 d3 d4 d5 d6
  go_wp2_with (first | (refine wpList_tabBuild rfl _ _ _ _ _ _ rfl b1 b2 b3 b4 b5 b6 rfl rfl rfl rfl rfl rfl ?_) | (refine wpList_tabAlloc rfl _ rfl rfl ?_; intro U7 F7 d7) | (refine wpList_tabStore rfl _ _ rfl u6.heap.size _ _ rfl rfl F7 (F0_one _ _ _ _ _ _) ?_; intro U8 F8 d8))
  have d9 : Hid (Below u6.heap.size u6 U8) := (d7.trans (d8.mono (Nat.le_refl _)))
  clear F7 d7 d8
  obtain ⟨G, hG⟩ : ∃ G, F0 (Pf b1) (Pf b2) (Pf b3) (Pf b4) (Pf b5) (Pf b6) = G := ⟨_, rfl⟩
  rw [hG] at F8
  have HG := Lib.hid hG
  clear hG
  obtain ⟨B, hB⟩ : ∃ B, u6.heap.size = B := ⟨_, rfl⟩
  rw [hB] at F8 d9
  rw [hB]
  have HBB := Lib.hid hB
  clear hB
  go_loopw [25] (fun iv wr => ∃ i : Nat, iv = .int .i64 (i : Int) ∧ i ≤ 10 ∧ FAt B (F1 G i) wr ∧ Below B U8 wr) (fun iv _ => 10 - (intOf iv).toNat)
  case atStart => exact ⟨0, rfl, by omega, F8.as (fun k => by unfold F1; rw [if_neg (by omega)]), Below.refl _ _⟩
  case round =>
    obtain ⟨i, rfl, hi, hF, hW⟩ := hrel
    by_cases h10 : (i : Int) < 10
    · have hd := digit_at (show i < 10 by omega)
      have hst := store_fn hF (show 48 + i < 256 by omega) 107
      have hlt : i < 10 := by omega
      have HF : Hid (FAt B (F1 G (i + 1)) (wr.setCell ⟨B, 48 + i, none⟩ Cf)) := (hF.set (48 + i) Cf).as (F1_next G i)
      clear hF
      go_wp2_with fail
      go_roundw
      case rel => exact ⟨i + 1, by go_num, by omega, HF.out, hW.setCell (p := ⟨B, 48 + i, none⟩) (Nat.le_refl _) _⟩
      case measure => simp [intOf]; omega
    · obtain rfl : i = 10 := by omega
      clear h10 F8
      go_wp2_with fail
      go_loopw [32] (fun iv w2 => ∃ i : Nat, iv = .int .i64 (i : Int) ∧ i ≤ 3 ∧ FAt B (F2 (F1 G 10) i) w2 ∧ Below B U8 w2) (fun iv _ => 3 - (intOf iv).toNat)
      case atStart => exact ⟨0, rfl, by omega, hF.as (fun k => by unfold F2; rw [if_neg (by omega)]), hW⟩
      case round =>
        clear hF hW
        obtain ⟨i, rfl, hi, hF, hW⟩ := hrel
        by_cases h3 : (i : Int) < 3
        · rcases (show i = 0 ∨ i = 1 ∨ i = 2 by omega) with rfl | rfl | rfl
          · have hd : ∀ hh, ((⟨#[45, 43, 46]⟩ : ByteArray)[0]'hh).toNat = 45 := fun _ => rfl
            have hst := store_fn hF (show 45 < 256 by omega) 107
            have HF : Hid (FAt B (F2 (F1 G 10) 1) (wr.setCell ⟨B, 45, none⟩ Cf)) := (hF.set 45 Cf).as (fun k => F2_next _ 0 k 45 (by omega))
            clear hF
            go_wp2_with fail
            go_roundw
            case rel => exact ⟨1, rfl, by omega, HF.out, hW.setCell (p := ⟨B, 45, none⟩) (Nat.le_refl _) _⟩
            case measure => simp [intOf]
          · have hd : ∀ hh, ((⟨#[45, 43, 46]⟩ : ByteArray)[1]'hh).toNat = 43 := fun _ => rfl
            have hst := store_fn hF (show 43 < 256 by omega) 107
            have HF : Hid (FAt B (F2 (F1 G 10) 2) (wr.setCell ⟨B, 43, none⟩ Cf)) := (hF.set 43 Cf).as (fun k => F2_next _ 1 k 43 (by omega))
            clear hF
            go_wp2_with fail
            go_roundw
            case rel => exact ⟨2, rfl, by omega, HF.out, hW.setCell (p := ⟨B, 43, none⟩) (Nat.le_refl _) _⟩
            case measure => simp [intOf]
          · have hd : ∀ hh, ((⟨#[45, 43, 46]⟩ : ByteArray)[2]'hh).toNat = 46 := fun _ => rfl
            have hst := store_fn hF (show 46 < 256 by omega) 107
            have HF : Hid (FAt B (F2 (F1 G 10) 3) (wr.setCell ⟨B, 46, none⟩ Cf)) := (hF.set 46 Cf).as (fun k => F2_next _ 2 k 46 (by omega))
            clear hF
            go_wp2_with fail
            go_roundw
            case rel => exact ⟨3, rfl, by omega, HF.out, hW.setCell (p := ⟨B, 46, none⟩) (Nat.le_refl _) _⟩
            case measure => simp [intOf]
        · obtain rfl : i = 3 := by omega
          clear h3
          go_wp2_with fail
          go_loopw [9] (fun iv w2 => ∃ j : Nat, iv = .int .i32 (97 + (j : Int)) ∧ j ≤ 26 ∧ FAt B (F3 (F2 (F1 G 10) 3) j) w2 ∧ Below B U8 w2) (fun iv _ => 123 - (intOf iv).toNat)
          case atStart => exact ⟨0, rfl, by omega, hF.as (fun k => by unfold F3; rw [if_neg (by omega)]), hW⟩
          case round =>
            clear hF hW
            obtain ⟨j, rfl, hj, hF, hW⟩ := hrel
            by_cases h26 : j < 26
            · have hst := store_fn hF (show 97 + j < 256 by omega) 108
              have HF : Hid (FAt B (F3 (F2 (F1 G 10) 3) (j + 1)) (wr.setCell ⟨B, 97 + j, none⟩ Wf)) := (hF.set (97 + j) Wf).as (F3_next _ j)
              have hle : (97 : Int) + (j : Int) ≤ 122 := by omega
              clear hF
              go_wp2_with fail
              go_roundw
              case rel => exact ⟨j + 1, by go_num, by omega, HF.out, hW.setCell (p := ⟨B, 97 + j, none⟩) (Nat.le_refl _) _⟩
              case measure => simp [intOf]; omega
            · obtain rfl : j = 26 := by omega
              clear h26
              obtain ⟨_, _, bu, o1, o2, o3, o4, o5, o6⟩ := P6.out
              have e6 : Below u6.heap.size u6 wr := by rw [HBB.out]; exact d9.out.trans hW
              have HBr : Hid (Below w.heap.size w wr) := (HB1.out.trans (bu.mono HB1.out.size)).trans (e6.mono (HB1.out.trans (bu.mono HB1.out.size)).size)
              have HHr : NAt w.heap.size wr := (HH1.below bu).below e6
              have HTr : Hid (TabL wr) := hT.below HBr.out
              obtain ⟨c, hcb, hdr⟩ := Tx.drop_cons hpl
              have hby := Tx.bt_lt l p
              have hcell0 := hF.cell (k := Tx.bt l p) hby
              rw [← HG.out] at hcell0
              have hways := FT_ways hdr b1 b2 b3 b4 b5 b6 (o1.below e6) (o2.below e6) (o3.below e6) (o4.below e6) (o5.below e6) (o6.below e6)
              rw [hcb] at hways
              have hcell : wr.cell? ⟨B, Tx.bt l p, none⟩ = some (FT b1 b2 b3 b4 b5 b6 (Tx.bt l p)) := hcell0
              clear hcell0
              have hef := eq_rec
              have hen := eq_recnil
              have hpl' : (p : Int) < (l.length : Int) := by omega
              clear hT HH1 HB1 P6 HG HBB d9 bu o1 o2 o3 o4 o5 o6 e6 hF hW hcb hdr
              obtain ⟨⟨K, A, E, n, t⟩, y, hx⟩ : ∃ m y, Lm.mark l p = (m, y) := ⟨_, _, rfl⟩
              obtain ⟨kI, hk⟩ : ∃ k : Int, k = (K : Int) := ⟨_, rfl⟩
              obtain ⟨aI, ha⟩ : ∃ k : Int, k = (A : Int) := ⟨_, rfl⟩
              obtain ⟨eI, he⟩ : ∃ k : Int, k = (E : Int) := ⟨_, rfl⟩
              obtain ⟨yI, hy⟩ : ∃ k : Int, k = (y : Int) := ⟨_, rfl⟩
              have HX := Lib.hid hx
              have HK := Lib.hid hk
              have HA := Lib.hid ha
              have HE := Lib.hid he
              have HY := Lib.hid hy
              clear hx hk ha he hy
              have hways0 : True := trivial
              rcases hways with ⟨k, b, hv, hpo, hm⟩ | ⟨hv, hm⟩ | ⟨hv, hm⟩ | ⟨hv, hm⟩ | ⟨hv, hm⟩
              · rw [hv] at hcell
                obtain ⟨b', hb, hb2, hb3⟩ := hpo
                obtain rfl : b = b' := by unfold Pf at hb; simpa using hb
                have cF := mr_form (lexOnly1_any l p b k wr (by omega) hm hb2 hb3) HX.out HK.out HA.out HE.out HY.out
                clear hb hb2 hb3
                clear hm hv hways0
                unfold Pf at hcell
                go_wp2_with fail
                refine cF.mono ?_; rintro e w2 ⟨rfl, b2⟩
                have HH2 := HHr.below b2
                obtain ⟨⟨q0, q1, q2, q3, q4⟩, qf⟩ := HH2.cells
                have HB2 := Lib.hid (HBr.out.trans (b2.mono HBr.out.size))
                clear b2 cF
                go_wp2_with fail
                refine bodyPost_ret (results_lex (fn := Tryz.f85) (t := 4) (u := 5) rfl _ _ rfl (NAt.set5 HH2 _ _ _ _ _) rfl) rfl ?_
                exact ⟨Lm.ret_mr HX.out HK.out HA.out HE.out HY.out rfl, below_set5 HB2.out (Nat.le_refl _) _ _ _ _ _⟩
              · rw [hv] at hcell
                have cF := mr_form (lexText_any l p wr HTr.out hl hm) HX.out HK.out HA.out HE.out HY.out
                clear hm hv hways0
                unfold Tf at hcell
                go_wp2_with fail
                refine cF.mono ?_; rintro e w2 ⟨rfl, b2⟩
                have HH2 := HHr.below b2
                obtain ⟨⟨q0, q1, q2, q3, q4⟩, qf⟩ := HH2.cells
                have HB2 := Lib.hid (HBr.out.trans (b2.mono HBr.out.size))
                clear b2 cF
                go_wp2_with fail
                refine bodyPost_ret (results_lex (fn := Tryz.f85) (t := 4) (u := 5) rfl _ _ rfl (NAt.set5 HH2 _ _ _ _ _) rfl) rfl ?_
                exact ⟨Lm.ret_mr HX.out HK.out HA.out HE.out HY.out rfl, below_set5 HB2.out (Nat.le_refl _) _ _ _ _ _⟩
              · rw [hv] at hcell
                have cF := mr_form (lexNumber_any l p wr HTr.out hl hm) HX.out HK.out HA.out HE.out HY.out
                clear hm hv hways0
                unfold Cf at hcell
                go_wp2_with fail
                refine cF.mono ?_; rintro e w2 ⟨rfl, b2⟩
                have HH2 := HHr.below b2
                obtain ⟨⟨q0, q1, q2, q3, q4⟩, qf⟩ := HH2.cells
                have HB2 := Lib.hid (HBr.out.trans (b2.mono HBr.out.size))
                clear b2 cF
                go_wp2_with fail
                refine bodyPost_ret (results_lex (fn := Tryz.f85) (t := 4) (u := 5) rfl _ _ rfl (NAt.set5 HH2 _ _ _ _ _) rfl) rfl ?_
                exact ⟨Lm.ret_mr HX.out HK.out HA.out HE.out HY.out rfl, below_set5 HB2.out (Nat.le_refl _) _ _ _ _ _⟩
              · rw [hv] at hcell
                have cF := mr_form (lexWord_any l p wr hp hl hm) HX.out HK.out HA.out HE.out HY.out
                clear hm hv hways0
                unfold Wf at hcell
                go_wp2_with fail
                refine cF.mono ?_; rintro e w2 ⟨rfl, b2⟩
                have HH2 := HHr.below b2
                obtain ⟨⟨q0, q1, q2, q3, q4⟩, qf⟩ := HH2.cells
                have HB2 := Lib.hid (HBr.out.trans (b2.mono HBr.out.size))
                clear b2 cF
                go_wp2_with fail
                refine bodyPost_ret (results_lex (fn := Tryz.f85) (t := 4) (u := 5) rfl _ _ rfl (NAt.set5 HH2 _ _ _ _ _) rfl) rfl ?_
                exact ⟨Lm.ret_mr HX.out HK.out HA.out HE.out HY.out rfl, below_set5 HB2.out (Nat.le_refl _) _ _ _ _ _⟩
              · rw [hv] at hcell
                have HM := Lib.hid hm
                clear hm hv HX HK HA HE HY
                obtain ⟨⟨q0, q1, q2, q3, q4⟩, qf⟩ := HHr.cells
                go_wp2_with fail
                refine bodyPost_ret (results_lex (fn := Tryz.f85) (t := 4) (u := 5) rfl _ _ rfl (NAt.set5 HHr _ _ _ _ _) rfl) rfl ?_
                exact ⟨Lm.ret_mr HM.out rfl rfl rfl rfl rfl, below_set5 HBr.out (Nat.le_refl _) _ _ _ _ _⟩
end Go.Proofs.YtpifbmcgadjhbaaGreatDoor
