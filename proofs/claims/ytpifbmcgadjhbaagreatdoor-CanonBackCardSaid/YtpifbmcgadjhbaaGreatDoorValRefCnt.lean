/-
  What the document's Count and Depth come to.
-/
import Derived.Test.YtpifbmcgadjhbaaGreatDoorValTree
namespace Go.Proofs.YtpifbmcgadjhbaaGreatDoor
open Go.RowKit

/-- block b holds one value's cells -/
def VAt (b : Nat) (w : World) (a0 a1 a2 a3 a4 : Value) : Prop := w.heap[b]? = some (.cells #[a0, a1, a2, a3, a4] 26 (0, 0))
theorem VAt.below {b : Nat} {w w' : World} {a0 a1 a2 a3 a4 : Value} (h : VAt b w a0 a1 a2 a3 a4) (hb : Below w.heap.size w w') : VAt b w' a0 a1 a2 a3 a4 := (hb.block b (Array.getElem?_eq_some_iff.1 h).1).trans h
theorem VAt.cells {b : Nat} {w : World} {a0 a1 a2 a3 a4 : Value} (h : VAt b w a0 a1 a2 a3 a4) : (w.cell? ⟨b, 0, none⟩ = some a0 ∧ w.cell? ⟨b, 1, none⟩ = some a1 ∧ w.cell? ⟨b, 2, none⟩ = some a2 ∧ w.cell? ⟨b, 3, none⟩ = some a3 ∧ w.cell? ⟨b, 4, none⟩ = some a4)
    ∧ ∀ o, w.frozen? ⟨b, o, none⟩ = false := by
  refine ⟨⟨?_, ?_, ?_, ?_, ?_⟩, fun o => ?_⟩
  all_goals first | (rw [cell_of_row w b _ _ _ _ h]; rfl) | (unfold World.frozen?; rw [show w.heap[b]? = _ from h]; simp)
theorem VAt.new (w : World) (a0 a1 a2 a3 a4 : Value) : VAt w.heap.size (w.alloc (.cells #[a0, a1, a2, a3, a4] 26)) a0 a1 a2 a3 a4 := heap_alloc_new w _
/-- the items of a slice whose place is known -/
theorem items_at {w : World} {b : Option Addr} {is : List JV} (h : is = [] ∨ ∃ blk off, b = some ⟨blk, off, none⟩ ∧ HI w blk off is) {i : Nat} {x : JV} (hx : is[i]? = some x) : ∃ blk off, b = some ⟨blk, off, none⟩ ∧ HI w blk off is := by
  rcases h with rfl | h
  · simp at hx
  · exact h
theorem JV.take_snoc {xs : List JV} {i : Nat} {x : JV} (h : xs[i]? = some x) : xs.take (i + 1) = xs.take i ++ [x] := by
  rw [List.take_add_one, h]
  rfl
theorem JV.cnts_take_le : ∀ (xs : List JV) (i : Nat), cnts (xs.take i) ≤ cnts xs
  | [], i => by rw [List.take_nil]; exact Nat.le_refl _
  | x :: xs, 0 => by rw [List.take_zero]; unfold cnts; omega
  | x :: xs, i + 1 => by
    have := JV.cnts_take_le xs i
    rw [List.take_succ_cons, cnts, cnts]
    omega
theorem JV.cnt_eq (x : JV) : cnt x = 1 + cnts x.is := by
  match x with
  | .mk k n t ns is => rw [cnt]; rfl
theorem JV.len_le : ∀ xs : List JV, xs.length ≤ cnts xs
  | [] => Nat.zero_le _
  | x :: xs => by
    have := JV.len_le xs
    have := x.cnt_pos
    rw [List.length_cons, cnts]
    omega
set_option maxHeartbeats 1000000 in
set_option maxRecDepth 3000 in
theorem refCount_any : ∀ (K : Nat) (x : JV), x.cnt ≤ K → x.cnt ≤ 90000 → ∀ (w : World) (v : Value), HV w v x →
    Calls Tryz.prog 33 #[v] w fun e w' => e = .returned (.int .i64 (x.cnt : Int)) ∧ Below w.heap.size w w' := by
  intro K
  induction K with
  | zero => intro x h; have := x.cnt_pos; omega
  | succ K ih =>
  intro x hK hx w v hv
  obtain ⟨cs, rfl, hc⟩ := hv
  obtain ⟨a, b, ca, cb, rfl, hB, hN, hI⟩ := hc.form
  obtain ⟨m, hm⟩ : ∃ m, x.is.length = m := ⟨_, rfl⟩
  have hm2 : (m : Int) ≤ 90000 := by have := JV.len_le x.is; have := x.cnt_eq; omega
  rw [hm]
  have HM := Lib.hid hm
  have HCn := Lib.hid x.cnt_eq
  clear hm hc
  obtain ⟨W1, hW1⟩ : ∃ W, W = w.alloc (.cells #[.int .u8 (x.k : Int), .int .i64 x.n, .string (S x.t), .slice a x.ns.length ca, .slice b m cb] 26) := ⟨_, rfl⟩
  have V1 : VAt w.heap.size W1 (.int .u8 (x.k : Int)) (.int .i64 x.n) (.string (S x.t)) (.slice a x.ns.length ca) (.slice b m cb) := by rw [hW1]; exact VAt.new ..
  have b1 : Below w.heap.size w W1 := by rw [hW1]; exact (Below.refl _ _).alloc (Nat.le_refl _) _
  go_enter Tryz.func33, Tryz.ntmps33
  go_wp2_with fail
  rw [← hW1]
  clear hW1
  go_loopw [3, 4] (fun nv iv wr => ∃ i : Nat, iv = .int .i64 (i : Int) ∧ i ≤ m ∧ nv = .int .i64 ((1 + JV.cnts (x.is.take i) : Nat) : Int) ∧ Below W1.heap.size W1 wr) (fun _ iv _ => m - (intOf iv).toNat)
  case atStart => exact ⟨0, rfl, Nat.zero_le _, rfl, Below.refl _ _⟩
  case round =>
    obtain ⟨i, rfl, hi, rfl, hW⟩ := hrel
    have V2 := V1.below hW
    obtain ⟨⟨p0, p1, p2, p3, p4⟩, _⟩ := V2.cells
    have hbr : Hid (Below w.heap.size w wr) := b1.trans (hW.mono b1.size)
    by_cases hlt : (i : Int) < (m : Int)
    · obtain ⟨y, hy⟩ : ∃ y, x.is[i]? = some y := ⟨x.is[i]'(by have := HM.out; omega), List.getElem?_eq_getElem _⟩
      obtain ⟨blk, off, rfl, hII⟩ := items_at hI hy
      obtain ⟨c0, c1, c2, c3, c4, g0, g1, g2, g3, g4, hcy⟩ := (HI.below hbr.out _ _ _ hII).get hy
      have hcnt := x.cnt_eq
      have hs := JV.cnts_take_le x.is (i + 1)
      have hsn : Hid (JV.cnts (x.is.take (i + 1)) = JV.cnts (x.is.take i) + y.cnt) := by rw [Hid, JV.take_snoc hy, JV.cnts_snoc]
      have hyc := JV.cnts_get hy
      have cY := ih y (by omega) (by omega) wr _ ⟨_, rfl, hcy⟩
      obtain ⟨A, hA⟩ : ∃ A : Nat, 1 + JV.cnts (x.is.take i) = A := ⟨_, rfl⟩
      obtain ⟨Y, hY⟩ : ∃ Y : Nat, y.cnt = Y := ⟨_, rfl⟩
      have hAY : (A : Int) + (Y : Int) ≤ 90000 := by have := hsn.out; omega
      rw [hA]
      rw [hY] at cY
      have HA := Lib.hid hA
      have HY := Lib.hid hY
      clear hcnt hs hyc hy hcy hII hA hY
      go_wp2_with fail
      refine cY.mono ?_; rintro e w2 ⟨rfl, b2⟩
      go_wp2_with fail
      go_roundw
      case rel =>
        refine ⟨i + 1, by go_num, by omega, ?_, hW.trans (b2.mono hW.size)⟩
        rw [hsn.out, ← HA.out, HY.out]
        congr 1
        omega
      case measure => simp [intOf]; omega
    · obtain rfl : i = m := by omega
      have hall : x.is.take i = x.is := by rw [← HM.out]; exact List.take_length
      rw [hall, ← HCn.out]
      go_wp2_with fail
      go_ret
      exact ⟨rfl, hbr.out⟩
end Go.Proofs.YtpifbmcgadjhbaaGreatDoor
