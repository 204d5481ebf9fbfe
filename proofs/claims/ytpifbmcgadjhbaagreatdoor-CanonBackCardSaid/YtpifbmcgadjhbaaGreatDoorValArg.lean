/-
  A value that a call was handed, opened: it is a tree that lies in memory.
-/
import Derived.Test.YtpifbmcgadjhbaaGreatDoorFrame
import Derived.Test.YtpifbmcgadjhbaaGreatDoorValTree
import Derived.Deep.Slices
namespace Go.Proofs.YtpifbmcgadjhbaaGreatDoor
open Go.ChangeShapes Go.WideShapes Go.ChangeAt Go.RowKit Go.WideElems Go.Deep
open Go.ChangeMaps (open_string shut_string)

theorem cellsVal : Tryz.prog.cellsOf 26 = 5 := by kernel_rfl
theorem cellsI8 : Tryz.prog.cellsOf 5 = 1 := by kernel_rfl
theorem cellsI64 : Tryz.prog.cellsOf 2 = 1 := by kernel_rfl
theorem cellsSl1 : Tryz.prog.cellsOf 23 = 1 := by kernel_rfl
theorem cellsSl2 : Tryz.prog.cellsOf 24 = 1 := by kernel_rfl
theorem list5 {α : Type} {cs : List α} (h : cs.length = 5) : ∃ c0 c1 c2 c3 c4, cs = [c0, c1, c2, c3, c4] := by
  match cs, h with
  | [c0, c1, c2, c3, c4], _ => exact ⟨c0, c1, c2, c3, c4, rfl⟩
section
variable {H : Type} {enc : TypeId × Value → H} {W : World} {base : Nat} {spare : Nat → Bool} {held : Bool}
theorem HI.build {blk : Nat} : ∀ (m off : Nat), (∀ i, i < m → ∃ c0 c1 c2 c3 c4 y, W.cell? ⟨blk, off + i * 5, none⟩ = some c0 ∧ W.cell? ⟨blk, off + i * 5 + 1, none⟩ = some c1 ∧ W.cell? ⟨blk, off + i * 5 + 2, none⟩ = some c2 ∧ W.cell? ⟨blk, off + i * 5 + 3, none⟩ = some c3 ∧ W.cell? ⟨blk, off + i * 5 + 4, none⟩ = some c4 ∧ HC W [c0, c1, c2, c3, c4] y) →
    ∃ is : List JV, is.length = m ∧ HI W blk off is
  | 0, off, _ => ⟨[], rfl, by unfold HI; trivial⟩
  | m + 1, off, h => by
    obtain ⟨c0, c1, c2, c3, c4, y, g0, g1, g2, g3, g4, hy⟩ := h 0 (by omega)
    rw [Nat.zero_mul, Nat.add_zero] at g0 g1 g2 g3 g4
    obtain ⟨is, hl, hi⟩ := HI.build m (off + 5) (fun i hi => by
      have := h (i + 1) (by omega)
      rw [show off + (i + 1) * 5 = off + 5 + i * 5 by omega] at this
      exact this)
    refine ⟨y :: is, by rw [List.length_cons, hl], ?_⟩
    unfold HI
    exact ⟨⟨c0, c1, c2, c3, c4, g0, g1, g2, g3, g4, hy⟩, hi⟩
set_option maxRecDepth 10000 in
theorem open_val : ∀ (fuel : Nat) (cs : List Value) (x : DataW H × List MemPlace), DataW.trod enc Tryz.prog W base spare held fuel 26 cs = some x → ∃ y : JV, HC W cs y := by
  intro fuel
  induction fuel using Nat.strongRecOn with
  | _ fuel ih =>
  intro cs x h
  obtain ⟨xs, n, hn, _, hl, hxl, hf⟩ := DataW.trod_struct Tryz.underlying26 h
  rw [cellsVal] at hl
  obtain ⟨c0, c1, c2, c3, c4, rfl⟩ := list5 hl
  obtain ⟨y0, y1, y2, y3, y4, rfl⟩ := list5 (show xs.length = 5 from hxl)
  have f0 := hf 0 _ rfl
  have f1 := hf 1 _ rfl
  have f2 := hf 2 _ rfl
  have f3 := hf 3 _ rfl
  have f4 := hf 4 _ rfl
  simp [cellsI8, cellsI64, cellsStr, cellsSl1, cellsSl2] at f0 f1 f2 f3 f4
  obtain ⟨kI, e0, _, b0⟩ := DataW.trod_int Tryz.underlying5 f0
  obtain ⟨nI, e1, _, b1⟩ := DataW.trod_int Tryz.underlying2 f1
  obtain ⟨s, e2, _, b2⟩ := DataW.trod_string Tryz.underlying9 f2
  obtain ⟨l, rfl⟩ := as_S s
  simp only [List.cons.injEq, and_true] at e0 e1 e2
  subst e0 e1 e2
  simp [Lit.wf, IntKind.min, IntKind.max, IntKind.signed, IntKind.bits] at b0 b1
  rw [S_size] at b2
  obtain ⟨a, ca, ns, e3, hna, hnb, hnl⟩ : ∃ (a : Option Addr) (ca : Nat) (ns : List (List UInt8)), c3 = .slice a ns.length ca ∧ NS W a ns ∧ (∀ x ∈ ns, x.length ≤ maxLen) ∧ ns.length ≤ maxLen := by
    rcases open_strs Tryz.underlying23 Tryz.underlying9 cellsStr f3 with ⟨hcs, _⟩ | ⟨a, len', cap', m, Sx, hcs, _, hle, hm, hmm, _, hcell⟩
    · simp only [List.cons.injEq, and_true] at hcs
      exact ⟨none, 0, [], hcs, fun i x hx => by simp at hx, fun x hx => by simp at hx, Nat.zero_le _⟩
    · simp only [List.cons.injEq, and_true] at hcs
      have hml : len' ≤ m := by rw [hmm]; split <;> omega
      refine ⟨some a, cap', (List.range len').map fun i => (Sx i).data.toList, by simpa using hcs, fun i x hx => ?_, fun x hx => ?_, by simpa using Nat.le_trans hle hm⟩
      · have hi : i < len' := by
          have := (List.getElem?_eq_some_iff.1 hx).1
          simpa using this
        obtain ⟨b, off, spot⟩ := a
        have hspot : spot = none := by simpa [Addr.add] using World.cell?_spot (hcell 0 (by omega)).1
        subst hspot
        refine ⟨b, off, rfl, ?_⟩
        have hx2 : (Sx i).data.toList = x := by simpa [hi] using hx
        rw [← hx2, S_of, ← add_plain]
        exact (hcell i (by omega)).1
      · obtain ⟨i, hi, rfl⟩ := List.mem_map.1 hx
        have hi2 := List.mem_range.1 hi
        exact (hcell i (by omega)).2
  subst e3
  obtain ⟨b, cb, is, e4, hib, hil⟩ : ∃ (b : Option Addr) (cb : Nat) (is : List JV), c4 = .slice b is.length cb ∧ (is = [] ∨ ∃ blk off, b = some ⟨blk, off, none⟩ ∧ HI W blk off is) ∧ is.length ≤ maxLen := by
    rcases DataW.trod_slice Tryz.underlying24 f4 with ⟨hcs, _⟩ | ⟨a, len, cap, elems, rest, n', hn', hcs, _, _, hle, hm, helen, hel, _, _⟩
    · simp only [List.cons.injEq, and_true] at hcs
      exact ⟨none, 0, [], hcs, .inl rfl, Nat.zero_le _⟩
    · simp only [List.cons.injEq, and_true] at hcs
      by_cases h0 : len = 0
      · subst h0
        exact ⟨some a, cap, [], hcs, .inl rfl, Nat.zero_le _⟩
      have each : ∀ i, i < len → ∃ c0 c1 c2 c3 c4 y, W.cell? (a.add (i * 5 + 0)) = some c0 ∧ W.cell? (a.add (i * 5 + 1)) = some c1 ∧ W.cell? (a.add (i * 5 + 2)) = some c2 ∧ W.cell? (a.add (i * 5 + 3)) = some c3 ∧ W.cell? (a.add (i * 5 + 4)) = some c4 ∧ HC W [c0, c1, c2, c3, c4] y := fun i hi => by
        have h1 := hel i hi
        rw [List.getElem?_eq_getElem (by omega), cellsVal] at h1
        obtain ⟨cs, hcs, htr⟩ := Option.bind_eq_some_iff.1 h1
        obtain ⟨y, hy⟩ := ih n' (by omega) cs _ htr
        obtain ⟨_, hlen, hget⟩ := World.cells?_some hcs
        obtain ⟨d0, d1, d2, d3, d4, rfl⟩ := list5 hlen
        have hadd : ∀ j, (a.add (i * 5)).add j = a.add (i * 5 + j) := fun j => by
          unfold Addr.add
          repeat' split
          all_goals simp_all
          all_goals omega
        refine ⟨d0, d1, d2, d3, d4, y, ?_, ?_, ?_, ?_, ?_, hy⟩
        · rw [← hadd]; exact hget 0 (by omega)
        · rw [← hadd]; exact hget 1 (by omega)
        · rw [← hadd]; exact hget 2 (by omega)
        · rw [← hadd]; exact hget 3 (by omega)
        · rw [← hadd]; exact hget 4 (by omega)
      obtain ⟨blk, off, spot⟩ := a
      have hspot : spot = none := by
        obtain ⟨_, _, _, _, _, _, g, _⟩ := each 0 (by omega)
        simpa [Addr.add] using World.cell?_spot g
      subst hspot
      obtain ⟨is, hil, hi⟩ := HI.build (W := W) (blk := blk) len off (fun i hi => by
        obtain ⟨c0, c1, c2, c3, c4, y, g0, g1, g2, g3, g4, hy⟩ := each i hi
        rw [add_plain] at g0 g1 g2 g3 g4
        exact ⟨c0, c1, c2, c3, c4, y, g0, g1, g2, g3, g4, hy⟩)
      exact ⟨some ⟨blk, off, none⟩, cap, is, by rw [hil]; exact hcs, .inr ⟨blk, off, rfl, hi⟩, by omega⟩
  subst e4
  refine ⟨.mk kI.toNat nI l ns is, ?_⟩
  unfold HC
  refine ⟨a, b, ca, cb, ?_, ⟨by omega, b1, b2, hnl, hil, hnb⟩, hna, hib⟩
  rw [show ((kI.toNat : Nat) : Int) = kI by omega]
set_option maxRecDepth 100000 in
/-- a value that came in -/
theorem arg_value {v : Value} {d : DataW H} {p : List MemPlace} (ho : Value.okWide Tryz.prog W .any base 26 v) (h : DataW.Trod enc Tryz.prog W 0 (fun _ => true) true 26 v d p) : ∃ y : JV, HV W v y := by
  obtain ⟨cs, rfl, _⟩ := okWide_struct Tryz.underlying26 ho
  obtain ⟨fuel, hf⟩ := h
  obtain ⟨y, hy⟩ := open_val fuel _ _ hf
  exact ⟨y, cs.toList, by simp, hy⟩
end
end Go.Proofs.YtpifbmcgadjhbaaGreatDoor
