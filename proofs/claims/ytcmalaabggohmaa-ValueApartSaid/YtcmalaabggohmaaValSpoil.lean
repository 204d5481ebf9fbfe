/-
  What the law's spoil leaves: nothing but texts in the value's own blocks has been written.
-/
import Derived.Test.YtcmalaabggohmaaValSpo
import Derived.Test.YtcmalaabggohmaaValRefDep
namespace Go.Proofs.Ytcmalaabggohmaa
open Go.RowKit

theorem fivew {P : Nat → Prop} {w : World} {c0 c1 c2 c3 c4 : Value} {y : JV} (h : HCw P w [c0, c1, c2, c3, c4] y) : ∃ s a b ca cb, c0 = .int .u8 (y.k : Int) ∧ c1 = .int .i64 y.n ∧ c2 = .string s ∧ c3 = .slice a y.ns.length ca ∧ c4 = .slice b y.is.length cb := by
  obtain ⟨s, a, b, ca, cb, hcs, _⟩ := h.one
  simp only [List.cons.injEq, and_true] at hcs
  exact ⟨s, a, b, ca, cb, hcs.1, hcs.2.1, hcs.2.2.1, hcs.2.2.2.1, hcs.2.2.2.2⟩
set_option maxHeartbeats 1000000 in
set_option maxRecDepth 3000 in
theorem spoil_any (P : Nat → Prop) : ∀ (K : Nat) (x : JV), x.cnt ≤ K → ∀ (w : World) (cs : List Value), HCw P w cs x → (∀ b, P b → b < w.heap.size) →
    Calls Try.prog 32 #[.agg cs.toArray] w fun e w' => e = .returned (.tuple #[]) ∧ Sp P w w' := by
  intro K
  induction K with
  | zero => intro x h; have := x.cnt_pos; omega
  | succ K ih =>
  intro x hK w cs hc hP
  obtain ⟨s, a, b, ca, cb, rfl, hB, hnl, hN, hI⟩ := hc.one
  obtain ⟨m, hm⟩ : ∃ m, x.is.length = m := ⟨_, rfl⟩
  obtain ⟨r, hr⟩ : ∃ m, x.ns.length = m := ⟨_, rfl⟩
  have hm2 : (m : Int) ≤ 9223372036854775807 := by have := hB.2.2.2.2.1; unfold maxLen at this; omega
  have hr2 : (r : Int) ≤ 9223372036854775807 := by unfold maxLen at hnl; omega
  rw [hm, hr]
  have HM := Lib.hid hm
  have HR := Lib.hid hr
  have HKK : Hid (∀ (i : Nat) y, x.is[i]? = some y → y.cnt ≤ K) := fun i y hy => by have := JV.cnt_item hy; omega
  have HPP := Lib.hid hP
  obtain ⟨kI, hk⟩ : ∃ k : Int, k = (x.k : Int) := ⟨_, rfl⟩
  obtain ⟨nI, hn⟩ : ∃ k : Int, k = x.n := ⟨_, rfl⟩
  rw [← hk, ← hn]
  have hnl' : Hid (x.ns = [] ∨ ∃ blk off, a = some ⟨blk, off, none⟩ ∧ P blk ∧ ∀ i, i < x.ns.length → (∃ s : ByteArray, w.cell? ⟨blk, off + i, none⟩ = some (.string s)) ∧ w.frozen? ⟨blk, off + i, none⟩ = false) := hN
  have hI' : Hid (x.is = [] ∨ ∃ blk off, b = some ⟨blk, off, none⟩ ∧ P blk ∧ HIw P w blk off x.is) := hI
  clear hm hr hk hn hc hB hN hI hP hnl
  obtain ⟨W1, hW1⟩ : ∃ W, W = w.alloc (.cells #[.int .u8 kI, .int .i64 nI, .string s, .slice a r ca, .slice b m cb] 25) := ⟨_, rfl⟩
  have b1 : Below w.heap.size w W1 := by rw [hW1]; exact (Below.refl _ _).alloc (Nat.le_refl _) _
  have V1 : VAt w.heap.size W1 (.int .u8 kI) (.int .i64 nI) (.string s) (.slice a r ca) (.slice b m cb) := by rw [hW1]; exact VAt.new ..
  have S1 : Hid (Sp P w W1) := Sp.of_below b1
  have VV : Hid (∀ W, Sp P W1 W → VAt w.heap.size W (.int .u8 kI) (.int .i64 nI) (.string s) (.slice a r ca) (.slice b m cb)) := fun W h => (h.out _ (by have := (Array.getElem?_eq_some_iff.1 V1).1; exact this) (fun hp => by have := HPP.out _ hp; omega)).trans V1
  clear b1 V1
  go_enter Try.func32, Try.ntmps32
  go_wp2_with fail
  rw [← hW1]
  clear hW1
  go_loopw [2] (fun iv wr => ∃ i : Nat, iv = .int .i64 (i : Int) ∧ i ≤ r ∧ Hid (Sp P W1 wr)) (fun iv _ => r - (intOf iv).toNat)
  case atStart => exact ⟨0, rfl, Nat.zero_le _, Sp.refl _ _⟩
  case round =>
    obtain ⟨i, rfl, hi, hW⟩ := hrel
    obtain ⟨⟨p0, p1, p2, p3, p4⟩, _⟩ := (VV.out wr hW.out).cells
    by_cases hlt : (i : Int) < (r : Int)
    · obtain ⟨blk, off, rfl, hp, hx⟩ : ∃ blk off, a = some ⟨blk, off, none⟩ ∧ P blk ∧ ∀ i, i < x.ns.length → (∃ s : ByteArray, w.cell? ⟨blk, off + i, none⟩ = some (.string s)) ∧ w.frozen? ⟨blk, off + i, none⟩ = false := by
        rcases hnl'.out with h | h
        · have := HR.out
          rw [h] at this
          simp at this
          omega
        · exact h
      obtain ⟨⟨s0, g0⟩, gf⟩ := hx i (by have := HR.out; omega)
      have hsw := S1.out.trans hW.out
      obtain ⟨d, g1, g2⟩ := hsw.cell _ _ _ hp g0
      obtain ⟨s1, rfl⟩ : ∃ s1, d = .string s1 := by
        rcases g2 with rfl | ⟨_, t, _, rfl⟩
        · exact ⟨_, rfl⟩
        · exact ⟨_, rfl⟩
      have gf1 := (hsw.froz blk (off + i) hp (World.block_lt_of_cell? w _ g0)).trans gf
      have S2 : Hid (Sp P W1 (wr.setCell ⟨blk, off + i, none⟩ (.string ⟨#[115, 112, 111, 105, 108, 116]⟩))) := hW.out.trans (Sp.set hp g1 _)
      clear hx g0 gf hsw g2 hp
      go_wp2_with fail
      go_roundw
      case rel => exact ⟨i + 1, by go_num, by omega, S2⟩
      case measure => simp [intOf]; omega
    · go_wp2_with fail
      clear p0 p1 p2 p3 p4
      go_loopw [3] (fun iv w2 => ∃ i : Nat, iv = .int .i64 (i : Int) ∧ i ≤ m ∧ Hid (Sp P W1 w2)) (fun iv _ => m - (intOf iv).toNat)
      case atStart => exact ⟨0, rfl, Nat.zero_le _, hW⟩
      case round =>
        obtain ⟨j, rfl, hj, hW2⟩ := hrel
        obtain ⟨⟨p0, p1, p2, p3, p4⟩, _⟩ := (VV.out _ hW2.out).cells
        by_cases hlt2 : (j : Int) < (m : Int)
        · obtain ⟨blk, off, rfl, hp, hx⟩ : ∃ blk off, b = some ⟨blk, off, none⟩ ∧ P blk ∧ HIw P w blk off x.is := by
            rcases hI'.out with h | h
            · have := HM.out
              rw [h] at this
              simp at this
              omega
            · exact h
          obtain ⟨y, hy⟩ : ∃ y, x.is[j]? = some y := ⟨x.is[j]'(by have := HM.out; omega), List.getElem?_eq_getElem _⟩
          have HX : Hid (∀ W, Sp P W1 W → HIw P W blk off x.is) := fun W h => HIw.sp (S1.out.trans h) _ _ _ hp hx
          obtain ⟨c0, c1, c2, c3, c4, g0, g1, g2, g3, g4, gf, hcy⟩ := (HX.out _ hW2.out).get hy
          have hcy0 := hcy
          obtain ⟨s0, ya, yb, yca, ycb, rfl, rfl, rfl, rfl, rfl⟩ := fivew hcy
          have cY := ih y (HKK.out j y hy) _ _ hcy0 (fun b hb => Nat.lt_of_lt_of_le (HPP.out b hb) (S1.out.trans hW2.out).size)
          have HP2 := Lib.hid hp
          have HY2 := Lib.hid hy
          clear hcy hcy0 hx hy hp
          go_wp2_with fail
          refine cY.mono ?_; rintro e w3 ⟨rfl, hS3⟩
          have hW3 : Hid (Sp P W1 w3) := hW2.out.trans hS3
          clear g0 g1 g2 g3 g4 gf cY hS3 p0 p1 p2 p3 p4
          obtain ⟨c0, c1, c2, c3, c4, g0, g1, g2, g3, g4, gf, hcy⟩ := (HX.out _ hW3.out).get HY2.out
          obtain ⟨s0, ya, yb, yca, ycb, rfl, rfl, rfl, rfl, rfl⟩ := fivew hcy
          obtain ⟨⟨p0, p1, p2, p3, p4⟩, _⟩ := (VV.out _ hW3.out).cells
          have S4 : Hid (Sp P W1 (w3.setCell ⟨blk, off + j * 5 + 2, none⟩ (.string ⟨#[115, 112, 111, 105, 108, 116]⟩))) := hW3.out.trans (Sp.set HP2.out g2 _)
          clear hcy
          go_wp2_with fail
          go_roundw
          case rel => exact ⟨j + 1, by go_num, by omega, S4⟩
          case measure => simp [intOf]; omega
        · go_wp2_with fail
          refine bodyPost_end (v := .tuple #[]) (results_none rfl _ _ _) rfl ?_
          exact ⟨rfl, S1.out.trans hW2.out⟩
end Go.Proofs.Ytcmalaabggohmaa
