/-
  What Sum comes to, the method and the function, and Digest.
-/
import Derived.Test.YtnlkmbbgcellfaaDoorShaPut
import Derived.OwnWalk
import Derived.Deep.AppendLies
namespace Go.Proofs.YtnlkmbbgcellfaaDoor
open Go.RowKit

namespace Sm
/-- the four bytes of a word -/
def wb (x : Nat) : List UInt8 := [UInt8.ofNat (x / 16777216), UInt8.ofNat (x / 65536), UInt8.ofNat (x / 256), UInt8.ofNat x]
def outK (l : List Nat) (k : Nat) : List UInt8 := (l.take k).flatMap wb
def out (s : St) : List UInt8 := outK s.list 8
def sha (l : List UInt8) : List UInt8 := out (state (l ++ pad l.length))
theorem outK_succ (l : List Nat) (k : Nat) (h : k < l.length) : outK l (k + 1) = outK l k ++ wb (nth l k) := by
  unfold outK
  rw [List.take_succ_eq_append_getElem h, List.flatMap_append]
  simp [nth, h]
theorem outK_length (l : List Nat) (k : Nat) (h : k ≤ l.length) : (outK l k).length = 4 * k := by
  induction k with
  | zero => rfl
  | succ k ih => rw [outK_succ l k h, List.length_append, ih (by omega)]; simp [wb]; omega
theorem sha_length (l : List UInt8) : (sha l).length = 32 := by unfold sha out; rw [outK_length _ _ (by rw [list_length]; omega)]
end Sm
theorem V_wb (l : List UInt8) (x : Nat) : V (l ++ Sm.wb x) = V l ++ [.int .u8 ((x : Int) / 16777216 % 256), .int .u8 ((x : Int) / 65536 % 256), .int .u8 ((x : Int) / 256 % 256), .int .u8 ((x : Int) % 256)] := by
  simp [V, Sm.wb, UInt8.toNat_ofNat']
theorem wpList_load_state {ops : Array Oper} {rl : List Oper} {op : Oper} {a : Act} {w : World} {Q : Exit → Act → World → Prop} (hgd : op.guard = none) (x : Operand) (ho : op.op = .load 46 x)
    (b : Nat) (s : Sm.St) (rest : List UInt8) (n : Nat) (hx : a.eval x = .pointer (some ⟨b, 0, none⟩))
    (hg : w.heap[b]? = some (.cells (HC s rest n) 49 (0, 0))) (h : wpList Tryd.prog ops Q rl (a.put op.dst (.agg (AR s.list))) w) : wpList Tryd.prog ops Q (op :: rl) a w :=
  wpList_plain hgd fun _ hK => op_load ho hx (run_load_state w b s rest n hg) (hK _ _ h)
theorem Glob.lt0 {w : World} (h : Glob w) : 1 < w.heap.size := by
  obtain ⟨⟨t, fr, hi⟩, _⟩ := h
  exact (Array.getElem?_eq_some_iff.1 hi).1
theorem Glob.below {B : Nat} {w w' : World} (h : Glob w) (hb : Below B w w') (h0 : 1 < B) (h1 : 2 < B) : Glob w' := by
  obtain ⟨⟨t, fr, hi⟩, ⟨u, gr, ha⟩⟩ := h
  exact ⟨⟨t, fr, (hb.block _ h0).trans hi⟩, ⟨u, gr, (hb.block _ h1).trans ha⟩⟩

set_option maxRecDepth 100000 in
set_option maxHeartbeats 800000 in
theorem sum_any (b : Nat) (l : List UInt8) (w : World) (h : Hs w b l) (hG : Glob w) (hl : l.length ≤ 900000000) :
    Calls Tryd.prog 25 #[.pointer (some ⟨b, 0, none⟩)] w fun e w' => e = .returned (.string (S (Sm.sha l))) ∧ Below w.heap.size w w' := by
  have hbl := h.lt
  have hc : w.cell? ⟨b, 72, none⟩ = some (.int .i64 (l.length : Int)) := by
    obtain ⟨s, rest, h1, h2, _⟩ := h
    rw [cell_of_row w b 72 _ _ _ h1, HC_n _ _ _ h2]
  have h0 := hG.lt0
  have h1 := hG.2.lt
  obtain ⟨i0, hi0, hz0, hz1, hz2⟩ := info_parts info5
  go_enter Tryd.func25, Tryd.ntmps25
  go_wp2_with fail
  refine (copy_any b l _ h).mono ?_; rintro e w1 ⟨rfl, hh1, hb1⟩
  have hc1 := (hb1.cell (p := ⟨b, 72, none⟩) hbl).trans hc
  go_wp2_with fail
  refine (padding_any l.length _ (by omega)).mono ?_; rintro e w2 ⟨rfl, hb2⟩
  go_wp2_with fail
  have hb02 : Below w.heap.size w w2 := hb1.trans (hb2.mono hb1.size)
  have hh2 := hh1.below hb2 hh1.lt
  refine (write_any w.heap.size l (S (Sm.pad l.length)) w2 hh2 (hG.below hb02 h0 h1) (by omega) (by omega) (by rw [S_size, Sm.pad_length]; have := Sm.plen_bd l.length; omega)).mono ?_; rintro e w3 ⟨rfl, hh3, hk3⟩
  rw [S_data] at hh3
  have hb3 : Below w.heap.size w w3 := Kp.below hb02 hk3 (Nat.le_refl _)
  clear hb02 hb2 hb1 hk3 hh2 hh1 hc1 hc
  obtain ⟨s, rest, hx, hr, _, hs⟩ := hh3
  have hs' := hs (by simp [Sm.pad])
  have HS : Hid (Sm.sha l = Sm.out s) := by rw [hs']; rfl
  have HX := Lib.hid hx
  clear hx hs hs'
  go_wp2_with (refine wpList_load_state (by rfl) _ (by rfl) w.heap.size s rest _ (by rfl) HX.out ?_)
  go_loopw [4, 6, 22] (fun v _ i wr => ∃ k : Nat, k ≤ 8 ∧ i = .int .i64 k ∧ wr.ownsRow w.heap.size 5 1 v (4 * k) (V (Sm.outK s.list k)) ∧ Below w.heap.size w wr) (fun _ _ i _ => 8 - (intOf i).toNat)
  case atStart => exact ⟨0, by omega, rfl, ⟨rfl, .inl ⟨rfl, rfl⟩⟩, hb3⟩
  case round =>
    clear hb3 HX
    obtain ⟨k, hk, rfl, hown, hbel⟩ := hrel
    have hsz := hbel.size
    by_cases hlt : k < 8
    · have hi := fun w => idx_AR8 s.list w k rfl hlt
      obtain ⟨x, hx⟩ : ∃ x, x = Sm.nth s.list k := ⟨_, rfl⟩
      have HO : Hid (V (Sm.outK s.list (k + 1)) = V (Sm.outK s.list k) ++ [.int .u8 ((x : Int) / 16777216 % 256), .int .u8 ((x : Int) / 65536 % 256), .int .u8 ((x : Int) / 256 % 256), .int .u8 ((x : Int) % 256)]) := by
        rw [Sm.outK_succ _ _ (by rw [Sm.list_length]; exact hlt), ← hx]; exact V_wb _ _
      rw [← hx] at hi
      clear hx
      go_wp2_with (at_builtin; refine wpList_append_own _ rfl _ _ 31 rfl w.heap.size 5 i0 (.int .u8 0) 1 1 Tryd.underlying31 hi0 hz0 hz1 hz2 rfl (by decide) _ _ _ rfl (hown.alloc _) ⟨wr.heap.size, 0, none⟩ 4 4 [.int .u8 ((x : Int) / 16777216 % 256), .int .u8 ((x : Int) / 65536 % 256), .int .u8 ((x : Int) / 256 % 256), .int .u8 ((x : Int) % 256)] rfl rfl (World.news_of_block (cs := #[.int .u8 ((x : Int) / 16777216 % 256), .int .u8 ((x : Int) / 65536 % 256), .int .u8 ((x : Int) / 256 % 256), .int .u8 ((x : Int) % 256)]) (t := 5) (fr := (0, 0)) (heap_alloc_new wr _)) (by simp [Value.oneCell']) (by unfold maxLen; omega) (by omega) (by simp; omega) ?_; intro v' w2 hown1 hgrow _)
      have hb2 : Below w.heap.size w w2 := (hbel.alloc hsz _).grown hgrow (by simp <;> omega) (fun g e => (hown.lt _ e).1)
      clear hgrow hown
      go_wp2
      go_roundw
      case rel => exact ⟨k + 1, by omega, by go_num, by rw [HO.out]; exact hown1, hb2⟩
      case measure => simp [intOf]; omega
    · obtain rfl : k = 8 := by omega
      have hcv := conv_own wr w.heap.size _ (Sm.out s) (by unfold Sm.out; rw [Sm.outK_length _ _ (by rw [Sm.list_length]; omega)]; exact hown)
      clear hown
      go_wp2
      go_ret
      exact ⟨ret_str (by rw [HS.out]), hbel⟩

set_option maxRecDepth 100000 in
set_option maxHeartbeats 800000 in
theorem fsum_any (t : ByteArray) (w : World) (hG : Glob w) (hl : t.size ≤ 900000000) :
    Calls Tryd.prog 16 #[.string t] w fun e w' => e = .returned (.string (S (Sm.sha t.data.toList))) ∧ Below w.heap.size w w' := by
  have h0 := hG.lt0
  have h1 := hG.2.lt
  go_enter Tryd.func16, Tryd.ntmps16
  go_wp2_with fail
  refine (new_any _).mono ?_; rintro e w1 ⟨rfl, hh1, hb1⟩
  go_wp2_with fail
  refine (write_any w.heap.size [] t w1 hh1 (hG.below hb1 h0 h1) (by omega) (by omega) (by simp; omega)).mono ?_; rintro e w2 ⟨rfl, hh2, hk2⟩
  rw [List.nil_append] at hh2
  have hb2 : Below w.heap.size w w2 := Kp.below hb1 hk2 (Nat.le_refl _)
  go_wp2_with fail
  refine (sum_any w.heap.size _ w2 hh2 (hG.below hb2 h0 h1) (by simp; omega)).mono ?_; rintro e w3 ⟨rfl, hb3⟩
  go_wp2_with fail
  go_ret
  exact ⟨rfl, hb2.trans (hb3.mono hb2.size)⟩
end Go.Proofs.YtnlkmbbgcellfaaDoor
