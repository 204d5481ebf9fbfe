/-
  What hex.value and the document's Value and digit come to, of any byte.
-/
import Derived.Test.YtpifbmcgadjhbaaGreatDoorHexMath
import Derived.Test.YtpifbmcgadjhbaaGreatDoorBase
namespace Go.Proofs.YtpifbmcgadjhbaaGreatDoor
open Go.RowKit

theorem ret_val {k : IntKind} {a a' : Int} {b b' : Bool} (h : a = a') (g : b = b') : Ending.returned (.tuple #[.int k a, .bool b]) = .returned (.tuple #[.int k a', .bool b']) := by rw [h, g]

set_option maxHeartbeats 400000 in
theorem refValue_any (c : Int) (w : World) (h0 : 0 ≤ c) (h1 : c ≤ 255) :
    Calls Tryz.prog 145 #[.int .u8 c] w fun e w' => e = .returned (.int .i64 (Hm.dv c)) ∧ w = w' := by
  by_cases ha : 48 ≤ c <;> by_cases hb : c ≤ 57 <;> by_cases hc : 97 ≤ c <;> by_cases hd : c ≤ 102
  all_goals first | (exfalso; omega) | skip
  all_goals
    go_enter Tryz.func145, Tryz.ntmps145
    go_wp2
    go_ret
    exact ⟨ret_int (by unfold Hm.dv; omega), rfl⟩

/-- THE TABLE's SIXTEEN CELLS. -/
def TAB : Array Value := #[.int .u8 48, .int .u8 49, .int .u8 50, .int .u8 51, .int .u8 52, .int .u8 53, .int .u8 54, .int .u8 55, .int .u8 56, .int .u8 57, .int .u8 97, .int .u8 98, .int .u8 99, .int .u8 100, .int .u8 101, .int .u8 102]
def Tab (w : World) : Prop := ∃ t fr, w.heap[8]? = some (.cells TAB t fr)
theorem TAB_at (k : Nat) (h : k < 16) : TAB[k]? = some (.int .u8 (Hm.dg k)) := by
  obtain rfl | rfl | rfl | rfl | rfl | rfl | rfl | rfl | rfl | rfl | rfl | rfl | rfl | rfl | rfl | rfl : k = 0 ∨ k = 1 ∨ k = 2 ∨ k = 3 ∨ k = 4 ∨ k = 5 ∨ k = 6 ∨ k = 7 ∨ k = 8 ∨ k = 9 ∨ k = 10 ∨ k = 11 ∨ k = 12 ∨ k = 13 ∨ k = 14 ∨ k = 15 := by omega
  all_goals rfl
theorem Tab.cell {w : World} (h : Tab w) (k : Nat) (hk : k < 16) : w.cell? ⟨8, k, none⟩ = some (.int .u8 (Hm.dg k)) := by
  obtain ⟨t, fr, h⟩ := h
  rw [cell_of_row w _ k TAB t fr h, TAB_at k hk]
theorem Tab.lt {w : World} (h : Tab w) : 8 < w.heap.size := by
  obtain ⟨t, fr, h⟩ := h
  exact (Array.getElem?_eq_some_iff.1 h).1
theorem Tab.below {B : Nat} {w w' : World} (h : Tab w) (hb : Below B w w') (hB : 8 < B) : Tab w' := by
  obtain ⟨t, fr, h⟩ := h
  exact ⟨t, fr, (hb.block _ hB).trans h⟩
theorem idx_tab (w : World) (k : Nat) (h : k < 16) : (Instr.index 220 (.agg TAB) (.int .i64 (k : Int))).run Tryz.prog w = .ok (.int .u8 (Hm.dg k)) w := by
  obtain rfl | rfl | rfl | rfl | rfl | rfl | rfl | rfl | rfl | rfl | rfl | rfl | rfl | rfl | rfl | rfl : k = 0 ∨ k = 1 ∨ k = 2 ∨ k = 3 ∨ k = 4 ∨ k = 5 ∨ k = 6 ∨ k = 7 ∨ k = 8 ∨ k = 9 ∨ k = 10 ∨ k = 11 ∨ k = 12 ∨ k = 13 ∨ k = 14 ∨ k = 15 := by omega
  all_goals kernel_rfl

set_option maxHeartbeats 400000 in
theorem value_any (c : Int) (w : World) (hT : Tab w) :
    Calls Tryz.prog 209 #[.int .u8 c] w fun e w' => e = .returned (.tuple #[.int .i64 (Hm.hv c), .bool (Hm.isD c)]) ∧ w = w' := by
  obtain ⟨t, fr, hg⟩ := hT
  have H : Hid (w.heap[8]? = some (.cells TAB t fr)) := hg
  clear hg
  go_enter Tryz.func209, Tryz.ntmps209
  go_wp2_with (refine wpList_load_row rfl 220 _ rfl 8 rfl t _ fr _ H.out Tryz.underlying220 rfl (by kernel_rfl) ?_)
  go_loop [4, 5, 7] (fun _ _ i => ∃ k : Nat, k ≤ 16 ∧ i = .int .i64 k ∧ ∀ j, j < k → c ≠ Hm.dg j) (fun _ _ i => 16 - (intOf i).toNat)
  case atStart => exact ⟨0, by omega, rfl, fun j hj => by omega⟩
  case round =>
    obtain ⟨k, hk, rfl, hno⟩ := hrel
    have HN := Lib.hid hno
    clear hno
    by_cases hlt : k < 16
    · have hi := fun w => idx_tab w k hlt
      have hb := Hm.dg_bd k hlt
      by_cases he : c = Hm.dg k
      · have hE := Lib.hid he
        have he' : (c == Hm.dg k) = true := by simpa using he
        clear he
        go_wp2
        go_ret2
        exact ⟨ret_val (Hm.dg_hit c k hlt hE.out).2.symm (Hm.dg_hit c k hlt hE.out).1.symm, rfl⟩
      · have hE := Lib.hid he
        have he' : (c == Hm.dg k) = false := by simpa using he
        clear he
        go_wp2
        go_round
        case rel =>
          refine ⟨k + 1, by omega, by go_num, fun j hj => ?_⟩
          by_cases h : j = k
          · rw [h]; exact hE.out
          · exact HN.out j (by omega)
        case measure => simp [intOf]; omega
    · go_wp2
      go_ret2
      have hn := Hm.dg_none c (fun j hj => HN.out j (by omega))
      exact ⟨ret_val hn.2.symm hn.1.symm, rfl⟩
/-- the text of one digit -/
def dgs (n : Int) : List UInt8 := [UInt8.ofNat (Hm.dg n.toNat).toNat]
theorem conv1 (w : World) (x : Int) (h0 : 0 ≤ x) (h1 : x ≤ 255) :
    (convert 36 9 (.slice (some ⟨w.heap.size, 0, none⟩) 1 1)).run Tryz.prog (w.alloc (.cells #[.int .u8 x] 5)) = .ok (.string (S [UInt8.ofNat x.toNat])) (w.alloc (.cells #[.int .u8 x] 5)) := by
  have h := run_convert_bytes_back (P := Tryz.prog) (w.alloc (.cells #[.int .u8 x] 5)) 36 9 5 ⟨w.heap.size, 0, none⟩ 1 [UInt8.ofNat x.toNat] Tryz.underlying36 Tryz.underlying5 Tryz.underlying9 ?_
  · exact h
  · intro j hj
    obtain rfl : j = 0 := by simpa using hj
    rw [show (⟨w.heap.size, 0, none⟩ : Addr).add 0 = ⟨w.heap.size, 0, none⟩ from rfl, World.cell?_alloc_mark]
    have : (x.toNat) % 256 = x.toNat := by omega
    simp [this]
    omega
end Go.Proofs.YtpifbmcgadjhbaaGreatDoor
