/-
  What strings.HasPrefix (of the replacement), utf.stands, first, begins come to.
-/
import Derived.Test.YtpifbmcgadjhbaaGreatDoorUtfCnt
namespace Go.Proofs.YtpifbmcgadjhbaaGreatDoor
open Go.RowKit

theorem S_take' (R : List UInt8) (c : Nat) : (S R).extract 0 c = S (R.take c) := by
  apply ByteArray.ext
  apply Array.toList_inj.1
  simp only [S, ByteArray.data_extract, Array.toList_extract, List.extract_eq_take_drop]
  simp
theorem S_drop' (R : List UInt8) (c : Nat) : (S R).extract c R.length = S (R.drop c) := by
  apply ByteArray.ext
  apply Array.toList_inj.1
  simp only [S, ByteArray.data_extract, Array.toList_extract, List.extract_eq_take_drop]
  rw [List.take_of_length_le (by simp)]
theorem S_eq (a b : List UInt8) : ((S a).toList == (S b).toList) = (a == b) := by rw [S_toList, S_toList]
/-- s[p:] -/
theorem slice_from (l : List UInt8) (p : Nat) (h : p ≤ l.length) (w : World) :
    (Instr.slice 9 (.string (S l)) (some (.int .i64 (p : Int))) none none).run Tryz.prog w = .ok (.string (S (l.drop p))) w := by
  have hu : Tryz.prog.underlying 9 = some .string := by kernel_rfl
  rw [run_slice_string_from_if w 9 (S l) .i64 (p : Int) hu, if_pos (by rw [S_size]; omega), Int.toNat_natCast, S_size, S_drop']
/-- s[:p] -/
theorem slice_upto (l : List UInt8) (p : Nat) (h : p ≤ l.length) (w : World) :
    (Instr.slice 9 (.string (S l)) none (some (.int .i64 (p : Int))) none).run Tryz.prog w = .ok (.string (S (l.take p))) w := by
  have hu : Tryz.prog.underlying 9 = some .string := by kernel_rfl
  rw [run_slice_string_to_if w 9 (S l) .i64 (p : Int) hu, if_pos (by rw [S_size]; omega), Int.toNat_natCast, S_take']

set_option maxHeartbeats 400000 in
theorem lite_any (l : List UInt8) (w : World) (hl : l.length ≤ 100000000) :
    Calls Tryz.prog 113 #[.string (S l), .string (S [239, 191, 189])] w fun e w' => e = .returned (.bool (Um.isF l)) ∧ w = w' := by
  have z1 := S_size l
  have z2 : (S [239, 191, 189]).size = 3 := by rw [S_size]; rfl
  have hE := S_eq (l.take 3) [239, 191, 189]
  by_cases h : 3 ≤ l.length
  · have hT := S_take' l 3
    have q : (3 : Int) ≤ (l.length : Int) := by omega
    go_enter Tryz.func113, Tryz.ntmps113
    go_wp2_with fail
    go_ret
    exact ⟨ret_bool rfl, rfl⟩
  · have hF : Um.isF l = false := by
      rw [Bool.eq_false_iff]
      intro hf
      have := (Um.isF_iff l).1 hf
      omega
    have q : ¬ (3 : Int) ≤ (l.length : Int) := by omega
    go_enter Tryz.func113, Tryz.ntmps113
    go_wp2_with fail
    go_ret
    exact ⟨rfl, rfl⟩
set_option maxHeartbeats 400000 in
theorem pre_any (l : List UInt8) (w : World) (hl : l.length ≤ 100000000) :
    Calls Tryz.prog 93 #[.string (S l), .string (S [239, 191, 189])] w fun e w' => e = .returned (.bool (Um.isF l)) ∧ w = w' := by
  go_enter Tryz.func93, Tryz.ntmps93
  go_wp2_with fail
  refine (lite_any l w hl).mono ?_; rintro e w' ⟨rfl, rfl⟩
  go_wp2_with fail
  go_ret
  exact ⟨rfl, rfl⟩
theorem S_fffd : (⟨#[239, 191, 189]⟩ : ByteArray) = S [239, 191, 189] := rfl
set_option maxHeartbeats 400000 in
theorem stands_any (l : List UInt8) (p : Nat) (r : Nat) (w : World) (hp : p ≤ l.length) (hl : l.length ≤ 100000000) :
    Calls Tryz.prog 75 #[.string (S l), .int .i64 (p : Int), .int .i32 (r : Int)] w fun e w' => e = .returned (.bool ((r != 65533) || Um.isF (l.drop p))) ∧ w = w' := by
  have z1 := S_size l
  have hT := S_drop' l p
  have q1 : (0 : Int) ≤ (p : Int) := by omega
  have q2 : (p : Int) ≤ (l.length : Int) := by omega
  by_cases h : r = 65533
  · have hb : ((r : Int) != 65533) = false := by subst h; rfl
    have hb' : (r != 65533) = false := by subst h; rfl
    rw [hb']
    clear h
    go_enter Tryz.func75, Tryz.ntmps75
    go_wp2_with fail
    refine (pre_any (l.drop p) w (by rw [List.length_drop]; omega)).mono ?_; rintro e w' ⟨rfl, rfl⟩
    go_wp2_with fail
    go_ret
    exact ⟨rfl, rfl⟩
  · have hb : ((r : Int) != 65533) = true := by rw [bne_iff_ne]; omega
    have hb' : (r != 65533) = true := by rw [bne_iff_ne]; omega
    rw [hb']
    clear h
    go_enter Tryz.func75, Tryz.ntmps75
    go_wp2_with fail
    go_ret
    exact ⟨rfl, rfl⟩
/-- the first rune of a range -/
def fst (l : List UInt8) : Nat × Bool := if l = [] then (0, false) else ((Um.dc l).1, decide ((Um.nx l).2.2 = 0))
set_option maxHeartbeats 400000 in
theorem first_any (l : List UInt8) (w : World) (hl : l.length ≤ 100000000) :
    Calls Tryz.prog 73 #[.string (S l)] w fun e w' => e = .returned (.tuple #[.int .i32 ((fst l).1 : Int), .bool (fst l).2]) ∧ Below w.heap.size w w' := by
  have z1 := S_size l
  by_cases h : l = []
  · have hF : fst l = (0, false) := by unfold fst; rw [if_pos h]
    rw [hF]
    have hn : ¬ 0 < (S l).size := by rw [S_size, h]; decide
    have hnx : ∀ ty, (Instr.next (.pointer (some ⟨w.heap.size, 0, none⟩)) true ty).run Tryz.prog (w.iter (S l) 0) = _ := fun ty => run_next_end w (S l) 0 ty hn
    clear h hF
    go_enter Tryz.func73, Tryz.ntmps73
    go_wp2
    refine wp_loop_rounds 1 ?_
    rw [rounds_succ]
    go_wp2
    go_ret2
    exact ⟨rfl, (Below.refl _ _).alloc (Nat.le_refl _) _⟩
  · have hF : fst l = ((Um.dc l).1, decide ((Um.nx l).2.2 = 0)) := by unfold fst; rw [if_neg h]
    have h1 : 1 ≤ l.length := List.length_pos_iff.2 h
    have hS := Um.stands_eq l h1
    rw [hF, ← hS]
    have hn : 0 < (S l).size := by rw [S_size]; omega
    have hnx : ∀ ty, (Instr.next (.pointer (some ⟨w.heap.size, 0, none⟩)) true ty).run Tryz.prog (w.iter (S l) 0) = _ := fun ty => run_next_any w (S l) 0 ty hn
    have hd : Utf8.decode (S l) 0 = Um.dc l := Um.decode_S l 0
    rw [hd] at hnx
    clear h hF hS
    go_enter Tryz.func73, Tryz.ntmps73
    go_wp2
    refine wp_loop_rounds 1 ?_
    rw [rounds_succ]
    go_wp2_with fail
    refine (stands_any l 0 (Um.dc l).1 _ (by omega) hl).mono ?_; rintro e w' ⟨rfl, rfl⟩
    go_wp2_with fail
    go_ret2
    exact ⟨rfl, (Below.refl _ _).alloc (Nat.le_refl _) _⟩
end Go.Proofs.YtpifbmcgadjhbaaGreatDoor
