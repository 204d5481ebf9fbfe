/-
  What utf.Len and Valid come to.
-/
import Derived.Test.YtpifbmcgadjhbaaGreatDoorUtfProg
namespace Go.Proofs.YtpifbmcgadjhbaaGreatDoor
open Go.RowKit

def LEN (l : List UInt8) : Nat × Bool := match Um.cnt l with | some n => (n, true) | none => (0, false)
theorem LEN_some {l : List UInt8} {n : Nat} (h : Um.cnt l = some n) : LEN l = (n, true) := by unfold LEN; rw [h]
theorem LEN_none {l : List UInt8} (h : Um.cnt l = none) : LEN l = (0, false) := by unfold LEN; rw [h]
theorem drop_end (l : List UInt8) (p : Nat) (h : ¬ p < l.length) : Um.cnt (l.drop p) = some 0 := by
  rw [List.drop_of_length_le (by omega)]
  rfl
theorem below_iter {w0 w : World} (h : Below w0.heap.size w0 w) (s : ByteArray) (p : Nat) : Below w0.heap.size w0 (w.iter s p) := h.alloc h.size _
theorem ret_len {l : List UInt8} {n : Nat} {b : Bool} (h : LEN l = (n, b)) : Ending.returned (.tuple #[.int .i64 (n : Int), .bool b]) = .returned (.tuple #[.int .i64 ((LEN l).1 : Int), .bool (LEN l).2]) := by rw [h]
set_option maxHeartbeats 400000 in
theorem Len_any (l : List UInt8) (w : World) (hl : l.length ≤ 100000000) :
    Calls Tryz.prog 61 #[.string (S l)] w fun e w' => e = .returned (.tuple #[.int .i64 ((LEN l).1 : Int), .bool (LEN l).2]) ∧ Below w.heap.size w w' := by
  have z1 := S_size l
  go_enter Tryz.func61, Tryz.ntmps61
  go_wp2
  go_loopw [4, 5, 6] (fun n _ _ wr => ∃ (p k : Nat), wr = w.iter (S l) p ∧ n = .int .i64 (k : Int) ∧ p ≤ l.length ∧ k ≤ p ∧ Um.cnt l = (Um.cnt (l.drop p)).map (· + k)) (fun _ _ _ wr => l.length - wr.iterPos w.heap.size)
  case atStart => exact ⟨0, 0, rfl, rfl, Nat.zero_le _, Nat.le_refl _, by simp⟩
  case round =>
    obtain ⟨p, k, rfl, rfl, hp, hk, hc⟩ := hrel
    have HC := Lib.hid hc
    clear hc
    by_cases hlt : p < l.length
    · have hn : p < (S l).size := by rw [S_size]; exact hlt
      have hd := Um.decode_S l p
      obtain ⟨R, hR⟩ : ∃ R, R = l.drop p := ⟨_, rfl⟩
      have zR : R.length = l.length - p := by rw [hR, List.length_drop]
      rw [← hR] at hd
      have hst := Um.stands_eq R (by omega)
      have hnx : ∀ ty, (Instr.next (.pointer (some ⟨w.heap.size, 0, none⟩)) true ty).run Tryz.prog (w.iter (S l) p) = _ := fun ty => run_next_any w (S l) p ty hn
      rw [hd] at hnx
      by_cases h0 : (Um.nx R).2.2 = 0
      · have hx1 := Um.nx_eta h0
        obtain ⟨r, hr⟩ : ∃ r, r = (Um.nx R).1 := ⟨_, rfl⟩
        obtain ⟨z, hz⟩ : ∃ z, z = (Um.nx R).2.1 := ⟨_, rfl⟩
        rw [← hr, ← hz] at hx1
        have hfx := Um.nx_facts hx1
        have hdc := Um.dc_ok hx1
        rw [h0, hdc] at hst
        rw [hdc] at hnx
        have HST : Hid (((r != 65533) || Um.isF (l.drop p)) = true) := by rw [← hR]; exact hst
        have HR : Hid (Um.cnt l = (Um.cnt (l.drop (p + z))).map (· + (k + 1))) := by
          unfold Hid
          rw [HC.out, ← hR, Um.cnt_ok hx1, hR, List.drop_drop, Option.map_map]
          congr 1
          funext x
          simp only [Function.comp]
          omega
        have HZ := Lib.hid hfx.2.2
        have HZR := Lib.hid zR
        clear hst hd hdc hx1 h0 hr hz hfx hR zR HC
        go_wp2_with fail
        refine (stands_any l p r _ hp hl).mono ?_; rintro e w' ⟨rfl, rfl⟩
        rw [HST.out]
        go_wp2_with fail
        go_roundw
        case rel =>
          have := HZ.out
          have := HZR.out
          exact ⟨p + z, k + 1, rfl, by go_num, by omega, by omega, HR.out⟩
        case measure =>
          have := HZ.out
          simp
          omega
      · have hdc := Um.dc_no h0 (by omega)
        rw [hdc, show decide ((Um.nx R).2.2 = 0) = false by simpa using h0] at hst
        rw [hdc] at hnx
        have HST : Hid (((65533 != 65533) || Um.isF (l.drop p)) = false) := by rw [← hR]; exact hst
        have HR : Hid (LEN l = (0, false)) := by
          apply LEN_none
          rw [HC.out, ← hR, Um.cnt_no h0 (by omega)]
          rfl
        clear hst hd hdc h0 hR zR HC
        go_wp2_with fail
        refine (stands_any l p 65533 _ hp hl).mono ?_; rintro e w' ⟨rfl, rfl⟩
        rw [HST.out]
        go_wp2_with fail
        go_ret2
        exact ⟨ret_len HR.out, below_iter (Below.refl _ _) _ _⟩
    · have hn : ¬ p < (S l).size := by rw [S_size]; exact hlt
      have hnx : ∀ ty, (Instr.next (.pointer (some ⟨w.heap.size, 0, none⟩)) true ty).run Tryz.prog (w.iter (S l) p) = _ := fun ty => run_next_end w (S l) p ty hn
      have HR : Hid (LEN l = (k, true)) := by
        apply LEN_some
        rw [HC.out, drop_end l p hlt]
        simp
      clear HC
      go_wp2_with fail
      go_ret2
      exact ⟨ret_len HR.out, below_iter (Below.refl _ _) _ _⟩
theorem Len_at {w0 w : World} (h : Below w0.heap.size w0 w) (l : List UInt8) (hl : l.length ≤ 100000000) {x : Nat × Bool} (hx : LEN l = x) :
    Calls Tryz.prog 61 #[.string (S l)] w fun e w' => e = .returned (.tuple #[.int .i64 (x.1 : Int), .bool x.2]) ∧ Below w0.heap.size w0 w' := by
  subst hx
  exact from_ h (Len_any l w hl)
theorem Valid_at {w0 w : World} (h : Below w0.heap.size w0 w) (l : List UInt8) (hl : l.length ≤ 100000000) {b : Bool} (hb : (LEN l).2 = b) :
    Calls Tryz.prog 39 #[.string (S l)] w fun e w' => e = .returned (.bool b) ∧ Below w0.heap.size w0 w' := by
  subst hb
  go_enter Tryz.func39, Tryz.ntmps39
  go_wp2_with fail
  refine (Len_at h l hl rfl).mono ?_; rintro e w' ⟨rfl, h1⟩
  go_wp2_with fail
  go_ret
  exact ⟨rfl, h1⟩
end Go.Proofs.YtpifbmcgadjhbaaGreatDoor
