/-
  The law's blank: true of blanks.
-/
import Derived.Test.YtjbkbkfhbombbaaDoorLexMath
namespace Go.Proofs.YtjbkbkfhbombbaaDoor
open Go.RowKit

set_option maxHeartbeats 1000000 in
set_option maxRecDepth 3000 in
theorem blank_any (l : List UInt8) (w : World) (hl : l.length ≤ 100000000) (hb : ∀ c ∈ l, Lm.ws c = true) :
    Calls Tryd.prog 11 #[.string (S l)] w fun e w' => e = .returned (.bool true) ∧ w = w' := by
  have z1 := S_size l
  have hat := Tx_at l
  have HB := Lib.hid hb
  clear hb
  go_enter Tryd.func11, Tryd.ntmps11
  go_wp2_with fail
  go_loopw [3] (fun iv wr => ∃ q : Nat, iv = .int .i64 (q : Int) ∧ q ≤ l.length ∧ w = wr) (fun iv _ => l.length - (intOf iv).toNat)
  case atStart => exact ⟨0, rfl, Nat.zero_le _, rfl⟩
  case round =>
    obtain ⟨q, rfl, hq, rfl⟩ := hrel
    by_cases hlt : (q : Int) < (l.length : Int)
    · obtain ⟨d, hd, hdr⟩ := Tx.drop_cons (show q < l.length by omega)
      have hql : q < l.length := by omega
      have hm : Lm.ws d = true := HB.out d (List.mem_of_mem_drop (i := q) (by rw [hdr]; exact List.mem_cons_self))
      have hx : (Tx.bt l q : Int) = 32 ∨ (Tx.bt l q : Int) = 9 ∨ (Tx.bt l q : Int) = 10 ∨ (Tx.bt l q : Int) = 13 := by
        unfold Lm.ws at hm
        simp only [Bool.or_eq_true, beq_iff_eq] at hm
        rw [← hd]
        rcases hm with ((h | h) | h) | h <;> subst h <;> simp
      clear hd hdr hm
      rcases hx with hx | hx | hx | hx
      all_goals
        go_wp2_with fail
        go_roundw
        · exact ⟨q + 1, rfl, by omega, by first | trivial | rfl⟩
        · simp [intOf]; omega
    · go_wp2_with fail
      go_ret
      exact ⟨rfl, rfl⟩
end Go.Proofs.YtjbkbkfhbombbaaDoor
