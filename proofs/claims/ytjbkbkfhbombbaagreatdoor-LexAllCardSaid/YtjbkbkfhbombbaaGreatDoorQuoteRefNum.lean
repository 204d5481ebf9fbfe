/-
  What the document's number comes to: four digits.
-/
import Derived.Test.YtjbkbkfhbombbaaGreatDoorQuoteRead
import Derived.Test.YtjbkbkfhbombbaaGreatDoorHexVal
import Derived.Test.YtjbkbkfhbombbaaGreatDoorText
namespace Go.Proofs.YtjbkbkfhbombbaaGreatDoor
open Go.RowKit

theorem Qm.dv_no {c : UInt8} {x D : Int} (hx : x = (c.toNat : Int)) (hD : Hm.dv (Qm.lw x) = D) (h : D < 0) : Qm.dB c = false := by
  subst hx
  unfold Qm.dB
  rw [Bool.eq_false_iff]
  intro hd
  have := Hm.dv_of _ hd
  omega
theorem Qm.dv_yes {c : UInt8} {x D : Int} (hx : x = (c.toNat : Int)) (hD : Hm.dv (Qm.lw x) = D) (h : ¬ D < 0) : Qm.dB c = true ∧ (Qm.dV c : Int) = D := by
  subst hx
  have hd : Hm.isD (Qm.lw (c.toNat : Int)) = true := by
    cases hc : Hm.isD (Qm.lw (c.toNat : Int)) with
    | true => rfl
    | false =>
      have := Hm.dv_no _ hc
      omega
  refine ⟨hd, ?_⟩
  have := Hm.dv_of _ hd
  unfold Qm.dV
  omega
theorem ret_f4 {l : List UInt8} {a b : Nat} (h : Qm.f4 l = (a, b)) : Ending.returned (.tuple #[.int .i64 (a : Int), .int .i64 (b : Int)]) = .returned (.tuple #[.int .i64 ((Qm.f4 l).1 : Int), .int .i64 ((Qm.f4 l).2 : Int)]) := by rw [h]
set_option maxHeartbeats 1000000 in
set_option maxRecDepth 3000 in
theorem refNumber_any (l : List UInt8) (p : Nat) (w : World) (hp : p ≤ 200000000) (hl : l.length ≤ 100000000) :
    Calls Tryz.prog 41 #[.string (S l), .int .i64 (p : Int)] w fun e w' => e = .returned (.tuple #[.int .i64 ((Qm.f4 (l.drop p)).1 : Int), .int .i64 ((Qm.f4 (l.drop p)).2 : Int)]) ∧ Below w.heap.size w w' := by
  have z1 := S_size l
  have hat := Tx_at l
  go_enter Tryz.func41, Tryz.ntmps41
  go_wp2_with fail
  go_loopw [6, 7] (fun nv iv wr => ∃ j N : Nat, nv = .int .i64 (N : Int) ∧ iv = .int .i64 (j : Int) ∧ j ≤ 4 ∧ N < 16 ^ j ∧ Hid (Qm.f4 (l.drop p) = Qm.hexs (4 - j) (l.drop (p + j)) N) ∧ Below w.heap.size w wr) (fun _ iv _ => 4 - (intOf iv).toNat)
  case atStart => exact ⟨0, 0, rfl, rfl, by omega, by decide, rfl, Below.refl _ _⟩
  case round =>
    obtain ⟨j, N, rfl, rfl, hj, hN, HX, hbel⟩ := hrel
    by_cases h4 : (j : Int) < 4
    · have hN3 : N ≤ 4095 := by
        have : 16 ^ j ≤ 16 ^ 3 := Nat.pow_le_pow_right (by omega) (by omega)
        have e3 : 16 ^ 3 = 4096 := by decide
        omega
      by_cases hend : (l.length : Int) ≤ (p : Int) + (j : Int)
      · have hr : Qm.f4 (l.drop p) = (0, 4) := by
          rw [HX.out, List.drop_of_length_le (by omega), show 4 - j = (3 - j) + 1 by omega]
          rfl
        have HR := Lib.hid hr
        clear hr hN
        go_wp2_with fail
        go_ret2
        exact ⟨ret_f4 HR.out, hbel⟩
      obtain ⟨k, hk⟩ : ∃ k, k = p + j := ⟨_, rfl⟩
      obtain ⟨c, hc, hdr⟩ := Tx.drop_cons (show k < l.length by omega)
      obtain ⟨x, hx⟩ : ∃ x : Int, x = (c.toNat : Int) := ⟨_, rfl⟩
      have hbx : (Tx.bt l k : Int) = x := by rw [hx, hc]
      have hk2 : (p : Int) + (j : Int) = (k : Int) := by omega
      have hx0 : 0 ≤ x ∧ x ≤ 255 := by have := c.toNat_lt; omega
      obtain ⟨D, hD⟩ : ∃ D : Int, Hm.dv (Qm.lw x) = D := ⟨_, rfl⟩
      have HNO : Hid (D < 0 → Qm.f4 (l.drop p) = (0, 3)) := fun h => by
        rw [HX.out, show 4 - j = (3 - j) + 1 by omega, ← hk, hdr]
        show (if Qm.dB c = true then _ else _) = _
        rw [Qm.dv_no hx hD h]
        rfl
      have HYES : Hid (0 ≤ D → ∃ y : Nat, (y : Int) = D ∧ y ≤ 15 ∧ Hid (Qm.f4 (l.drop p) = Qm.hexs (4 - (j + 1)) (l.drop (p + (j + 1))) (16 * N + y))) := fun h => by
        obtain ⟨h1, h2⟩ := Qm.dv_yes hx hD (by omega)
        refine ⟨Qm.dV c, h2, by have := Qm.dV_lt c; omega, ?_⟩
        rw [Hid, HX.out, show 4 - j = (4 - (j + 1)) + 1 by omega, ← hk, hdr]
        show (if Qm.dB c = true then _ else _) = _
        rw [if_pos h1, show p + (j + 1) = k + 1 by omega]
      have hDb := Hm.dv_bd (Qm.lw x)
      rw [hD] at hDb
      have hkl : k < l.length := by omega
      have hkl' : (k : Int) < (l.length : Int) := by omega
      have HK := Lib.hid hk
      have HN := Lib.hid hN
      clear hx hc hdr hN hend hk
      by_cases ha : 65 ≤ x
      · by_cases hb : x ≤ 70
        · have hlw : Qm.lw x = x + 32 := by unfold Qm.lw; rw [if_pos ⟨ha, hb⟩]
          rw [hlw] at hD
          clear hlw
          go_wp2_with fail
          refine (refValue_any _ _ (by omega) (by omega)).mono ?_; rintro e w' ⟨rfl, rfl⟩
          rw [hD]
          by_cases hneg : D < 0
          · have hr := Lib.hid (HNO.out (by omega))
            go_wp2_with fail
            go_ret2
            exact ⟨ret_f4 hr.out, hbel⟩
          · have hr := Lib.hid (HYES.out (by omega))
            go_wp2_with fail
            go_roundw
            case rel =>
              obtain ⟨y, hy, hy15, hyr⟩ := hr.out
              exact ⟨j + 1, 16 * N + y, by congr 1; omega, by rfl, by omega, by have := HN.out; rw [Nat.pow_succ]; omega, hyr, hbel⟩
            case measure => simp [intOf]; omega
        · have hlw : Qm.lw x = x := by unfold Qm.lw; rw [if_neg (by omega)]
          rw [hlw] at hD
          clear hlw
          go_wp2_with fail
          refine (refValue_any _ _ (by omega) (by omega)).mono ?_; rintro e w' ⟨rfl, rfl⟩
          rw [hD]
          by_cases hneg : D < 0
          · have hr := Lib.hid (HNO.out (by omega))
            go_wp2_with fail
            go_ret2
            exact ⟨ret_f4 hr.out, hbel⟩
          · have hr := Lib.hid (HYES.out (by omega))
            go_wp2_with fail
            go_roundw
            case rel =>
              obtain ⟨y, hy, hy15, hyr⟩ := hr.out
              exact ⟨j + 1, 16 * N + y, by congr 1; omega, by rfl, by omega, by have := HN.out; rw [Nat.pow_succ]; omega, hyr, hbel⟩
            case measure => simp [intOf]; omega
      · have hlw : Qm.lw x = x := by unfold Qm.lw; rw [if_neg (by omega)]
        rw [hlw] at hD
        clear hlw
        go_wp2_with fail
        refine (refValue_any _ _ (by omega) (by omega)).mono ?_; rintro e w' ⟨rfl, rfl⟩
        rw [hD]
        by_cases hneg : D < 0
        · have hr := Lib.hid (HNO.out (by omega))
          go_wp2_with fail
          go_ret2
          exact ⟨ret_f4 hr.out, hbel⟩
        · have hr := Lib.hid (HYES.out (by omega))
          go_wp2_with fail
          go_roundw
          case rel =>
            obtain ⟨y, hy, hy15, hyr⟩ := hr.out
            exact ⟨j + 1, 16 * N + y, by congr 1; omega, by rfl, by omega, by have := HN.out; rw [Nat.pow_succ]; omega, hyr, hbel⟩
          case measure => simp [intOf]; omega
    · have hr := HX.out
      rw [show 4 - j = 0 by omega] at hr
      have HR : Hid (Qm.f4 (l.drop p) = (N, 0)) := hr
      have hN4 : N ≤ 65535 := by
        have : 16 ^ j = 65536 := by rw [show j = 4 by omega]
        omega
      clear hr hN
      go_wp2_with fail
      go_ret2
      exact ⟨ret_f4 HR.out, hbel⟩
end Go.Proofs.YtjbkbkfhbombbaaGreatDoor
