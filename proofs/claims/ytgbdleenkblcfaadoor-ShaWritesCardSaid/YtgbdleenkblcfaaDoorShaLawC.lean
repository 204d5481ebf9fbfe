/-
  The walk of ShaWrites: it comes to true.
-/
import Derived.Test.YtgbdleenkblcfaaDoorShaLawB
import Derived.Test.YtgbdleenkblcfaaDoorShaRefD
namespace Go.Proofs.YtgbdleenkblcfaaDoor
open Go.RowKit

theorem refSum_at {w0 w : World} (h : Below w0.heap.size w0 w) (l : List UInt8) (hl : l.length ≤ 100000) :
    Calls Tryd.prog 11 #[.string (S l)] w fun e w' => e = .returned (.string (S (Sm.sha l))) ∧ Below w0.heap.size w0 w' ∧ Below w.heap.size w w' :=
  (refSum_any l w hl).mono fun _ _ ⟨he, hb⟩ => ⟨he, h.trans (hb.mono h.size), hb⟩

set_option maxRecDepth 100000 in
set_option maxHeartbeats 1600000 in
theorem law_ShaWrites (a0 : Option Addr) (L : List ByteArray) (c0 : Nat) (a1 : Option Addr) (B : List Bool) (c1 : Nat) (w : World)
    (hS : SlS w a0 L) (hz : ∀ i, i < L.length → (L.getD i ⟨#[]⟩).size ≤ maxLen) (hB : SlB w a1 B) (hT : Tabs w) :
    Calls Tryd.prog 4 #[.slice a0 L.length c0, .slice a1 B.length c1] w fun e w' => e = .returned (.bool true) ∧ Below w.heap.size w w' := by
  by_cases hl : 3000 ≤ wt L
  · have hd : decide (3000 ≤ wt L) = true := decide_eq_true hl
    go_enter Tryd.func4, Tryd.ntmps4
    go_wp2_with fail
    refine (long_any a0 L c0 w hS hz).mono ?_; rintro e w1 ⟨rfl, rfl⟩
    rw [hd]
    go_wp2_with fail
    refine (awake_any _ hT).mono ?_; rintro e w3 ⟨rfl, h3⟩
    go_wp2_with fail
    go_ret
    exact ⟨rfl, h3⟩
  · have hd : decide (3000 ≤ wt L) = false := decide_eq_false hl
    have hwt : wt L < 3000 := by omega
    have HW := Lib.hid hwt
    have hLL : L.length ≤ 50 := by have := wt_len L; omega
    go_enter Tryd.func4, Tryd.ntmps4
    go_wp2_with fail
    refine (long_any a0 L c0 w hS hz).mono ?_; rintro e w1 ⟨rfl, rfl⟩
    rw [hd]
    clear hd hl hwt hz
    go_wp2_with fail
    refine (new_at (Below.refl _ _)).mono ?_; rintro e w2 ⟨rfl, a2, h2, _⟩
    go_wp2_with fail
    go_loopw [5, 6, 7, 8] (fun hp all i _ wr => ∃ k H : Nat, k ≤ L.length ∧ i = .int .i64 k ∧ hp = .pointer (some ⟨H, 0, none⟩) ∧ w.heap.size ≤ H ∧ all = .string (S (cat (L.take k))) ∧ Hs wr H (cat (L.take k)) ∧ Below w.heap.size w wr) (fun _ _ i _ _ => L.length - (intOf i).toNat)
    case atStart => exact ⟨0, w.heap.size, by omega, rfl, rfl, Nat.le_refl _, rfl, a2, h2⟩
    case round =>
      clear a2 h2
      obtain ⟨k, H, hk, rfl, rfl, q1, rfl, a3, h3⟩ := hrel
      by_cases hlt : k < L.length
      · obtain ⟨b, o, rfl, hc0⟩ := hS.below h3 k hlt
        have hB1 := cat_bound L k HW.out
        have hB2 := cat_bound L (k + 1) HW.out
        have hB3 := one_bound L k hlt HW.out
        have hcat := cat_take L k hlt
        obtain ⟨s, hs⟩ : ∃ s, s = L.getD k ⟨#[]⟩ := ⟨_, rfl⟩
        have HSS : Hid (∀ w4, Below w.heap.size w w4 → w4.cell? ⟨b, o + k, none⟩ = some (.string s)) := fun w4 h4 => by
          obtain ⟨b', o', e', hc'⟩ := hS.below h4 k hlt
          cases e'
          rw [hs]; exact hc'
        rw [← hs] at hc0 hB3 hcat
        clear hs
        obtain ⟨X, hX⟩ : ∃ X, X = cat (L.take k) := ⟨_, rfl⟩
        obtain ⟨Y, hY⟩ : ∃ Y, Y = cat (L.take (k + 1)) := ⟨_, rfl⟩
        rw [← hX] at a3 hB1 hcat
        rw [← hY] at hB2 hcat
        rw [← hX]
        have HY := Lib.hid hY
        have eA : S X ++ s = S Y := by rw [S_app, hcat]
        have zX := S_size X
        have zY := S_size Y
        have g1 : (0 : Int) ≤ (k : Int) := by omega
        have g2 : (k : Int) < (L.length : Int) := by omega
        clear hX hY hlt
        have HC := Lib.hid hcat
        clear hcat
        go_wp2_with fail
        refine (write_at h3 hT a3 q1 s (by omega)).mono ?_; rintro e w4 ⟨rfl, a4, h4, k4⟩
        rw [← HC.out] at a4
        have hc4 := HSS.out w4 h4
        clear a3 h3 k4 hc0
        by_cases hkb : k < B.length
        · obtain ⟨b', o', rfl, hcb⟩ := hB.below h4 k hkb
          have g3 : (k : Int) < (B.length : Int) := by omega
          cases hv : B.getD k false
          · rw [hv] at hcb
            go_wp2_with fail
            refine (sum_at h4 hT a4 (by omega)).mono ?_; rintro e w8 ⟨rfl, h8, b8⟩
            have a8 := a4.below b8 a4.lt
            go_wp2_with fail
            refine (refSum_at h8 Y (by omega)).mono ?_; rintro e w9 ⟨rfl, h9, b9⟩
            have a9 := a8.below b9 a8.lt
            go_wp2_with fail
            refine (len_any _ _ _ a9).mono ?_; rintro e w10 ⟨rfl, rfl⟩
            go_wp2_with fail
            go_roundw
            case rel => exact ⟨k + 1, H, by omega, by go_num, rfl, q1, by rw [HY.out], by rw [← HY.out]; exact a9, h9⟩
            case measure => simp [intOf]; omega
          · rw [hv] at hcb
            go_wp2_with fail
            refine (copy_at h4 a4).mono ?_; rintro e w5 ⟨rfl, c5, h5, b5⟩
            have a5 := a4.below b5 a4.lt
            have ne : w4.heap.size ≠ H := Ne.symm (Nat.ne_of_lt a4.lt)
            have q2 := h4.size
            go_wp2_with fail
            refine (write_at h5 hT a5 q1 ⟨#[115, 112, 111, 105, 108, 116]⟩ (by show Y.length + 6 ≤ 900000000; omega)).mono ?_; rintro e w6 ⟨rfl, _, h6, k6⟩
            have c6 := c5.kp k6 ne
            go_wp2_with fail
            refine (sum_at h6 hT c6 (by omega)).mono ?_; rintro e w8 ⟨rfl, h8, b8⟩
            have a8 := c6.below b8 c6.lt
            go_wp2_with fail
            refine (refSum_at h8 Y (by omega)).mono ?_; rintro e w9 ⟨rfl, h9, b9⟩
            have a9 := a8.below b9 a8.lt
            go_wp2_with fail
            refine (len_any _ _ _ a9).mono ?_; rintro e w10 ⟨rfl, rfl⟩
            go_wp2_with fail
            go_roundw
            case rel => exact ⟨k + 1, w4.heap.size, by omega, by go_num, rfl, q2, by rw [HY.out], by rw [← HY.out]; exact a9, h9⟩
            case measure => simp [intOf]; omega
        · have g3 : ¬ (k : Int) < (B.length : Int) := by omega
          go_wp2_with fail
          refine (sum_at h4 hT a4 (by omega)).mono ?_; rintro e w8 ⟨rfl, h8, b8⟩
          have a8 := a4.below b8 a4.lt
          go_wp2_with fail
          refine (refSum_at h8 Y (by omega)).mono ?_; rintro e w9 ⟨rfl, h9, b9⟩
          have a9 := a8.below b9 a8.lt
          go_wp2_with fail
          refine (len_any _ _ _ a9).mono ?_; rintro e w10 ⟨rfl, rfl⟩
          go_wp2_with fail
          go_roundw
          case rel => exact ⟨k + 1, H, by omega, by go_num, rfl, q1, by rw [HY.out], by rw [← HY.out]; exact a9, h9⟩
          case measure => simp [intOf]; omega
      · obtain rfl : k = L.length := by omega
        have g2 : ¬ (L.length : Int) < (L.length : Int) := by omega
        clear hlt
        go_wp2_with fail
        refine (from_ h3 (awake_any _ (hT.below h3))).mono ?_; rintro e w4 ⟨rfl, h4⟩
        go_wp2_with fail
        go_ret
        exact ⟨rfl, h4⟩
end Go.Proofs.YtgbdleenkblcfaaDoor
