/-
  The walk of ShaParts: it comes to true.
-/
import Derived.Test.YtgbdleenkblcfaaDoorShaLawA
namespace Go.Proofs.YtgbdleenkblcfaaDoor
open Go.RowKit

theorem Kp.cell_low {b : Nat} {w w' : World} (k : Kp b w w') {p : Addr} (h : p.block ≠ b) (hl : p.block < w.heap.size) : w'.cell? p = w.cell? p := by
  unfold World.cell?
  rw [k.block p.block h hl]
theorem S_app (x : List UInt8) (s : ByteArray) : S x ++ s = S (x ++ s.data.toList) := by
  apply ByteArray.ext
  apply Array.toList_inj.1
  simp [S]
theorem S_take (R : List UInt8) (c : Nat) : (S R).extract 0 c = S (R.take c) := by
  apply ByteArray.ext
  apply Array.toList_inj.1
  simp [S, ByteArray.data_extract, List.extract_eq_take_drop]
theorem cat_bound (L : List ByteArray) (k : Nat) (h : wt L < 3000) : (cat (L.take k)).length < 3000 := by
  have h1 := wt_le L k
  have h2 := wt_cat (L.take k) (by omega)
  omega
theorem one_bound (L : List ByteArray) (k : Nat) (hk : k < L.length) (h : wt L < 3000) : (L.getD k ⟨#[]⟩).size < 3000 := by
  have h1 := wt_le L (k + 1)
  have h2 := wt_take L k hk
  omega

set_option maxRecDepth 100000 in
set_option maxHeartbeats 1600000 in
theorem law_ShaParts (a0 : Option Addr) (L : List ByteArray) (c0 : Nat) (a1 : Option Addr) (U : List Nat) (c1 : Nat) (w : World)
    (hS : SlS w a0 L) (hz : ∀ i, i < L.length → (L.getD i ⟨#[]⟩).size ≤ maxLen) (hU : SlU w a1 U) (hT : Tabs w) :
    Calls Tryd.prog 6 #[.slice a0 L.length c0, .slice a1 U.length c1] w fun e w' => e = .returned (.bool true) ∧ Below w.heap.size w w' := by
  by_cases hl : 3000 ≤ wt L
  · have hd : decide (3000 ≤ wt L) = true := decide_eq_true hl
    go_enter Tryd.func6, Tryd.ntmps6
    go_wp2_with fail
    refine (long_any a0 L c0 w hS hz).mono ?_; rintro e w1 ⟨rfl, rfl⟩
    rw [hd]
    go_wp2_with fail
    refine (awake_any _ hT).mono ?_; rintro e w3 ⟨rfl, h3⟩
    go_wp2_with fail
    go_ret
    exact ⟨rfl, h3⟩
  · have hd : decide (3000 ≤ wt L) = false := decide_eq_false hl
    have hwt : wt L < 3000 := by omega
    by_cases hu : 300 < U.length
    · clear hwt
      go_enter Tryd.func6, Tryd.ntmps6
      go_wp2_with fail
      refine (long_any a0 L c0 w hS hz).mono ?_; rintro e w1 ⟨rfl, rfl⟩
      rw [hd]
      go_wp2_with fail
      refine (awake_any _ hT).mono ?_; rintro e w3 ⟨rfl, h3⟩
      go_wp2_with fail
      go_ret
      exact ⟨rfl, h3⟩
    · have HW := Lib.hid hwt
      have hLL : L.length ≤ 50 := by have := wt_len L; omega
      go_enter Tryd.func6, Tryd.ntmps6
      go_wp2_with fail
      refine (long_any a0 L c0 w hS hz).mono ?_; rintro e w1 ⟨rfl, rfl⟩
      rw [hd]
      clear hd hl hwt hz
      go_wp2_with fail
      refine (awake_any _ hT).mono ?_; rintro e w1 ⟨rfl, h1⟩
      go_wp2_with fail
      refine (new_at h1).mono ?_; rintro e w2 ⟨rfl, a2, h2, _⟩
      have q1 := h1.size
      go_wp2_with fail
      refine (new_at h2).mono ?_; rintro e w3 ⟨rfl, g3, h3, b3⟩
      have a3 := a2.below b3 a2.lt
      have ne1 : w1.heap.size ≠ w2.heap.size := Nat.ne_of_lt a2.lt
      have q2 := h2.size
      obtain ⟨H, hH⟩ : ∃ H, H = w1.heap.size := ⟨_, rfl⟩
      obtain ⟨G, hG⟩ : ∃ G, G = w2.heap.size := ⟨_, rfl⟩
      rw [← hH] at a3 ne1 q1
      rw [← hG] at g3 ne1 q2
      rw [← hH, ← hG]
      clear hH hG a2 b3 h1 h2
      go_wp2_with fail
      go_loopw [7, 8] (fun all i wr => ∃ k : Nat, k ≤ L.length ∧ i = .int .i64 k ∧ all = .string (S (cat (L.take k))) ∧ Hs wr H (cat (L.take k)) ∧ Hs wr G [] ∧ Below w.heap.size w wr) (fun _ i _ => L.length - (intOf i).toNat)
      case atStart => exact ⟨0, by omega, rfl, rfl, a3, g3, h3⟩
      case round =>
        clear a3 g3 h3
        obtain ⟨k, hk, rfl, rfl, a3, g3, h3⟩ := hrel
        by_cases hlt : k < L.length
        · obtain ⟨b, o, rfl, hc0⟩ := hS.below h3 k hlt
          have hB1 := cat_bound L k HW.out
          have hB2 := cat_bound L (k + 1) HW.out
          have hB3 := one_bound L k hlt HW.out
          have hcat := cat_take L k hlt
          obtain ⟨s, hs⟩ : ∃ s, s = L.getD k ⟨#[]⟩ := ⟨_, rfl⟩
          rw [← hs] at hc0 hB3 hcat
          clear hs
          obtain ⟨X, hX⟩ : ∃ X, X = cat (L.take k) := ⟨_, rfl⟩
          obtain ⟨Y, hY⟩ : ∃ Y, Y = cat (L.take (k + 1)) := ⟨_, rfl⟩
          rw [← hX] at a3 hB1 hcat
          rw [← hY] at hB2 hcat
          rw [← hX]
          have HX := Lib.hid hX
          have HY := Lib.hid hY
          have eA : S X ++ s = S Y := by rw [S_app, hcat]
          have zX := S_size X
          have zY := S_size Y
          have g1 : (0 : Int) ≤ (k : Int) := by omega
          have g2 : (k : Int) < (L.length : Int) := by omega
          clear hX hY hlt
          have HC := Lib.hid hcat
          clear hcat
          go_wp2_with fail
          refine (write_at h3 hT a3 q1 s (by omega)).mono ?_; rintro e w4 ⟨rfl, a4, h4, k4⟩
          rw [← HC.out] at a4
          have g4 := g3.kp k4 (Ne.symm ne1)
          have hc4 : w4.cell? ⟨b, o + k, none⟩ = some (.string s) := by
            have hlow : b < w.heap.size := by
              obtain ⟨b', o', e', hc'⟩ := hS k (by omega)
              cases e'
              exact World.block_lt_of_cell? w _ hc'
            rw [k4.cell_low (show (⟨b, o + k, none⟩ : Addr).block ≠ H by show b ≠ H; omega) (World.block_lt_of_cell? wr _ hc0)]
            exact hc0
          go_wp2_with fail
          refine (sum_at h4 hT a4 (by omega)).mono ?_; rintro e w5 ⟨rfl, h5, b5⟩
          have a5 := a4.below b5 a4.lt
          have g5 := g4.below b5 g4.lt
          go_wp2_with fail
          refine (fsum_at h5 hT (S Y) (by omega)).mono ?_; rintro e w6 ⟨rfl, h6, b6⟩
          rw [S_data]
          have a6 := a5.below b6 a5.lt
          have g6 := g5.below b6 g5.lt
          go_wp2_with fail
          go_roundw
          case rel => exact ⟨k + 1, by omega, by go_num, by rw [HY.out], by rw [← HY.out]; exact a6, g6, h6⟩
          case measure => simp [intOf]; omega
        · obtain rfl : k = L.length := by omega
          rw [List.take_length] at a3
          rw [List.take_length]
          have hB := cat_bound L L.length HW.out
          rw [List.take_length] at hB
          obtain ⟨X, hX⟩ : ∃ X, X = cat L := ⟨_, rfl⟩
          rw [← hX] at a3 hB
          rw [← hX]
          clear hX hlt
          go_wp2_with fail
          go_loopw [9, 10, 11] (fun rest i _ wr => ∃ (k : Nat) (Y R : List UInt8), Hid (Y ++ R = X) ∧ k ≤ U.length ∧ i = .int .i64 k ∧ rest = .string (S R) ∧ Hs wr H X ∧ Hs wr G Y ∧ Below w.heap.size w wr) (fun _ i _ _ => U.length - (intOf i).toNat)
          case atStart => exact ⟨0, [], X, rfl, by omega, rfl, rfl, a3, g3, h3⟩
          case round =>
            clear a3 g3 h3
            obtain ⟨k, Y, R, HE, hk, rfl, rfl, a3, g3, h3⟩ := hrel
            have hYR : Y.length + R.length = X.length := by have := congrArg List.length HE.out; simpa using this
            have zR := S_size R
            by_cases hlt : k < U.length
            · obtain ⟨b, o, rfl, hc0⟩ := (hU.below h3).1 k hlt
              have hu8 := hU.2 k
              obtain ⟨u, hu⟩ : ∃ u, u = U.getD k 0 := ⟨_, rfl⟩
              rw [← hu] at hc0 hu8
              clear hu
              have g1 : (0 : Int) ≤ (k : Int) := by omega
              have g2 : (k : Int) < (U.length : Int) := by omega
              clear hlt
              by_cases hm : u < R.length
              · have eT := S_take R u
                have eD := S_drop R u
                have hs1 : u ≤ R.length := by omega
                go_wp2_with fail
                refine (write_at h3 hT g3 q2 (S (R.take u)) (by rw [S_size, List.length_take]; omega)).mono ?_; rintro e w4 ⟨rfl, g4, h4, k4⟩
                rw [S_data] at g4
                have a4 := a3.kp k4 ne1
                have HE' : Hid ((Y ++ R.take u) ++ R.drop u = X) := by rw [List.append_assoc, List.take_append_drop]; exact HE.out
                go_wp2_with fail
                go_roundw
                case rel => exact ⟨k + 1, Y ++ R.take u, R.drop u, HE', by omega, by go_num, rfl, a4, g4, h4⟩
                case measure => simp [intOf]; omega
              · have eT : (S R).extract 0 R.length = S R := by rw [S_take, List.take_length]
                have eD : (S R).extract R.length R.length = S [] := by rw [S_drop, List.drop_length]
                go_wp2_with fail
                refine (write_at h3 hT g3 q2 (S R) (by rw [S_size]; omega)).mono ?_; rintro e w4 ⟨rfl, g4, h4, k4⟩
                rw [S_data] at g4
                have a4 := a3.kp k4 ne1
                have HE' : Hid ((Y ++ R) ++ [] = X) := by rw [List.append_nil]; exact HE.out
                go_wp2_with fail
                go_roundw
                case rel => exact ⟨k + 1, Y ++ R, [], HE', by omega, by go_num, rfl, a4, g4, h4⟩
                case measure => simp [intOf]; omega
            · have hk' : k = U.length := by omega
              subst hk'
              clear hlt
              go_wp2_with fail
              refine (write_at h3 hT g3 q2 (S R) (by omega)).mono ?_; rintro e w4 ⟨rfl, g4, h4, k4⟩
              rw [S_data, HE.out] at g4
              have a4 := a3.kp k4 ne1
              go_wp2_with fail
              refine (sum_at h4 hT g4 (by omega)).mono ?_; rintro e w5 ⟨rfl, h5, b5⟩
              have a5 := a4.below b5 a4.lt
              have g5 := g4.below b5 g4.lt
              go_wp2_with fail
              refine (sum_at h5 hT a5 (by omega)).mono ?_; rintro e w6 ⟨rfl, h6, b6⟩
              have g6 := g5.below b6 g5.lt
              go_wp2_with fail
              refine (len_any _ _ _ g6).mono ?_; rintro e w7 ⟨rfl, rfl⟩
              have zX := S_size X
              go_wp2_with fail
              go_ret
              exact ⟨rfl, h6⟩
end Go.Proofs.YtgbdleenkblcfaaDoor
