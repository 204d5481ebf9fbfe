/-
  What the document's Show comes to.
-/
import Derived.Test.YtpifbmcgadjhbaaDoorNumProg
import Derived.BigRegion
import Derived.Lib.ItoaLen
namespace Go.Proofs.YtpifbmcgadjhbaaDoor
open Go.RowKit
open Go.Lib (decDigits itoa)

/-- i digits of the text are there; q is what is left of the number -/
def Nm.Sh (u q : Nat) (s : List UInt8) (i : Nat) : Prop :=
  s.length = i ∧ i ≤ 21 ∧ q ≤ u ∧ ((i = 0 ∧ q = u) ∨ (1 ≤ i ∧ q = 0 ∧ s = decDigits u) ∨ (1 ≤ q ∧ decDigits q ++ s = decDigits u))
theorem Nm.Sh.key {u q i : Nat} {s : List UInt8} (h : Nm.Sh u q s i) (hc : i = 0 ∨ q ≠ 0) : decDigits q ++ s = decDigits u := by
  obtain ⟨h1, _, _, h2⟩ := h
  rcases h2 with ⟨h2, h3⟩ | ⟨h2, h3, h4⟩ | ⟨_, h3⟩
  · have : s = [] := List.length_eq_zero_iff.1 (by omega)
    rw [this, h3, List.append_nil]
  · omega
  · exact h3
theorem Nm.Sh.next {u q i : Nat} {s : List UInt8} (h : Nm.Sh u q s i) (hc : i = 0 ∨ q ≠ 0) (hu : (decDigits u).length ≤ 21) : Nm.Sh u (q / 10) (UInt8.ofNat (48 + q % 10) :: s) (i + 1) := by
  have k := h.key hc
  have h' := h
  obtain ⟨h1, _, hq, _⟩ := h'
  by_cases h9 : q < 10
  · have hd : decDigits q = [UInt8.ofNat (48 + q)] := by rw [decDigits, dif_pos h9]
    rw [hd] at k
    have hk : UInt8.ofNat (48 + q % 10) :: s = decDigits u := by rw [Nat.mod_eq_of_lt h9]; exact k
    refine ⟨by rw [List.length_cons, h1], ?_, by omega, .inr (.inl ⟨by omega, by omega, hk⟩)⟩
    rw [← hk, List.length_cons] at hu
    omega
  · have hd : decDigits q = decDigits (q / 10) ++ [UInt8.ofNat (48 + q % 10)] := by rw [decDigits, dif_neg h9]
    rw [hd, List.append_assoc] at k
    have hk : decDigits (q / 10) ++ (UInt8.ofNat (48 + q % 10) :: s) = decDigits u := k
    refine ⟨by rw [List.length_cons, h1], ?_, by omega, .inr (.inr ⟨by omega, hk⟩)⟩
    rw [← hk, List.length_append, List.length_cons] at hu
    omega
theorem Nm.Sh.done {u i : Nat} {s : List UInt8} (h : Nm.Sh u 0 s i) (hi : i ≠ 0) : s = decDigits u := by
  obtain ⟨h1, _, _, h2⟩ := h
  rcases h2 with ⟨h2, h3⟩ | ⟨h2, h3, h4⟩ | ⟨h2, h3⟩
  · omega
  · exact h4
  · omega
theorem digs21 {n : Int} (h0 : -9223372036854775808 ≤ n) (h1 : n ≤ 9223372036854775807) : (decDigits n.natAbs).length ≤ 21 := by
  have h := Go.Lib.itoa_length_le n h0 h1
  by_cases hn : n < 0
  · rw [Nm.itoa_neg hn, List.length_cons] at h
    omega
  · rw [Nm.itoa_nn hn, show n.toNat = n.natAbs by omega] at h
    exact h
def Nm.sg (B : Bool) (q : Nat) : Int := if B then -(q : Int) else (q : Int)
theorem Nm.sg_rem (B : Bool) (q : Nat) : (Nm.sg B q).tmod 10 = Nm.sg B (q % 10) := by
  have h : (q : Int).tmod 10 = ((q % 10 : Nat) : Int) := by rw [Int.tmod_eq_emod_of_nonneg (by omega)]; omega
  unfold Nm.sg
  cases B with
  | false => simp only [Bool.false_eq_true, ↓reduceIte]; exact h
  | true => simp only [↓reduceIte]; rw [Int.neg_tmod, h]
theorem Nm.sg_quo (B : Bool) (q : Nat) : (Nm.sg B q).tdiv 10 = Nm.sg B (q / 10) := by
  have h : (q : Int).tdiv 10 = ((q / 10 : Nat) : Int) := by rw [Int.tdiv_eq_ediv_of_nonneg (by omega)]; omega
  unfold Nm.sg
  cases B with
  | false => simp only [Bool.false_eq_true, ↓reduceIte]; exact h
  | true => simp only [↓reduceIte]; rw [Int.neg_tdiv, h]
theorem Nm.sg_abs (B : Bool) (q : Nat) : (Nm.sg B q < 0 → -Nm.sg B q = (q : Int)) ∧ (¬ Nm.sg B q < 0 → Nm.sg B q = (q : Int)) := by
  cases B with
  | false => exact ⟨fun h => by have h2 : (q : Int) < 0 := h; omega, fun _ => rfl⟩
  | true => exact ⟨fun _ => by show - -(q : Int) = q; omega, fun h => by have h2 : ¬ (-(q : Int) < 0) := h; show -(q : Int) = q; omega⟩
theorem Nm.sg_in {B : Bool} {q : Nat} (h : q ≤ 9223372036854775807) : -9223372036854775807 ≤ Nm.sg B q ∧ Nm.sg B q ≤ 9223372036854775807 := by
  unfold Nm.sg
  cases B with
  | false => simp only [Bool.false_eq_true, ↓reduceIte]; omega
  | true => simp only [↓reduceIte]; omega
theorem Nm.sg_zero {B : Bool} {q : Nat} : Nm.sg B q = 0 ↔ q = 0 := by
  unfold Nm.sg
  cases B with
  | false => simp only [Bool.false_eq_true, ↓reduceIte]; omega
  | true => simp only [↓reduceIte]; omega
theorem Nm.sg_natAbs (B : Bool) (q : Nat) : (Nm.sg B q).natAbs = q := by
  unfold Nm.sg
  cases B with
  | false => simp only [Bool.false_eq_true, ↓reduceIte]; omega
  | true => simp only [↓reduceIte]; omega
set_option maxHeartbeats 2000000 in
set_option maxRecDepth 3000 in
theorem refNumShow_any (n : Int) (w : World) (h0 : -9223372036854775808 ≤ n) (h1 : n ≤ 9223372036854775807) :
    Calls Tryd.prog 32 #[.int .i64 n] w fun e w' => e = .returned (.string (S (itoa n))) ∧ Below w.heap.size w w' := by
  have hd := Lib.hid (digs21 h0 h1)
  obtain ⟨B, hbn⟩ : ∃ B, decide (n < 0) = B := ⟨_, rfl⟩
  have hB : n = Nm.sg B n.natAbs := by
    unfold Nm.sg
    rw [← hbn]
    by_cases h : n < 0
    · rw [if_pos (by simpa using h)]; omega
    · rw [if_neg (by simpa using h)]; omega
  have HB := Lib.hid hB
  clear hB
  obtain ⟨u, hu⟩ : ∃ u, u = n.natAbs := ⟨_, rfl⟩
  rw [← hu] at HB hd
  have HU := Lib.hid hu
  have hu1 : u ≤ 9223372036854775808 := by omega
  clear hu
  go_enter Tryd.func32, Tryd.ntmps32
  go_wp2_with fail
  go_loopw [0, 3, 5] (fun nv sv iv wr => ∃ (q i : Nat) (s : List UInt8) (N : Int), Hid (N = Nm.sg B q) ∧ -9223372036854775808 ≤ N ∧ N ≤ 9223372036854775807 ∧ nv = .int .i64 N ∧ sv = .string (S s) ∧ iv = .int .i64 (i : Int) ∧ Hid (Nm.Sh u q s i) ∧ Below w.heap.size w wr) (fun nv _ iv _ => (intOf nv).natAbs + (1 - (intOf iv).toNat))
  case atStart => exact ⟨u, 0, [], n, HB, h0, h1, rfl, rfl, rfl, ⟨rfl, by omega, Nat.le_refl _, .inl ⟨rfl, rfl⟩⟩, Below.refl _ _⟩
  case round =>
    obtain ⟨q, i, s, N, HN, N0, N1, rfl, rfl, rfl, HS, hbel⟩ := hrel
    have hsz := hbel.size
    have hi21 : i ≤ 21 := HS.out.2.1
    have hsl : s.length = i := HS.out.1
    have hqu : q ≤ u := HS.out.2.2.1
    have hN0 : N = 0 ↔ q = 0 := by rw [HN.out]; exact Nm.sg_zero
    have HNA : Hid (N.natAbs = q) := by rw [Hid, HN.out]; exact Nm.sg_natAbs B q
    obtain ⟨R, hR⟩ : ∃ R, N.tmod 10 = R := ⟨_, rfl⟩
    obtain ⟨M, hM⟩ : ∃ M, N.tdiv 10 = M := ⟨_, rfl⟩
    have HR : Hid (R = Nm.sg B (q % 10)) := by rw [Hid, ← hR, HN.out]; exact Nm.sg_rem B q
    have HM : Hid (M = Nm.sg B (q / 10)) := by rw [Hid, ← hM, HN.out]; exact Nm.sg_quo B q
    have M01 : -9223372036854775807 ≤ M ∧ M ≤ 9223372036854775807 := by rw [HM.out]; exact Nm.sg_in (by omega)
    have hMa : M.natAbs = q / 10 := by rw [HM.out]; exact Nm.sg_natAbs B _
    have HMA := Lib.hid hMa
    clear hMa
    by_cases hgo : i = 0 ∨ q ≠ 0
    · have hab := Nm.sg_abs B (q % 10)
      rw [← HR.out] at hab
      obtain ⟨c, hc⟩ : ∃ c, c = UInt8.ofNat (48 + q % 10) := ⟨_, rfl⟩
      have hcn : c.toNat = 48 + q % 10 := by rw [hc, Nm.toNat_of (by omega)]
      have HC := Lib.hid hc
      clear hc
      have hadd : ∀ w, (Op.stringOp .add (S [c]) (S s)).run Tryd.prog w = .ok (.string (S (c :: s))) w := fun w => add_S [c] s (by simp; omega) w
      have HNX := HS.out.next hgo hd.out
      rw [← HC.out] at HNX
      have HGO := Lib.hid hgo
      have HNX := Lib.hid HNX
      have hsp : i = 0 ∨ (i ≠ 0 ∧ N ≠ 0) := by
        by_cases hi : i = 0
        · exact .inl hi
        · exact .inr ⟨hi, fun h => by rcases hgo with h1 | h1; exact hi h1; exact h1 (hN0.1 h)⟩
      clear hgo
      have zs := S_size s
      rcases hsp with hi | ⟨hi, hnz⟩
      · by_cases hneg : R < 0
        · obtain ⟨X, hX⟩ : ∃ X, -R = X := ⟨_, rfl⟩
          have hx := hab.1 hneg
          rw [hX] at hx
          have hcv := Tx_conv wr [c] 1 #[.int .u8 (48 + X)] (by simp only [V, List.map_cons, List.map_nil, hcn]; congr 3; omega) rfl
          have X9 : 0 ≤ X ∧ X ≤ 9 := by omega
          clear hab hx HC hcn hsl hN0
          go_wp2_with fail
          go_roundw
          case rel => exact ⟨q / 10, i + 1, c :: s, M, HM, by omega, by omega, rfl, rfl, by first | rfl | (congr 1; omega), HNX, hbel.alloc hsz _⟩
          case measure =>
            have h1 := HMA.out
            have h2 := HNA.out
            have h3 := HGO.out
            simp [intOf]
            omega
        · have hx := hab.2 hneg
          have hcv := Tx_conv wr [c] 1 #[.int .u8 (48 + R)] (by simp only [V, List.map_cons, List.map_nil, hcn]; congr 3; omega) rfl
          have X9 : 0 ≤ R ∧ R ≤ 9 := by omega
          clear hab hx HC hcn hsl hN0
          go_wp2_with fail
          go_roundw
          case rel => exact ⟨q / 10, i + 1, c :: s, M, HM, by omega, by omega, rfl, rfl, by first | rfl | (congr 1; omega), HNX, hbel.alloc hsz _⟩
          case measure =>
            have h1 := HMA.out
            have h2 := HNA.out
            have h3 := HGO.out
            simp [intOf]
            omega
      · have hib : ((i : Int) == 0) = false := beq_eq_false_iff_ne.2 (by omega)
        have hnb : (N != 0) = true := bne_iff_ne.2 hnz
        by_cases hneg : R < 0
        · obtain ⟨X, hX⟩ : ∃ X, -R = X := ⟨_, rfl⟩
          have hx := hab.1 hneg
          rw [hX] at hx
          have hcv := Tx_conv wr [c] 1 #[.int .u8 (48 + X)] (by simp only [V, List.map_cons, List.map_nil, hcn]; congr 3; omega) rfl
          have X9 : 0 ≤ X ∧ X ≤ 9 := by omega
          clear hab hx HC hcn hsl hN0
          go_wp2_with fail
          go_roundw
          case rel => exact ⟨q / 10, i + 1, c :: s, M, HM, by omega, by omega, rfl, rfl, by first | rfl | (congr 1; omega), HNX, hbel.alloc hsz _⟩
          case measure =>
            have h1 := HMA.out
            have h2 := HNA.out
            have h3 := HGO.out
            simp [intOf]
            omega
        · have hx := hab.2 hneg
          have hcv := Tx_conv wr [c] 1 #[.int .u8 (48 + R)] (by simp only [V, List.map_cons, List.map_nil, hcn]; congr 3; omega) rfl
          have X9 : 0 ≤ R ∧ R ≤ 9 := by omega
          clear hab hx HC hcn hsl hN0
          go_wp2_with fail
          go_roundw
          case rel => exact ⟨q / 10, i + 1, c :: s, M, HM, by omega, by omega, rfl, rfl, by first | rfl | (congr 1; omega), HNX, hbel.alloc hsz _⟩
          case measure =>
            have h1 := HMA.out
            have h2 := HNA.out
            have h3 := HGO.out
            simp [intOf]
            omega
    · have hi : i ≠ 0 := fun h => hgo (.inl h)
      have hq0 : q = 0 := Classical.byContradiction fun h => hgo (.inr h)
      have hNz : N = 0 := hN0.2 hq0
      have hs := (hq0 ▸ HS.out).done hi
      have HS' := Lib.hid hs
      have hib : ((i : Int) == 0) = false := beq_eq_false_iff_ne.2 (by omega)
      have hnb : (N != 0) = false := by rw [hNz]; rfl
      have zs := S_size s
      clear hs hgo hN0 hq0 hNz
      have z : s.length ≤ 21 := by omega
      clear hsl
      cases B with
      | true =>
        have hadd : ∀ w, (Op.stringOp .add (S [45]) (S s)).run Tryd.prog w = .ok (.string (S (45 :: s))) w := fun w => add_S [45] s (by simp; omega) w
        have e45 : (⟨#[45]⟩ : ByteArray) = S [45] := rfl
        rw [← e45] at hadd
        clear e45
        go_wp2_with fail
        go_ret
        refine ⟨ret_str ?_, hbel⟩
        rw [Nm.itoa_neg (of_decide_eq_true hbn), HS'.out, HU.out]
      | false =>
        go_wp2_with fail
        go_ret
        refine ⟨ret_str ?_, hbel⟩
        have hn := of_decide_eq_false hbn
        rw [Nm.itoa_nn hn, HS'.out, HU.out, show n.natAbs = n.toNat by omega]
end Go.Proofs.YtpifbmcgadjhbaaDoor
