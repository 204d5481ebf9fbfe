/-
  The walk of HexNames: it comes to true.
-/
import Derived.Test.YthanefhceopcfaaDoorHexAwake
namespace Go.Proofs.YthanefhceopcfaaDoor
open Go.RowKit

/-- the text of one byte, and its digits -/
def B1 (k : Nat) : ByteArray := S [UInt8.ofNat k]
def E1 (k : Nat) : ByteArray := S (Hm.enc [UInt8.ofNat k])
theorem conv1n (w : World) (k : Nat) (h1 : k ≤ 255) :
    (convert 23 9 (.slice (some ⟨w.heap.size, 0, none⟩) 1 1)).run Tryd.prog (w.alloc (.cells #[.int .u8 (k : Int)] 5)) = .ok (.string (B1 k)) (w.alloc (.cells #[.int .u8 (k : Int)] 5)) := by
  have h := conv1 w (k : Int) (by omega) (by omega)
  rw [h]; rfl
theorem byte_nat (k : Nat) (h : k ≤ 255) : (UInt8.ofNat k).toNat = k := by rw [UInt8.toNat_ofNat']; omega
theorem enc1_eq (k : Nat) (h : k ≤ 255) : Hm.enc [UInt8.ofNat k] = Hm.low 2 k := by
  have hb := byte_nat k h
  show [Hm.dgb ((UInt8.ofNat k).toNat / 16), Hm.dgb ((UInt8.ofNat k).toNat % 16)] = [Hm.dgb (k / 16 ^ 1 % 16), Hm.dgb (k / 16 ^ 0 % 16)]
  rw [hb, show k / 16 ^ 1 % 16 = k / 16 by simp; omega, show k / 16 ^ 0 % 16 = k % 16 by simp]
theorem digs2_eq (k : Nat) (h : k ≤ 255) : Hm.digs k 2 = Hm.low 2 k := by
  have hw : Hm.want 2 = 2 := by decide
  have hn : Hm.nd k ≤ 2 := by
    have h0 := Hm.nd_spec k (by omega)
    rcases Nat.lt_or_ge 2 (Hm.nd k) with h2 | h2
    · rcases h0.2.2.2 2 h2 with h3 | h3
      · omega
      · have : k / 16 ^ 2 = 0 := Nat.div_eq_of_lt (by omega)
        omega
    · exact h2
  unfold Hm.digs Hm.dlen
  rw [hw, show max (Hm.nd k) 2 = 2 by omega]

section
variable {w0 w : World}
theorem n_enc (h : Below w0.heap.size w0 w) (hT : Tab w0) (k : Nat) :
    Calls Tryd.prog 12 #[.string (B1 k)] w fun e w' => e = .returned (.string (E1 k)) ∧ Below w0.heap.size w0 w' :=
  encode_at h hT (B1 k) (by unfold B1; rw [S_size]; simp)
theorem n_num (h : Below w0.heap.size w0 w) (hT : Tab w0) (k : Nat) (hk : k ≤ 255) :
    Calls Tryd.prog 13 #[.string (E1 k)] w fun e w' => e = .returned (.tuple #[.int .u64 (k : Int), .int .i64 0]) ∧ w = w' := by
  have hd := Hm.digs_num k 2 (by omega)
  rw [digs2_eq k hk, ← enc1_eq k hk] at hd
  refine (number_at h hT (E1 k) (by unfold E1 maxLen; rw [S_size, Hm.enc_length]; simp)).mono ?_
  rintro e w' ⟨rfl, hw⟩
  unfold E1
  rw [S_data, hd.1, hd.2]
  exact ⟨rfl, hw⟩
theorem n_dec (h : Below w0.heap.size w0 w) (hT : Tab w0) (k : Nat) :
    Calls Tryd.prog 14 #[.string (E1 k)] w fun e w' => e = .returned (.tuple #[.string (B1 k), .int .i64 0]) ∧ Below w0.heap.size w0 w' := by
  refine (decode_at h hT (E1 k) (by unfold E1; rw [S_size, Hm.enc_length]; simp)).mono ?_
  rintro e w' ⟨rfl, hw⟩
  unfold E1
  rw [S_data, (Hm.dec_back _).1, (Hm.dec_back _).2]
  exact ⟨rfl, hw⟩
theorem n_dig (h : Below w0.heap.size w0 w) (hT : Tab w0) (k : Nat) (hk : k ≤ 255) (b : Bool) (hb : Hm.isD (k : Int) = b) (v : Int) (hv : Hm.hv (k : Int) = v) :
    Calls Tryd.prog 15 #[.string (B1 k), .int .i64 0] w fun e w' => e = .returned (.tuple #[.int .i64 v, .bool b]) ∧ w = w' := by
  subst hb hv
  have hz : (0 : Nat) < (B1 k).size := by unfold B1; rw [S_size]; simp
  have hd := Hm.dig_in (B1 k) 0 hz
  have hg : ((B1 k)[0].toNat : Int) = (k : Int) := by
    have : (B1 k)[0] = UInt8.ofNat k := rfl
    rw [this, byte_nat k hk]
  refine (digit_any (B1 k) 0 w (hT.below h hT.lt)).mono ?_
  rintro e w' ⟨rfl, hw⟩
  rw [hg] at hd
  rw [show (0 : Int) = ((0 : Nat) : Int) from rfl, hd.1, hd.2]
  exact ⟨rfl, hw⟩
theorem n_is (h : Below w0.heap.size w0 w) (hT : Tab w0) (k : Nat) (hk : k ≤ 255) (b : Bool) (hb : Hm.isD (k : Int) = b) :
    Calls Tryd.prog 16 #[.string (B1 k)] w fun e w' => e = .returned (.bool b) ∧ w = w' := by
  subst hb
  refine (is_at h hT (B1 k) (by unfold B1 maxLen; rw [S_size]; simp)).mono ?_
  rintro e w' ⟨rfl, hw⟩
  refine ⟨?_, hw⟩
  unfold B1
  rw [S_data]
  simp only [Hm.allD, List.all_cons, List.all_nil, Bool.and_true, byte_nat k hk]
theorem n_digs (h : Below w0.heap.size w0 w) (hT : Tab w0) (k : Nat) (hk : k ≤ 255) :
    Calls Tryd.prog 17 #[.int .u64 (k : Int), .int .i64 2] w fun e w' => e = .returned (.string (E1 k)) ∧ Below w0.heap.size w0 w' := by
  have := digits_at h hT k 2 (by omega)
  rw [digs2_eq k hk, ← enc1_eq k hk] at this
  exact this
end

/-- the nine rows of what is refused, as they lie in memory: text, Decode's error, Number's -/
def CS : Array Value := #[.string ⟨#[]⟩, .int .i64 0, .int .i64 4, .string ⟨#[102]⟩, .int .i64 4, .int .i64 0, .string ⟨#[102, 103]⟩, .int .i64 3, .int .i64 3, .string ⟨#[102, 103, 102]⟩, .int .i64 3, .int .i64 3, .string ⟨#[48, 65]⟩, .int .i64 3, .int .i64 3, .string ⟨#[32, 49]⟩, .int .i64 3, .int .i64 3, .string ⟨#[102, 102, 102, 102, 102, 102, 102, 102, 102, 102, 102, 102, 102, 102, 102, 102]⟩, .int .i64 0, .int .i64 0, .string ⟨#[48, 102, 102, 102, 102, 102, 102, 102, 102, 102, 102, 102, 102, 102, 102, 102, 102]⟩, .int .i64 4, .int .i64 5, .string ⟨#[48, 102, 102, 102, 102, 102, 102, 102, 102, 102, 102, 102, 102, 102, 102, 102, 102, 103]⟩, .int .i64 3, .int .i64 3]
def T9 : Nat → List UInt8
  | 0 => []
  | 1 => [102]
  | 2 => [102, 103]
  | 3 => [102, 103, 102]
  | 4 => [48, 65]
  | 5 => [32, 49]
  | 6 => [102, 102, 102, 102, 102, 102, 102, 102, 102, 102, 102, 102, 102, 102, 102, 102]
  | 7 => [48, 102, 102, 102, 102, 102, 102, 102, 102, 102, 102, 102, 102, 102, 102, 102, 102]
  | 8 => [48, 102, 102, 102, 102, 102, 102, 102, 102, 102, 102, 102, 102, 102, 102, 102, 102, 103]
  | _ => []
def A9 : Nat → Int
  | 0 => 0
  | 1 => 4
  | 2 => 3
  | 3 => 3
  | 4 => 3
  | 5 => 3
  | 6 => 0
  | 7 => 4
  | 8 => 3
  | _ => 0
def B9 : Nat → Int
  | 0 => 4
  | 1 => 0
  | 2 => 3
  | 3 => 3
  | 4 => 3
  | 5 => 3
  | 6 => 0
  | 7 => 5
  | 8 => 3
  | _ => 0
theorem nine (P : Nat → Prop) (h0 : P 0) (h1 : P 1) (h2 : P 2) (h3 : P 3) (h4 : P 4) (h5 : P 5) (h6 : P 6) (h7 : P 7) (h8 : P 8) (j : Nat) (h : j < 9) : P j := by
  obtain rfl | rfl | rfl | rfl | rfl | rfl | rfl | rfl | rfl : j = 0 ∨ j = 1 ∨ j = 2 ∨ j = 3 ∨ j = 4 ∨ j = 5 ∨ j = 6 ∨ j = 7 ∨ j = 8 := by omega
  all_goals assumption
theorem CS_at (j : Nat) (h : j < 9) : CS[j * 3]? = some (.string (S (T9 j))) ∧ CS[j * 3 + 1]? = some (.int .i64 (A9 j)) ∧ CS[j * 3 + 2]? = some (.int .i64 (B9 j)) :=
  nine (fun j => CS[j * 3]? = some (.string (S (T9 j))) ∧ CS[j * 3 + 1]? = some (.int .i64 (A9 j)) ∧ CS[j * 3 + 2]? = some (.int .i64 (B9 j))) ⟨rfl, rfl, rfl⟩ ⟨rfl, rfl, rfl⟩ ⟨rfl, rfl, rfl⟩ ⟨rfl, rfl, rfl⟩ ⟨rfl, rfl, rfl⟩ ⟨rfl, rfl, rfl⟩ ⟨rfl, rfl, rfl⟩ ⟨rfl, rfl, rfl⟩ ⟨rfl, rfl, rfl⟩ j h
theorem T9_ok (j : Nat) (h : j < 9) : Hm.decE (T9 j) = A9 j ∧ Hm.numE (T9 j) = B9 j ∧ (T9 j).length ≤ 18 :=
  nine (fun j => Hm.decE (T9 j) = A9 j ∧ Hm.numE (T9 j) = B9 j ∧ (T9 j).length ≤ 18) (by decide) (by decide) (by decide) (by decide) (by decide) (by decide) (by decide) (by decide) (by decide) j h
theorem n9_none (j : Nat) (h : j < 9) (ha : A9 j ≠ 0) : S (Hm.decV (T9 j)) = ⟨#[]⟩ := by
  rw [Hm.dec_none _ (by rw [(T9_ok j h).1]; exact ha)]; rfl
theorem n9_zero (j : Nat) (h : j < 9) (hb : B9 j ≠ 0) : Hm.numV (T9 j) = 0 := by
  have he := (T9_ok j h).2.1
  unfold Hm.numE at he
  unfold Hm.numV
  rw [if_neg]
  rintro ⟨h1, h2, h3⟩
  rw [if_neg (by simp [h1]), if_neg h2, if_neg (by omega)] at he
  exact hb he.symm
section
variable {w0 w : World}
theorem n9_dec (h : Below w0.heap.size w0 w) (hT : Tab w0) (j : Nat) (hj : j < 9) {X : ByteArray} (hX : S (Hm.decV (T9 j)) = X) :
    Calls Tryd.prog 14 #[.string (S (T9 j))] w fun e w' => e = .returned (.tuple #[.string X, .int .i64 (A9 j)]) ∧ Below w0.heap.size w0 w' := by
  subst hX
  have ho := T9_ok j hj
  have h1 := decode_at h hT (S (T9 j)) (by rw [S_size]; omega)
  rw [S_data, ho.1] at h1
  exact h1
theorem n9_num (h : Below w0.heap.size w0 w) (hT : Tab w0) (j : Nat) (hj : j < 9) {v : Int} (hv : Hm.numV (T9 j) = v) :
    Calls Tryd.prog 13 #[.string (S (T9 j))] w fun e w' => e = .returned (.tuple #[.int .u64 v, .int .i64 (B9 j)]) ∧ w = w' := by
  subst hv
  have ho := T9_ok j hj
  have h1 := number_at h hT (S (T9 j)) (by unfold maxLen; rw [S_size]; omega)
  rw [S_data, ho.2.1] at h1
  exact h1
end
/-- behind a call: the row's own variable, and the rows, are as they were -/
theorem row_kept {w wo w5 w6 : World} {a b c : Value} (HC : Hid (w5.heap[wo.heap.size]? = some (.cells CS 35 (0, 0)))) (hb : Below w.heap.size w w5)
    (h : Below (w5.alloc (.cells #[a, b, c] 35)).heap.size (w5.alloc (.cells #[a, b, c] 35)) w6) :
    w6.cell? ⟨w5.heap.size, 0, none⟩ = some a ∧ w6.cell? ⟨w5.heap.size, 1, none⟩ = some b ∧ w6.cell? ⟨w5.heap.size, 2, none⟩ = some c ∧ Hid (w6.heap[wo.heap.size]? = some (.cells CS 35 (0, 0))) ∧ Below w.heap.size w w6 := by
  have hlt : wo.heap.size < w5.heap.size := (Array.getElem?_eq_some_iff.1 HC.out).1
  have hz : (w5.alloc (.cells #[a, b, c] 35)).heap.size = w5.heap.size + 1 := by simp
  refine ⟨?_, ?_, ?_, ?_, ?_⟩
  · exact (h.cell (p := ⟨w5.heap.size, 0, none⟩) (by rw [hz]; exact Nat.lt_succ_self _)).trans (World.cell?_alloc_mark w5 _ _ _ 0)
  · exact (h.cell (p := ⟨w5.heap.size, 1, none⟩) (by rw [hz]; exact Nat.lt_succ_self _)).trans (World.cell?_alloc_mark w5 _ _ _ 1)
  · exact (h.cell (p := ⟨w5.heap.size, 2, none⟩) (by rw [hz]; exact Nat.lt_succ_self _)).trans (World.cell?_alloc_mark w5 _ _ _ 2)
  · exact (h.block _ (by rw [hz]; omega)).trans ((Below.heap_alloc w5 _ _ hlt).trans HC.out)
  · exact (hb.alloc hb.size _).trans (h.mono (by have := hb.size; rw [hz]; omega))
section
variable {w0 w : World}
theorem n_a (h : Below w0.heap.size w0 w) (hT : Tab w0) (i : Int) (hi : i < 0 ∨ 1 ≤ i) :
    Calls Tryd.prog 15 #[.string ⟨#[97]⟩, .int .i64 i] w fun e w' => e = .returned (.tuple #[.int .i64 0, .bool false]) ∧ w = w' := by
  have hd := Hm.dig_out ⟨#[97]⟩ i (by have : (⟨#[97]⟩ : ByteArray).size = 1 := rfl; omega)
  have h1 := digit_any ⟨#[97]⟩ i w (hT.below h hT.lt)
  rw [hd.1, hd.2] at h1
  exact h1
theorem n_none (h : Below w0.heap.size w0 w) (hT : Tab w0) :
    Calls Tryd.prog 16 #[.string ⟨#[]⟩] w fun e w' => e = .returned (.bool true) ∧ w = w' :=
  is_at h hT ⟨#[]⟩ (by unfold maxLen; decide)
end

set_option maxRecDepth 100000 in
set_option maxHeartbeats 1600000 in
theorem law_HexNames (w : World) (hT : Tab w) :
    Calls Tryd.prog 3 #[] w fun e w' => e = .returned (.bool true) ∧ Below w.heap.size w w' := by
  go_enter Tryd.func3, Tryd.ntmps3
  go_wp2_with fail
  refine (awake_any _ hT).mono ?_; rintro e w1 ⟨rfl, h1⟩
  go_wp2_with fail
  go_loopw [1, 2, 3, 4, 5, 6, 7, 8, 9, 10] (fun i _ _ _ _ _ _ _ _ _ wr => ∃ k : Nat, k ≤ 256 ∧ i = .int .i64 k ∧ Below w.heap.size w wr) (fun i _ _ _ _ _ _ _ _ _ _ => 256 - (intOf i).toNat)
  case atStart => exact ⟨0, by omega, rfl, h1⟩
  case round =>
    clear h1
    obtain ⟨k, hk, rfl, hb0⟩ := hrel
    by_cases hlt : k < 256
    · have hcv := conv1n wr k (by omega)
      have hz : ((E1 k).size : Int) = 2 := by unfold E1; rw [S_size, Hm.enc_length]; rfl
      have hba : Below w.heap.size w (wr.alloc (.cells #[.int .u8 (k : Int)] 5)) := hb0.alloc hb0.size _
      by_cases r1 : 48 ≤ k
      · by_cases r2 : k ≤ 57
        · have r3 : k < 256 := by omega
          clear hlt
          have q1 : decide ((48 : Int) ≤ (k : Int)) = true := decide_eq_true (by omega)
          have q2 : decide ((k : Int) ≤ (57 : Int)) = true := decide_eq_true (by omega)
          have q3 : decide ((97 : Int) ≤ (k : Int)) = false := decide_eq_false (by omega)
          have q4 : decide ((k : Int) ≤ (102 : Int)) = true := decide_eq_true (by omega)
          have hd : Hm.isD (k : Int) = true := by simp [Hm.isD]; omega
          have HD := Lib.hid hd
          clear hd
          go_wp2_with fail
          refine (n_enc hba hT k).mono ?_; rintro e w2 ⟨rfl, h2⟩
          go_wp2_with fail
          refine (n_num h2 hT k (by omega)).mono ?_; rintro e w3 ⟨rfl, rfl⟩
          go_wp2_with fail
          refine (n_dec h2 hT k).mono ?_; rintro e w3 ⟨rfl, h3⟩
          go_wp2_with fail
          refine (n_dig h3 hT k (by omega) true HD.out _ rfl).mono ?_; rintro e w4 ⟨rfl, rfl⟩
          go_wp2_with fail
          refine (n_is h3 hT k (by omega) true HD.out).mono ?_; rintro e w4 ⟨rfl, rfl⟩
          go_wp2_with fail
          refine (n_digs h3 hT k (by omega)).mono ?_; rintro e w4 ⟨rfl, h4⟩
          go_wp2_with fail
          go_roundw
          case rel => exact ⟨k + 1, by omega, by go_num, h4⟩
          case measure => simp [intOf]; omega
        · by_cases r3 : 97 ≤ k
          · by_cases r4 : k ≤ 102
            · have r5 : k < 256 := by omega
              clear hlt
              have q1 : decide ((48 : Int) ≤ (k : Int)) = true := decide_eq_true (by omega)
              have q2 : decide ((k : Int) ≤ (57 : Int)) = false := decide_eq_false (by omega)
              have q3 : decide ((97 : Int) ≤ (k : Int)) = true := decide_eq_true (by omega)
              have q4 : decide ((k : Int) ≤ (102 : Int)) = true := decide_eq_true (by omega)
              have hd : Hm.isD (k : Int) = true := by simp [Hm.isD]; omega
              have HD := Lib.hid hd
              clear hd
              go_wp2_with fail
              refine (n_enc hba hT k).mono ?_; rintro e w2 ⟨rfl, h2⟩
              go_wp2_with fail
              refine (n_num h2 hT k (by omega)).mono ?_; rintro e w3 ⟨rfl, rfl⟩
              go_wp2_with fail
              refine (n_dec h2 hT k).mono ?_; rintro e w3 ⟨rfl, h3⟩
              go_wp2_with fail
              refine (n_dig h3 hT k (by omega) true HD.out _ rfl).mono ?_; rintro e w4 ⟨rfl, rfl⟩
              go_wp2_with fail
              refine (n_is h3 hT k (by omega) true HD.out).mono ?_; rintro e w4 ⟨rfl, rfl⟩
              go_wp2_with fail
              refine (n_digs h3 hT k (by omega)).mono ?_; rintro e w4 ⟨rfl, h4⟩
              go_wp2_with fail
              go_roundw
              case rel => exact ⟨k + 1, by omega, by go_num, h4⟩
              case measure => simp [intOf]; omega
            · have r5 : 57 < k := by omega
              have q1 : decide ((48 : Int) ≤ (k : Int)) = true := decide_eq_true (by omega)
              have q2 : decide ((k : Int) ≤ (57 : Int)) = false := decide_eq_false (by omega)
              have q3 : decide ((97 : Int) ≤ (k : Int)) = true := decide_eq_true (by omega)
              have q4 : decide ((k : Int) ≤ (102 : Int)) = false := decide_eq_false (by omega)
              have hd : Hm.isD (k : Int) = false := by simp [Hm.isD]; omega
              have hv : Hm.hv (k : Int) = 0 := by unfold Hm.hv; omega
              have HD := Lib.hid hd
              have HV := Lib.hid hv
              clear hd hv
              go_wp2_with fail
              refine (n_enc hba hT k).mono ?_; rintro e w2 ⟨rfl, h2⟩
              go_wp2_with fail
              refine (n_num h2 hT k (by omega)).mono ?_; rintro e w3 ⟨rfl, rfl⟩
              go_wp2_with fail
              refine (n_dec h2 hT k).mono ?_; rintro e w3 ⟨rfl, h3⟩
              go_wp2_with fail
              refine (n_dig h3 hT k (by omega) false HD.out _ HV.out).mono ?_; rintro e w4 ⟨rfl, rfl⟩
              go_wp2_with fail
              refine (n_is h3 hT k (by omega) false HD.out).mono ?_; rintro e w4 ⟨rfl, rfl⟩
              go_wp2_with fail
              refine (n_digs h3 hT k (by omega)).mono ?_; rintro e w4 ⟨rfl, h4⟩
              go_wp2_with fail
              go_roundw
              case rel => exact ⟨k + 1, by omega, by go_num, h4⟩
              case measure => simp [intOf]; omega
          · have r5 : 57 < k := by omega
            have q1 : decide ((48 : Int) ≤ (k : Int)) = true := decide_eq_true (by omega)
            have q2 : decide ((k : Int) ≤ (57 : Int)) = false := decide_eq_false (by omega)
            have q3 : decide ((97 : Int) ≤ (k : Int)) = false := decide_eq_false (by omega)
            have q4 : decide ((k : Int) ≤ (102 : Int)) = true := decide_eq_true (by omega)
            have hd : Hm.isD (k : Int) = false := by simp [Hm.isD]; omega
            have hv : Hm.hv (k : Int) = 0 := by unfold Hm.hv; omega
            have HD := Lib.hid hd
            have HV := Lib.hid hv
            clear hd hv
            go_wp2_with fail
            refine (n_enc hba hT k).mono ?_; rintro e w2 ⟨rfl, h2⟩
            go_wp2_with fail
            refine (n_num h2 hT k (by omega)).mono ?_; rintro e w3 ⟨rfl, rfl⟩
            go_wp2_with fail
            refine (n_dec h2 hT k).mono ?_; rintro e w3 ⟨rfl, h3⟩
            go_wp2_with fail
            refine (n_dig h3 hT k (by omega) false HD.out _ HV.out).mono ?_; rintro e w4 ⟨rfl, rfl⟩
            go_wp2_with fail
            refine (n_is h3 hT k (by omega) false HD.out).mono ?_; rintro e w4 ⟨rfl, rfl⟩
            go_wp2_with fail
            refine (n_digs h3 hT k (by omega)).mono ?_; rintro e w4 ⟨rfl, h4⟩
            go_wp2_with fail
            go_roundw
            case rel => exact ⟨k + 1, by omega, by go_num, h4⟩
            case measure => simp [intOf]; omega
      · have r2 : ¬ 97 ≤ k := by omega
        have q1 : decide ((48 : Int) ≤ (k : Int)) = false := decide_eq_false (by omega)
        have q2 : decide ((k : Int) ≤ (57 : Int)) = true := decide_eq_true (by omega)
        have q3 : decide ((97 : Int) ≤ (k : Int)) = false := decide_eq_false (by omega)
        have q4 : decide ((k : Int) ≤ (102 : Int)) = true := decide_eq_true (by omega)
        have hd : Hm.isD (k : Int) = false := by simp [Hm.isD]; omega
        have hv : Hm.hv (k : Int) = 0 := by unfold Hm.hv; omega
        have HD := Lib.hid hd
        have HV := Lib.hid hv
        clear hd hv
        go_wp2_with fail
        refine (n_enc hba hT k).mono ?_; rintro e w2 ⟨rfl, h2⟩
        go_wp2_with fail
        refine (n_num h2 hT k (by omega)).mono ?_; rintro e w3 ⟨rfl, rfl⟩
        go_wp2_with fail
        refine (n_dec h2 hT k).mono ?_; rintro e w3 ⟨rfl, h3⟩
        go_wp2_with fail
        refine (n_dig h3 hT k (by omega) false HD.out _ HV.out).mono ?_; rintro e w4 ⟨rfl, rfl⟩
        go_wp2_with fail
        refine (n_is h3 hT k (by omega) false HD.out).mono ?_; rintro e w4 ⟨rfl, rfl⟩
        go_wp2_with fail
        refine (n_digs h3 hT k (by omega)).mono ?_; rintro e w4 ⟨rfl, h4⟩
        go_wp2_with fail
        go_roundw
        case rel => exact ⟨k + 1, by omega, by go_num, h4⟩
        case measure => simp [intOf]; omega
    · clear hk
      obtain ⟨wo, rfl⟩ : ∃ wo : World, wo = wr := ⟨_, rfl⟩
      have hG := hb0.size
      go_wp2_with fail
      go_loopw [12, 13, 14, 15, 16, 123] (fun _ _ _ _ _ i w5 => ∃ j : Nat, j ≤ 9 ∧ i = .int .i64 j ∧ Hid (w5.heap[wo.heap.size]? = some (.cells CS 35 (0, 0))) ∧ Below w.heap.size w w5) (fun _ _ _ _ _ i _ => 9 - (intOf i).toNat)
      case atStart => exact ⟨0, by omega, rfl, heap_alloc_new wo _, hb0.alloc hG _⟩
      case round =>
        obtain ⟨j, hj, rfl, HC, hb1⟩ := hrel
        obtain ⟨w5, rfl⟩ : ∃ w5 : World, w5 = wr := ⟨_, rfl⟩
        by_cases hlt2 : j < 9
        · obtain ⟨s0, s1, s2⟩ := CS_at j hlt2
          have c0 := (cell_of_row w5 _ (j * 3) CS _ _ HC.out).trans s0
          have c1 := (cell_of_row w5 _ (j * 3 + 1) CS _ _ HC.out).trans s1
          have c2 := (cell_of_row w5 _ (j * 3 + 2) CS _ _ HC.out).trans s2
          clear s0 s1 s2
          have hTx : Tab (w5.alloc (.cells #[.string (S (T9 j)), .int .i64 (A9 j), .int .i64 (B9 j)] 35)) := hT.below (hb1.alloc hb1.size _) hT.lt
          by_cases ha : A9 j = 0
          · by_cases hb : B9 j = 0
            · have qa : (A9 j != 0) = false := by rw [bne_eq_false_iff_eq]; exact ha
              have qb : (B9 j != 0) = false := by rw [bne_eq_false_iff_eq]; exact hb
              have HA := Lib.hid ha
              have HB := Lib.hid hb
              clear ha hb
              go_wp2_with fail
              refine (n9_dec (Below.refl _ _) hTx j hlt2 rfl).mono ?_; rintro e w6 ⟨rfl, h6⟩
              obtain ⟨x0, x1, x2, HC', hb6⟩ := row_kept HC hb1 h6
              have hT6 := hT.below hb6 hT.lt
              clear c0 c1 c2 h6
              go_wp2_with fail
              refine (n9_num (Below.refl _ _) hT6 j hlt2 rfl).mono ?_; rintro e w7 ⟨rfl, rfl⟩
              go_wp2_with fail
              go_roundw
              case rel => exact ⟨j + 1, by omega, by go_num, HC', hb6⟩
              case measure => simp [intOf]; omega
            · have qa : (A9 j != 0) = false := by rw [bne_eq_false_iff_eq]; exact ha
              have qb : (B9 j != 0) = true := by rw [bne_iff_ne]; exact hb
              have HA := Lib.hid ha
              have HB := Lib.hid hb
              clear ha hb
              go_wp2_with fail
              refine (n9_dec (Below.refl _ _) hTx j hlt2 rfl).mono ?_; rintro e w6 ⟨rfl, h6⟩
              obtain ⟨x0, x1, x2, HC', hb6⟩ := row_kept HC hb1 h6
              have hT6 := hT.below hb6 hT.lt
              clear c0 c1 c2 h6
              go_wp2_with fail
              refine (n9_num (Below.refl _ _) hT6 j hlt2 (n9_zero j hlt2 HB.out)).mono ?_; rintro e w7 ⟨rfl, rfl⟩
              go_wp2_with fail
              go_roundw
              case rel => exact ⟨j + 1, by omega, by go_num, HC', hb6⟩
              case measure => simp [intOf]; omega
          · by_cases hb : B9 j = 0
            · have qa : (A9 j != 0) = true := by rw [bne_iff_ne]; exact ha
              have qb : (B9 j != 0) = false := by rw [bne_eq_false_iff_eq]; exact hb
              have HA := Lib.hid ha
              have HB := Lib.hid hb
              clear ha hb
              go_wp2_with fail
              refine (n9_dec (Below.refl _ _) hTx j hlt2 (n9_none j hlt2 HA.out)).mono ?_; rintro e w6 ⟨rfl, h6⟩
              obtain ⟨x0, x1, x2, HC', hb6⟩ := row_kept HC hb1 h6
              have hT6 := hT.below hb6 hT.lt
              clear c0 c1 c2 h6
              go_wp2_with fail
              refine (n9_num (Below.refl _ _) hT6 j hlt2 rfl).mono ?_; rintro e w7 ⟨rfl, rfl⟩
              go_wp2_with fail
              go_roundw
              case rel => exact ⟨j + 1, by omega, by go_num, HC', hb6⟩
              case measure => simp [intOf]; omega
            · have qa : (A9 j != 0) = true := by rw [bne_iff_ne]; exact ha
              have qb : (B9 j != 0) = true := by rw [bne_iff_ne]; exact hb
              have HA := Lib.hid ha
              have HB := Lib.hid hb
              clear ha hb
              go_wp2_with fail
              refine (n9_dec (Below.refl _ _) hTx j hlt2 (n9_none j hlt2 HA.out)).mono ?_; rintro e w6 ⟨rfl, h6⟩
              obtain ⟨x0, x1, x2, HC', hb6⟩ := row_kept HC hb1 h6
              have hT6 := hT.below hb6 hT.lt
              clear c0 c1 c2 h6
              go_wp2_with fail
              refine (n9_num (Below.refl _ _) hT6 j hlt2 (n9_zero j hlt2 HB.out)).mono ?_; rintro e w7 ⟨rfl, rfl⟩
              go_wp2_with fail
              go_roundw
              case rel => exact ⟨j + 1, by omega, by go_num, HC', hb6⟩
              case measure => simp [intOf]; omega
        · clear HC
          go_wp2_with fail
          refine (n_a hb1 hT 1 (by omega)).mono ?_; rintro e w6 ⟨rfl, rfl⟩
          go_wp2_with fail
          refine (n_a hb1 hT (-1) (by omega)).mono ?_; rintro e w6 ⟨rfl, rfl⟩
          go_wp2_with fail
          refine (number_c hb1 hT [102, 102, 102, 102, 102, 102, 102, 102, 102, 102, 102, 102, 102, 102, 102, 102] (by decide) (v := 18446744073709551615) (e := 0) (by decide +kernel) (by decide +kernel)).mono ?_; rintro e w6 ⟨rfl, rfl⟩
          go_wp2_with fail
          refine (digits_c hb1 hT 18446744073709551615 0 (by decide) (v := [102, 102, 102, 102, 102, 102, 102, 102, 102, 102, 102, 102, 102, 102, 102, 102]) (by decide +kernel)).mono ?_; rintro e w6 ⟨rfl, h6⟩
          go_wp2_with fail
          refine (digits_c h6 hT 0 99 (by decide) (v := [48, 48, 48, 48, 48, 48, 48, 48, 48, 48, 48, 48, 48, 48, 48, 48]) (by decide +kernel)).mono ?_; rintro e w7 ⟨rfl, h7⟩
          go_wp2_with fail
          refine (digits_c h7 hT 16 (-5) (by decide) (v := [49, 48]) (by decide +kernel)).mono ?_; rintro e w8 ⟨rfl, h8⟩
          go_wp2_with fail
          refine (n_none h8 hT).mono ?_; rintro e w9 ⟨rfl, rfl⟩
          go_wp2_with fail
          go_ret
          exact ⟨rfl, h8⟩

end Go.Proofs.YthanefhceopcfaaDoor
