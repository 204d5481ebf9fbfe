/-
  The walk of ShaNames: it comes to true.
-/
import Derived.Test.YtgbdleenkblcfaaDoorShaLawB
import Derived.Laws.MakeOwn
namespace Go.Proofs.YtgbdleenkblcfaaDoor
open Go.RowKit

/-- the letter a, n times; a name, so that the walk does not look behind it -/
def Aa (n : Nat) : List UInt8 := List.replicate n 97
/-- k letters a, zeros behind them, n in all -/
def Am (n k : Nat) : List UInt8 := List.replicate k 97 ++ List.replicate (n - k) 0
theorem Aa_length (n : Nat) : (Aa n).length = n := List.length_replicate
theorem Am_length (n k : Nat) (h : k ≤ n) : (Am n k).length = n := by simp [Am]; omega
theorem Am_zero (n : Nat) : Am n 0 = List.replicate n 0 := by simp [Am]
theorem Am_full (n : Nat) : Am n n = Aa n := by simp [Am, Aa]
theorem Am_set (n k : Nat) (h : k < n) : (Am n k).set k 97 = Am n (k + 1) := by
  unfold Am
  rw [List.set_append_right _ _ (by simp), List.length_replicate, Nat.sub_self, show n - k = (n - (k + 1)) + 1 by omega, List.replicate_succ, List.set_cons_zero, List.replicate_succ', List.append_assoc]
  rfl
theorem AB_put (l : List UInt8) (k : Nat) (x : UInt8) : (AB l).setIfInBounds k (.int .u8 (x.toNat : Int)) = AB (l.set k x) := by
  simp [AB, V, List.map_set]
theorem set_AB8 (w : World) (b : Nat) (l : List UInt8) (t : TypeId) (fr : Nat × Nat) (h : w.heap[b]? = some (.cells (AB l) t fr)) (k : Nat) (x : UInt8) :
    (w.setCell ⟨b, k, none⟩ (.int .u8 (x.toNat : Int))).heap[b]? = some (.cells (AB (l.set k x)) t fr) := by
  rw [← AB_put]
  simp [World.setCell, Array.getElem?_modify, h]
theorem made_zeros (n : Nat) : madeCells (Value.int .u8 0).cells (n * 1) = AB (Am n 0) := by
  rw [Am_zero, Nat.mul_one]
  apply Array.ext
  · rw [size_madeCells, AB_size, List.length_replicate]
  · intro i h1 h2
    simp [madeCells, AB, V, Value.cells, Nat.mod_one]
theorem run_make_zeros (n : Nat) (c : Int) (hc : c = (n : Int)) (hn : n ≤ 100000000) (w : World) :
    (Instr.makeSlice 35 (.int .i64 c) (.int .i64 c)).run Tryd.prog w = .ok (.slice (some ⟨w.heap.size, 0, none⟩) n n) (w.alloc (.cells (AB (Am n 0)) 5)) := by
  subst hc
  obtain ⟨i0, hi, hz, hs, hb⟩ := info_parts info5
  have h := run_make (P := Tryd.prog) w 35 5 i0 _ Tryd.underlying35 hi hz .i64 .i64 (n : Int) (n : Int) (by omega) (by omega) (by rw [hb]; omega) (by omega)
  rw [h, Int.toNat_natCast, hs, made_zeros]
/-- string(row[:n]), the row n letters a and something else -/
theorem conv_row (w : World) (b N : Nat) (l : List UInt8) (n : Nat) (h : w.heap[b]? = some (.cells (AB l) 5 (0, 0))) (hn : n ≤ l.length) :
    (convert 35 9 (.slice (some ⟨b, 0, none⟩) n N)).run Tryd.prog w = .ok (.string (S (l.take n))) w := by
  have hl : (l.take n).length = n := by simp; omega
  have := run_convert_bytes_back (P := Tryd.prog) w 35 9 5 ⟨b, 0, none⟩ N (l.take n) Tryd.underlying35 Tryd.underlying5 Tryd.underlying9 (by
    intro j hj
    rw [hl] at hj
    have ha : (⟨b, 0, none⟩ : Addr).add j = ⟨b, j, none⟩ := by unfold Addr.add; split <;> simp_all
    rw [ha, cell_of_row w b j _ _ _ h]
    simp [AB, V, List.getElem?_eq_getElem (show j < l.length by omega)])
  rw [hl] at this
  exact this
theorem Aa_take (N n : Nat) (h : n ≤ N) : (Aa N).take n = Aa n := by simp [Aa, Nat.min_eq_left h]
theorem Aa_drop (n m : Nat) : (Aa n).drop m = Aa (n - m) := by simp [Aa]
theorem Aa_add (a b : Nat) : Aa a ++ Aa b = Aa (a + b) := by simp [Aa]

set_option maxHeartbeats 400000 in
theorem write_nil (s : ByteArray) (w : World) : Calls Tryd.prog 16 #[.pointer none, .string s] w fun e w' => e = .returned (.int .i64 2) ∧ w = w' := by
  go_enter Tryd.func16, Tryd.ntmps16
  go_wp2
  go_ret
  exact ⟨rfl, rfl⟩
set_option maxHeartbeats 400000 in
theorem sum_nil (w : World) : Calls Tryd.prog 18 #[.pointer none] w fun e w' => e = .returned (.string ⟨#[]⟩) ∧ w = w' := by
  go_enter Tryd.func18, Tryd.ntmps18
  go_wp2
  go_ret
  exact ⟨rfl, rfl⟩
set_option maxHeartbeats 400000 in
theorem len_nil (w : World) : Calls Tryd.prog 19 #[.pointer none] w fun e w' => e = .returned (.int .i64 0) ∧ w = w' := by
  go_enter Tryd.func19, Tryd.ntmps19
  go_wp2
  go_ret
  exact ⟨rfl, rfl⟩
set_option maxHeartbeats 400000 in
theorem copy_nil (w : World) : Calls Tryd.prog 17 #[.pointer none] w fun e w' => e = .returned (.pointer none) ∧ w = w' := by
  go_enter Tryd.func17, Tryd.ntmps17
  go_wp2
  go_ret
  exact ⟨rfl, rfl⟩

theorem dig_abcd : Hm.enc (Sm.sha [97, 98, 99, 100, 98, 99, 100, 101, 99, 100, 101, 102, 100, 101, 102, 103, 101, 102, 103, 104, 102, 103, 104, 105, 103, 104, 105, 106, 104, 105, 106, 107, 105, 106, 107, 108, 106, 107, 108, 109, 107, 108, 109, 110, 108, 109, 110, 111, 109, 110, 111, 112, 110, 111, 112, 113]) = [50, 52, 56, 100, 54, 97, 54, 49, 100, 50, 48, 54, 51, 56, 98, 56, 101, 53, 99, 48, 50, 54, 57, 51, 48, 99, 51, 101, 54, 48, 51, 57, 97, 51, 51, 99, 101, 52, 53, 57, 54, 52, 102, 102, 50, 49, 54, 55, 102, 54, 101, 99, 101, 100, 100, 52, 49, 57, 100, 98, 48, 54, 99, 49] := by decide +kernel

theorem set_A (w : World) (b n : Nat) (t : TypeId) (fr : Nat × Nat) (k : Nat) (hk : k < n) (h : w.heap[b]? = some (.cells (AB (Am n k)) t fr)) :
    (w.setCell ⟨b, k, none⟩ (.int .u8 97)).heap[b]? = some (.cells (AB (Am n (k + 1))) t fr) := by
  have := set_AB8 w b _ t fr h k 97
  rw [Am_set n k hk] at this
  exact this
theorem digest_s {w0 w : World} (h : Below w0.heap.size w0 w) (hT : Tabs w0) (l : List UInt8) (hl : l.length ≤ 900000000) {v : List UInt8} (hv : Hm.enc (Sm.sha l) = v) :
    Calls Tryd.prog 12 #[.string (S l)] w fun e w' => e = .returned (.string ⟨v.toArray⟩) ∧ Below w0.heap.size w0 w' ∧ Below w.heap.size w w' := digest_c h hT l hl hv
theorem conv_all (w : World) (b N n : Nat) (h : w.heap[b]? = some (.cells (AB (Am N N)) 5 (0, 0))) (hn : n ≤ N) :
    (convert 35 9 (.slice (some ⟨b, 0, none⟩) n N)).run Tryd.prog w = .ok (.string (S (Aa n))) w := by
  have := conv_row w b N _ n h (by rw [Am_length N N (Nat.le_refl _)]; exact hn)
  rwa [Am_full, Aa_take N n hn] at this
theorem unlike_false {n : Nat} (h : Sm.sha (Aa n) ≠ Sm.sha (Aa (n + 1))) : ((S (Sm.sha (Aa n))).toList == (S (Sm.sha (Aa (n + 1)))).toList) = false := by
  rw [S_toList, S_toList, beq_eq_false_iff_ne]
  exact h

set_option maxRecDepth 100000 in
set_option maxHeartbeats 3200000 in
theorem walk_ShaNames (N : Nat) (hN : N = 1000000) (hM : Hm.enc (Sm.sha (Aa N)) = [99, 100, 99, 55, 54, 101, 53, 99, 57, 57, 49, 52, 102, 98, 57, 50, 56, 49, 97, 49, 99, 55, 101, 50, 56, 52, 100, 55, 51, 101, 54, 55, 102, 49, 56, 48, 57, 97, 52, 56, 97, 52, 57, 55, 50, 48, 48, 101, 48, 52, 54, 100, 51, 57, 99, 99, 99, 55, 49, 49, 50, 99, 100, 48]) (hU : ∀ n, 50 ≤ n → n < 140 → Sm.sha (Aa n) ≠ Sm.sha (Aa (n + 1))) (w : World) (hT : Tabs w) :
    Calls Tryd.prog 5 #[] w fun e w' => e = .returned (.bool true) ∧ Below w.heap.size w w' := by
  have HM := Lib.hid hM
  have HU := Lib.hid hU
  have HN := Lib.hid hN
  have n1 : 140 ≤ N := by omega
  have n2 : N ≤ 9223372036854775807 := by omega
  clear hM hU hN
  go_enter Tryd.func5, Tryd.ntmps5
  go_wp2_with fail
  refine (awake_any _ hT).mono ?_; rintro e w1 ⟨rfl, h1⟩
  go_wp2_with fail
  refine (digest_c h1 hT _ (by decide) dig_abcd).mono ?_; rintro e w2 ⟨rfl, h2, _⟩
  have hmk := run_make_zeros N 1000000 (by rw [HN.out]; rfl) (by rw [HN.out]; decide)
  go_wp2_with fail
  have hR : Hid ((w2.alloc (.cells (AB (Am N 0)) 5)).heap[w2.heap.size]? = some (.cells (AB (Am N 0)) 5 (0, 0))) := heap_alloc_new w2 _
  have h3 : Below w.heap.size w (w2.alloc (.cells (AB (Am N 0)) 5)) := h2.alloc h2.size _
  have q2 := h2.size
  obtain ⟨B, hB⟩ : ∃ B, B = w2.heap.size := ⟨_, rfl⟩
  rw [← hB] at hR q2
  rw [← hB]
  clear hmk
  go_loopw [2] (fun i wr => ∃ k : Nat, k ≤ N ∧ i = .int .i64 k ∧ Hid (wr.heap[B]? = some (.cells (AB (Am N k)) 5 (0, 0))) ∧ Below w.heap.size w wr) (fun i _ => N - (intOf i).toNat)
  case atStart => exact ⟨0, by omega, rfl, hR, h3⟩
  case round =>
    clear hR h3 hB h1 h2
    obtain ⟨k, hk, rfl, hR, h3⟩ := hrel
    by_cases hlt : k < N
    · have hc := cell_AB wr B _ _ _ hR.out k (by rw [Am_length _ _ hk]; exact hlt)
      have hf := frozen_of_row wr B k _ _ hR.out
      have hs := Lib.hid (set_A wr B N _ _ k hlt hR.out)
      go_wp2_with fail
      go_roundw
      case rel => exact ⟨k + 1, by omega, by go_num, hs, h3.setCell q2 _⟩
      case measure => simp [intOf]; omega
    · obtain rfl : N = k := by omega
      clear hk hlt
      obtain ⟨W1, rfl⟩ : ∃ W1 : World, W1 = wr := ⟨_, rfl⟩
      have hB : B < W1.heap.size := (Array.getElem?_eq_some_iff.1 hR.out).1
      have hT1 := hT.below h3
      have hcv := conv_all W1 B N N hR.out (Nat.le_refl _)
      go_wp2_with fail
      refine (digest_s (Below.refl _ _) hT1 _ (by rw [Aa_length, HN.out]; decide) HM.out).mono ?_; rintro e w4 ⟨rfl, h4, _⟩
      clear hcv HM
      go_wp2_with fail
      go_loopw [3] (fun i wr => ∃ n : Nat, 50 ≤ n ∧ n ≤ 140 ∧ i = .int .i64 n ∧ Below W1.heap.size W1 wr) (fun i _ => 140 - (intOf i).toNat)
      case atStart => exact ⟨50, by omega, by omega, rfl, h4⟩
      case round =>
        clear h4
        obtain ⟨n, hn1, hn2, rfl, h4⟩ := hrel
        by_cases hlt : n < 140
        · have hcv := conv_all wr B N n ((h4.block B hB).trans hR.out) (by omega)
          obtain ⟨m, hm⟩ : ∃ m, m = n / 2 := ⟨_, rfl⟩
          obtain ⟨j, hj⟩ : ∃ j, m + j = n := ⟨n - m, by omega⟩
          have e1 : (n : Int).tdiv 2 = (m : Int) := by rw [Int.tdiv_eq_ediv_of_nonneg (by omega)]; omega
          have hx1 : (S (Aa n)).extract 0 m = S (Aa m) := by rw [S_take, Aa_take _ _ (by omega)]
          have hx2 : (S (Aa n)).extract m n = S (Aa j) := by have := S_drop (Aa n) m; rwa [Aa_length, Aa_drop, show n - m = j by omega] at this
          have zn : (S (Aa n)).size = n := by rw [S_size, Aa_length]
          have hne := unlike_false (HU.out n hn1 hlt)
          have eA : S (Aa n) ++ ⟨#[97]⟩ = S (Aa (n + 1)) := by have := S_add (Aa n) (Aa 1); rwa [Aa_add] at this
          have hmn : m ≤ n := by omega
          have HM := Lib.hid hm
          have HJ := Lib.hid hj
          clear hm hj
          go_wp2_with fail
          refine (new_at h4).mono ?_; rintro e w5 ⟨rfl, a5, h5, _⟩
          have q4 := h4.size
          go_wp2_with fail
          refine (write_at h5 hT1 a5 q4 (S (Aa m)) (by rw [S_size, Aa_length, List.length_nil]; omega)).mono ?_; rintro e w6 ⟨rfl, a6, h6, _⟩
          rw [S_data, List.nil_append] at a6
          go_wp2_with fail
          refine (write_at h6 hT1 a6 q4 ⟨#[]⟩ (by rw [Aa_length]; show m + 0 ≤ _; omega)).mono ?_; rintro e w7 ⟨rfl, a7, h7, _⟩
          rw [show Aa m ++ (⟨#[]⟩ : ByteArray).data.toList = Aa m from List.append_nil _] at a7
          go_wp2_with fail
          refine (write_at h7 hT1 a7 q4 (S (Aa j)) (by rw [S_size, Aa_length, Aa_length, HJ.out]; omega)).mono ?_; rintro e w8 ⟨rfl, a8, h8, _⟩
          rw [S_data, Aa_add, HJ.out] at a8
          clear a5 a6 a7 h5 h6 h7
          go_wp2_with fail
          refine (sum_at h8 hT1 a8 (by rw [Aa_length]; omega)).mono ?_; rintro e w9 ⟨rfl, h9, b9⟩
          have a9 := a8.below b9 a8.lt
          go_wp2_with fail
          refine (fsum_at h9 hT1 (S (Aa n)) (by rw [S_size, Aa_length]; omega)).mono ?_; rintro e w10 ⟨rfl, h10, b10⟩
          rw [S_data]
          have a10 := a9.below b10 a9.lt
          go_wp2_with fail
          refine (sum_at h10 hT1 a10 (by rw [Aa_length]; omega)).mono ?_; rintro e w11 ⟨rfl, h11, b11⟩
          have a11 := a10.below b11 a10.lt
          go_wp2_with fail
          refine (fsum_at h11 hT1 (S (Aa n)) (by rw [S_size, Aa_length]; omega)).mono ?_; rintro e w12 ⟨rfl, h12, b12⟩
          rw [S_data]
          have a12 := a11.below b12 a11.lt
          go_wp2_with fail
          refine (len_any _ _ _ a12).mono ?_; rintro e w13 ⟨rfl, rfl⟩
          rw [Aa_length]
          go_wp2_with fail
          refine (fsum_at h12 hT1 (S (Aa n)) (by rw [S_size, Aa_length]; omega)).mono ?_; rintro e w14 ⟨rfl, h14, _⟩
          rw [S_data]
          go_wp2_with fail
          refine (fsum_at h14 hT1 (S (Aa (n + 1))) (by rw [S_size, Aa_length]; omega)).mono ?_; rintro e w15 ⟨rfl, h15, _⟩
          rw [S_data]
          go_wp2_with fail
          go_roundw
          case rel => exact ⟨n + 1, by omega, by omega, by go_num, h15⟩
          case measure => simp [intOf]; omega
        · obtain rfl : n = 140 := by omega
          clear hlt hn1 hn2 HU
          have hbd := zero_hash
          obtain ⟨W2, rfl⟩ : ∃ W2 : World, W2 = wr := ⟨_, rfl⟩
          have hT2 := hT1.below h4
          have h40 := h3.trans (h4.mono h3.size)
          clear h4 hT1 hR hB h3
          have z0 := Hs.zero W2
          have h5 : Below W2.heap.size W2 (W2.alloc (.cells HC0 40)) := (Below.refl _ _).alloc (Nat.le_refl _) _
          go_wp2_with fail
          refine (write_at h5 hT2 z0 (Nat.le_refl _) ⟨#[97, 98, 99]⟩ (by decide)).mono ?_; rintro e w6 ⟨rfl, a6', h6, _⟩
          have a6 : Hs w6 W2.heap.size [97, 98, 99] := a6'
          clear z0 h5 a6'
          go_wp2_with fail
          refine (sum_at h6 hT2 a6 (by decide)).mono ?_; rintro e w7 ⟨rfl, h7, b7⟩
          clear a6 h6 b7
          go_wp2_with fail
          refine (fsum_at h7 hT2 ⟨#[97, 98, 99]⟩ (by decide)).mono ?_; rintro e w8 ⟨rfl, h8, b8⟩
          clear h7 b8
          have z0 := Hs.zero w8
          have h9 : Below W2.heap.size W2 (w8.alloc (.cells HC0 40)) := h8.alloc h8.size _
          go_wp2_with fail
          refine (sum_at h9 hT2 z0 (by decide)).mono ?_; rintro e w10 ⟨rfl, h10, b10⟩
          clear z0 h8 h9 b10
          go_wp2_with fail
          refine (fsum_at h10 hT2 ⟨#[]⟩ (by decide)).mono ?_; rintro e w11 ⟨rfl, h11, b11⟩
          clear h10 b11
          go_wp2_with fail
          refine (write_nil _ _).mono ?_; rintro e w12 ⟨rfl, rfl⟩
          go_wp2_with fail
          refine (sum_nil _).mono ?_; rintro e w12 ⟨rfl, rfl⟩
          go_wp2_with fail
          refine (len_nil _).mono ?_; rintro e w12 ⟨rfl, rfl⟩
          go_wp2_with fail
          refine (copy_nil _).mono ?_; rintro e w12 ⟨rfl, rfl⟩
          go_wp2_with fail
          go_ret
          exact ⟨rfl, h40.trans (h11.mono h40.size)⟩
end Go.Proofs.YtgbdleenkblcfaaDoor
