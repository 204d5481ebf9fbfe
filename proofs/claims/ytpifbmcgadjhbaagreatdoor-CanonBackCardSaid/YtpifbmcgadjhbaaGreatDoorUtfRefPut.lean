/-
  What the document's Rune and Put come to.
-/
import Derived.Test.YtpifbmcgadjhbaaGreatDoorUtfLen
namespace Go.Proofs.YtpifbmcgadjhbaaGreatDoor
open Go.RowKit

set_option maxHeartbeats 400000 in
theorem refRune_any (k : Int) (w : World) :
    Calls Tryz.prog 112 #[.int .i64 k] w fun e w' => e = .returned (.bool (decide (rune k))) ∧ w = w' := by
  by_cases h1 : 0 ≤ k
  · by_cases h2 : k ≤ 1114111
    · by_cases h3 : k < 55296
      · rw [show decide (rune k) = true by rw [decide_eq_true_eq]; unfold rune; omega]
        go_enter Tryz.func112, Tryz.ntmps112
        go_wp2_with fail
        go_ret
        exact ⟨rfl, rfl⟩
      · by_cases h4 : 57343 < k
        · rw [show decide (rune k) = true by rw [decide_eq_true_eq]; unfold rune; omega]
          go_enter Tryz.func112, Tryz.ntmps112
          go_wp2_with fail
          go_ret
          exact ⟨rfl, rfl⟩
        · rw [show decide (rune k) = false by rw [decide_eq_false_iff_not]; unfold rune; omega]
          go_enter Tryz.func112, Tryz.ntmps112
          go_wp2_with fail
          go_ret
          exact ⟨rfl, rfl⟩
    · rw [show decide (rune k) = false by rw [decide_eq_false_iff_not]; unfold rune; omega]
      go_enter Tryz.func112, Tryz.ntmps112
      go_wp2_with fail
      go_ret
      exact ⟨rfl, rfl⟩
  · rw [show decide (rune k) = false by rw [decide_eq_false_iff_not]; unfold rune; omega]
    go_enter Tryz.func112, Tryz.ntmps112
    go_wp2_with fail
    go_ret
    exact ⟨rfl, rfl⟩
/-- string([]byte{..}) of a block just laid -/
theorem conv_new (w : World) (l : List UInt8) (n : Nat) (cs : Array Value) (hc : cs = (V l).toArray) (hn : n = l.length) :
    (convert 36 9 (.slice (some ⟨w.heap.size, 0, none⟩) n n)).run Tryz.prog (w.alloc (.cells cs 5)) = .ok (.string (S l)) (w.alloc (.cells cs 5)) := by
  subst hc
  subst hn
  refine run_convert_bytes_back (P := Tryz.prog) (w.alloc (.cells (V l).toArray 5)) 36 9 5 ⟨w.heap.size, 0, none⟩ l.length l Tryz.underlying36 Tryz.underlying5 Tryz.underlying9 ?_
  intro j hj
  have ha : (⟨w.heap.size, 0, none⟩ : Addr).add j = ⟨w.heap.size, j, none⟩ := by unfold Addr.add; split <;> simp_all
  rw [ha, cell_of_row _ w.heap.size j _ _ _ (heap_alloc_new w _)]
  simp [V, List.getElem?_eq_getElem hj]
set_option maxRecDepth 100000 in
set_option maxHeartbeats 800000 in
theorem refPut_any (k : Int) (w : World) :
    Calls Tryz.prog 89 #[.int .i64 k] w fun e w' => e = .returned (.tuple #[.string (S (PUT k).1), .int .i64 (PUT k).2]) ∧ Below w.heap.size w w' := by
  by_cases hr : rune k
  · have hd : decide (rune k) = true := by simpa using hr
    rw [PUT_ok hr]
    obtain ⟨k0, kM⟩ : 0 ≤ k ∧ k ≤ 1114111 := by unfold rune at hr; omega
    have HD := Lib.hid hd
    clear hd hr
    by_cases h1 : k < 128
    · skip
      have he : Um.enc k.toNat = [UInt8.ofNat (k.toNat)] := by unfold Um.enc; rw [if_pos (by omega)]
      have hc := conv_new w (Um.enc k.toNat) 1 #[.int .u8 (k)] (by
        rw [he]
        simp only [V, List.map_cons, List.map_nil, Um.ofNat_toNat' (k.toNat) (by omega)]
        rw [show ((k.toNat : Nat) : Int) = k by omega]) (by rw [he]; rfl)
      clear he
      go_enter Tryz.func89, Tryz.ntmps89
      go_wp2_with fail
      refine (refRune_any _ _).mono ?_; rintro e w1 ⟨rfl, rfl⟩
      rw [HD.out]
      go_wp2_with fail
      go_ret2
      exact ⟨rfl, (Below.refl _ _).alloc (Nat.le_refl _) _⟩
    by_cases h2 : k < 2048
    · skip
      have he : Um.enc k.toNat = [UInt8.ofNat (192 + k.toNat / 64), UInt8.ofNat (128 + k.toNat % 64)] := by unfold Um.enc; rw [if_neg (by omega), if_pos (by omega)]
      have hc := conv_new w (Um.enc k.toNat) 2 #[.int .u8 (192 + k / 64), .int .u8 (128 + k % 64)] (by
        rw [he]
        simp only [V, List.map_cons, List.map_nil, Um.ofNat_toNat' (192 + k.toNat / 64) (by omega), Um.ofNat_toNat' (128 + k.toNat % 64) (by omega)]
        rw [show (192 + k / 64 : Int) = ((192 + k.toNat / 64 : Nat) : Int) by omega, show (128 + k % 64 : Int) = ((128 + k.toNat % 64 : Nat) : Int) by omega]) (by rw [he]; rfl)
      clear he
      go_enter Tryz.func89, Tryz.ntmps89
      go_wp2_with fail
      refine (refRune_any _ _).mono ?_; rintro e w1 ⟨rfl, rfl⟩
      rw [HD.out]
      go_wp2_with fail
      go_ret2
      exact ⟨rfl, (Below.refl _ _).alloc (Nat.le_refl _) _⟩
    by_cases h3 : k < 65536
    · skip
      have he : Um.enc k.toNat = [UInt8.ofNat (224 + k.toNat / 4096), UInt8.ofNat (128 + k.toNat / 64 % 64), UInt8.ofNat (128 + k.toNat % 64)] := by unfold Um.enc; rw [if_neg (by omega), if_neg (by omega), if_pos (by omega)]
      have hc := conv_new w (Um.enc k.toNat) 3 #[.int .u8 (224 + k / 4096), .int .u8 (128 + k / 64 % 64), .int .u8 (128 + k % 64)] (by
        rw [he]
        simp only [V, List.map_cons, List.map_nil, Um.ofNat_toNat' (224 + k.toNat / 4096) (by omega), Um.ofNat_toNat' (128 + k.toNat / 64 % 64) (by omega), Um.ofNat_toNat' (128 + k.toNat % 64) (by omega)]
        rw [show (224 + k / 4096 : Int) = ((224 + k.toNat / 4096 : Nat) : Int) by omega, show (128 + k / 64 % 64 : Int) = ((128 + k.toNat / 64 % 64 : Nat) : Int) by omega, show (128 + k % 64 : Int) = ((128 + k.toNat % 64 : Nat) : Int) by omega]) (by rw [he]; rfl)
      clear he
      go_enter Tryz.func89, Tryz.ntmps89
      go_wp2_with fail
      refine (refRune_any _ _).mono ?_; rintro e w1 ⟨rfl, rfl⟩
      rw [HD.out]
      go_wp2_with fail
      go_ret2
      exact ⟨rfl, (Below.refl _ _).alloc (Nat.le_refl _) _⟩
    · skip
      have he : Um.enc k.toNat = [UInt8.ofNat (240 + k.toNat / 262144), UInt8.ofNat (128 + k.toNat / 4096 % 64), UInt8.ofNat (128 + k.toNat / 64 % 64), UInt8.ofNat (128 + k.toNat % 64)] := by unfold Um.enc; rw [if_neg (by omega), if_neg (by omega), if_neg (by omega)]
      have hc := conv_new w (Um.enc k.toNat) 4 #[.int .u8 (240 + k / 262144), .int .u8 (128 + k / 4096 % 64), .int .u8 (128 + k / 64 % 64), .int .u8 (128 + k % 64)] (by
        rw [he]
        simp only [V, List.map_cons, List.map_nil, Um.ofNat_toNat' (240 + k.toNat / 262144) (by omega), Um.ofNat_toNat' (128 + k.toNat / 4096 % 64) (by omega), Um.ofNat_toNat' (128 + k.toNat / 64 % 64) (by omega), Um.ofNat_toNat' (128 + k.toNat % 64) (by omega)]
        rw [show (240 + k / 262144 : Int) = ((240 + k.toNat / 262144 : Nat) : Int) by omega, show (128 + k / 4096 % 64 : Int) = ((128 + k.toNat / 4096 % 64 : Nat) : Int) by omega, show (128 + k / 64 % 64 : Int) = ((128 + k.toNat / 64 % 64 : Nat) : Int) by omega, show (128 + k % 64 : Int) = ((128 + k.toNat % 64 : Nat) : Int) by omega]) (by rw [he]; rfl)
      clear he
      go_enter Tryz.func89, Tryz.ntmps89
      go_wp2_with fail
      refine (refRune_any _ _).mono ?_; rintro e w1 ⟨rfl, rfl⟩
      rw [HD.out]
      go_wp2_with fail
      go_ret2
      exact ⟨rfl, (Below.refl _ _).alloc (Nat.le_refl _) _⟩
  · have hd : decide (rune k) = false := by simpa using hr
    rw [PUT_no hr]
    have HD := Lib.hid hd
    clear hd hr
    go_enter Tryz.func89, Tryz.ntmps89
    go_wp2_with fail
    refine (refRune_any _ _).mono ?_; rintro e w1 ⟨rfl, rfl⟩
    rw [HD.out]
    go_wp2_with fail
    go_ret2
    exact ⟨rfl, Below.refl _ _⟩
end Go.Proofs.YtpifbmcgadjhbaaGreatDoor
