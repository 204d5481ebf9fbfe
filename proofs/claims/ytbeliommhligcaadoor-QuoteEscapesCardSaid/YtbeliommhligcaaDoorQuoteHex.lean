/-
  What digits (of the laws) comes to: four hexadecimal ones, of either case; a rune by \u , and by a byte behind a \ .
-/
import Derived.Test.YtbeliommhligcaaDoorQuoteRef
import Derived.BigRegion
namespace Go.Proofs.YtbeliommhligcaaDoor
open Go.RowKit

namespace Qm
def hd (big : Bool) (d : Nat) : UInt8 := UInt8.ofNat (if d < 10 then 48 + d else if big then 55 + d else 87 + d)
theorem hd_ok (big : Bool) (d : Nat) (h : d < 16) : dB (hd big d) = true ∧ dV (hd big d) = d := by
  have : ∀ (b : Bool) (x : Fin 16), dB (hd b x.val) = true ∧ dV (hd b x.val) = x.val := by decide +kernel
  exact this big ⟨d, h⟩
/-- four digits -/
def h4 (big : Bool) (n : Nat) : List UInt8 := [hd big (n / 4096 % 16), hd big (n / 256 % 16), hd big (n / 16 % 16), hd big (n % 16)]
theorem f4_h4 (big : Bool) (n : Nat) (hn : n < 65536) (r : List UInt8) : f4 (h4 big n ++ r) = (n, 0) := by
  obtain ⟨a1, a2⟩ := hd_ok big (n / 4096 % 16) (by omega)
  obtain ⟨b1, b2⟩ := hd_ok big (n / 256 % 16) (by omega)
  obtain ⟨c1, c2⟩ := hd_ok big (n / 16 % 16) (by omega)
  obtain ⟨d1, d2⟩ := hd_ok big (n % 16) (by omega)
  unfold f4 h4
  simp only [List.cons_append, List.nil_append, hexs, a1, b1, c1, d1, a2, b2, c2, d2, if_true]
  congr 1
  omega
/-- \u and a number -/
def un (big : Bool) (n : Nat) : List UInt8 := 92 :: 117 :: h4 big n
theorem one_esc_u (l : List UInt8) : one (92 :: 117 :: l) = shift 1 (shift 1 (num l)) := rfl
theorem one_un (big : Bool) (n : Nat) (hr : Um.rn n) (hn : n < 65536) (r : List UInt8) : one (un big n ++ r) = (n, 6, 0) := by
  have h := f4_h4 big n hn r
  have hs : isS n = false := by rw [Bool.eq_false_iff]; intro e; rw [isS_iff] at e; unfold Um.rn at hr; omega
  have hf : isF n = false := by rw [Bool.eq_false_iff]; intro e; rw [isF_iff] at e; unfold Um.rn at hr; omega
  unfold un
  rw [List.cons_append, List.cons_append, one_esc_u, num_p h hs hf]
  rfl
theorem one_two (big : Bool) (n : Nat) (h0 : 65536 ≤ n) (h1 : n ≤ 1114111) (r : List UInt8) : one (un big (55296 + (n - 65536) / 1024) ++ (un big (56320 + (n - 65536) % 1024) ++ r)) = (n, 12, 0) := by
  have ha := f4_h4 big (55296 + (n - 65536) / 1024) (by omega) (un big (56320 + (n - 65536) % 1024) ++ r)
  have hb := f4_h4 big (56320 + (n - 65536) % 1024) (by omega) r
  have hs : isS (55296 + (n - 65536) / 1024) = false := by rw [Bool.eq_false_iff]; intro e; rw [isS_iff] at e; omega
  have hf : isF (55296 + (n - 65536) / 1024) = true := by rw [isF_iff]; omega
  have hm : isS (56320 + (n - 65536) % 1024) = true := by rw [isS_iff]; omega
  have hp : pair (55296 + (n - 65536) / 1024) (56320 + (n - 65536) % 1024) = n := by unfold pair; omega
  have e1 : un big (55296 + (n - 65536) / 1024) ++ (un big (56320 + (n - 65536) % 1024) ++ r) = 92 :: 117 :: (h4 big (55296 + (n - 65536) / 1024) ++ (un big (56320 + (n - 65536) % 1024) ++ r)) := rfl
  rw [e1, one_esc_u, num_F ha hs hf]
  have e2 : (h4 big (55296 + (n - 65536) / 1024) ++ (un big (56320 + (n - 65536) % 1024) ++ r)).drop 4 = 92 :: 117 :: (h4 big (56320 + (n - 65536) % 1024) ++ r) := rfl
  rw [e2, snd0, if_pos rfl, snd1, if_pos rfl, snd2_of hb, hm, hp]
  rfl
def YS : List UInt8 := [34, 92, 47, 98, 102, 110, 114, 116]
def ZS : List UInt8 := [34, 92, 47, 8, 12, 10, 13, 9]
theorem one_y (k : Nat) (hk : k < 8) (r : List UInt8) : one (92 :: YS.getD k 0 :: r) = ((ZS.getD k 0).toNat, 2, 0) ∧ Um.enc (ZS.getD k 0).toNat = [ZS.getD k 0] := by
  obtain rfl | rfl | rfl | rfl | rfl | rfl | rfl | rfl : k = 0 ∨ k = 1 ∨ k = 2 ∨ k = 3 ∨ k = 4 ∨ k = 5 ∨ k = 6 ∨ k = 7 := by omega
  all_goals exact ⟨rfl, rfl⟩
end Qm
/-- the digits that the law has, as texts -/
def AL (big : Bool) : ByteArray := if big then ⟨#[48, 49, 50, 51, 52, 53, 54, 55, 56, 57, 65, 66, 67, 68, 69, 70]⟩ else ⟨#[48, 49, 50, 51, 52, 53, 54, 55, 56, 57, 97, 98, 99, 100, 101, 102]⟩
theorem idx_AL (big : Bool) (k : Nat) (h : k < 16) (w : World) : (Instr.index 9 (.string (AL big)) (.int .i64 (k : Int))).run Tryd.prog w = .ok (.int .u8 ((Qm.hd big k).toNat : Int)) w := by
  obtain rfl | rfl | rfl | rfl | rfl | rfl | rfl | rfl | rfl | rfl | rfl | rfl | rfl | rfl | rfl | rfl : k = 0 ∨ k = 1 ∨ k = 2 ∨ k = 3 ∨ k = 4 ∨ k = 5 ∨ k = 6 ∨ k = 7 ∨ k = 8 ∨ k = 9 ∨ k = 10 ∨ k = 11 ∨ k = 12 ∨ k = 13 ∨ k = 14 ∨ k = 15 := by omega
  all_goals cases big
  all_goals kernel_rfl
theorem and15i (n : Nat) (h : n < 100000000) : bits .and .i64 (n : Int) 15 = ((n % 16 : Nat) : Int) := by
  show IntKind.i64.wrap ((BitVec.ofInt 64 (n : Int) &&& BitVec.ofInt 64 ((15 : Nat) : Int)).toNat : Int) = _
  rw [BitVec.toNat_and, ofInt_u64 _ (by omega), ofInt_u64 _ (by omega), show (15 : Nat) = 2 ^ 4 - 1 from rfl, Nat.and_two_pow_sub_one_eq_mod n 4]
  exact IntWalk.i64_in _ (by omega)
theorem conv_newd (w : World) (l : List UInt8) (n : Nat) (cs : Array Value) (hc : cs = (V l).toArray) (hn : n = l.length) :
    (convert 37 9 (.slice (some ⟨w.heap.size, 0, none⟩) n n)).run Tryd.prog (w.alloc (.cells cs 5)).drew = .ok (.string (S l)) (w.alloc (.cells cs 5)).drew := by
  subst hc
  subst hn
  refine run_convert_bytes_back (P := Tryd.prog) (w.alloc (.cells (V l).toArray 5)).drew 37 9 5 ⟨w.heap.size, 0, none⟩ l.length l Tryd.underlying37 Tryd.underlying5 Tryd.underlying9 ?_
  intro j hj
  have ha : (⟨w.heap.size, 0, none⟩ : Addr).add j = ⟨w.heap.size, j, none⟩ := by unfold Addr.add; split <;> simp_all
  rw [ha, cell_of_row _ w.heap.size j _ _ _ (show (w.alloc (.cells (V l).toArray 5)).drew.heap[w.heap.size]? = _ from heap_alloc_new w _)]
  simp [V, List.getElem?_eq_getElem hj]
set_option maxRecDepth 100000 in
set_option maxHeartbeats 1600000 in
theorem digits_any (n : Nat) (big : Bool) (w : World) (hn : n ≤ 1114111) :
    Calls Tryd.prog 16 #[.int .i64 (n : Int), .bool big] w fun e w' => e = .returned (.string (S (Qm.h4 big n))) ∧ Below w.heap.size w w' := by
  have q3 := and15i (n / 4096) (by omega)
  have q2 := and15i (n / 256) (by omega)
  have q1 := and15i (n / 16) (by omega)
  have q0 := and15i n (by omega)
  rw [show ((n / 4096 : Nat) : Int) = (n : Int) / 4096 by omega] at q3
  rw [show ((n / 256 : Nat) : Int) = (n : Int) / 256 by omega] at q2
  rw [show ((n / 16 : Nat) : Int) = (n : Int) / 16 by omega] at q1
  have b3 : n / 4096 % 16 < 16 := by omega
  have b2 : n / 256 % 16 < 16 := by omega
  have b1 : n / 16 % 16 < 16 := by omega
  have b0 : n % 16 < 16 := by omega
  have HR : Hid (Qm.h4 big n = [Qm.hd big (n / 4096 % 16), Qm.hd big (n / 256 % 16), Qm.hd big (n / 16 % 16), Qm.hd big (n % 16)]) := rfl
  generalize n / 4096 % 16 = k3 at *
  generalize n / 256 % 16 = k2 at *
  generalize n / 16 % 16 = k1 at *
  generalize n % 16 = k0 at *
  have i3 := idx_AL big k3 b3
  have i2 := idx_AL big k2 b2
  have i1 := idx_AL big k1 b1
  have i0 := idx_AL big k0 b0
  generalize Qm.hd big k3 = c3 at *
  generalize Qm.hd big k2 = c2 at *
  generalize Qm.hd big k1 = c1 at *
  generalize Qm.hd big k0 = c0 at *
  generalize Qm.h4 big n = R at *
  have hcv := conv_newd w R 4 #[.int .u8 (c3.toNat : Int), .int .u8 (c2.toNat : Int), .int .u8 (c1.toNat : Int), .int .u8 (c0.toNat : Int)] (by rw [HR.out]; rfl) (by rw [HR.out]; rfl)
  clear HR
  cases big
  · have i3' : ∀ w, (Instr.index 9 (.string ⟨#[48, 49, 50, 51, 52, 53, 54, 55, 56, 57, 97, 98, 99, 100, 101, 102]⟩) (.int .i64 (k3 : Int))).run Tryd.prog w = .ok (.int .u8 (c3.toNat : Int)) w := i3
    have i2' : ∀ w, (Instr.index 9 (.string ⟨#[48, 49, 50, 51, 52, 53, 54, 55, 56, 57, 97, 98, 99, 100, 101, 102]⟩) (.int .i64 (k2 : Int))).run Tryd.prog w = .ok (.int .u8 (c2.toNat : Int)) w := i2
    have i1' : ∀ w, (Instr.index 9 (.string ⟨#[48, 49, 50, 51, 52, 53, 54, 55, 56, 57, 97, 98, 99, 100, 101, 102]⟩) (.int .i64 (k1 : Int))).run Tryd.prog w = .ok (.int .u8 (c1.toNat : Int)) w := i1
    have i0' : ∀ w, (Instr.index 9 (.string ⟨#[48, 49, 50, 51, 52, 53, 54, 55, 56, 57, 97, 98, 99, 100, 101, 102]⟩) (.int .i64 (k0 : Int))).run Tryd.prog w = .ok (.int .u8 (c0.toNat : Int)) w := i0
    clear i3 i2 i1 i0
    go_enter Tryd.func16, Tryd.ntmps16
    go_wp2_with fail
    go_region
    all_goals
      go_wp2_with fail
      go_ret
      exact ⟨rfl, ((Below.refl _ _).alloc (Nat.le_refl _) _).drew⟩
  · have i3' : ∀ w, (Instr.index 9 (.string ⟨#[48, 49, 50, 51, 52, 53, 54, 55, 56, 57, 65, 66, 67, 68, 69, 70]⟩) (.int .i64 (k3 : Int))).run Tryd.prog w = .ok (.int .u8 (c3.toNat : Int)) w := i3
    have i2' : ∀ w, (Instr.index 9 (.string ⟨#[48, 49, 50, 51, 52, 53, 54, 55, 56, 57, 65, 66, 67, 68, 69, 70]⟩) (.int .i64 (k2 : Int))).run Tryd.prog w = .ok (.int .u8 (c2.toNat : Int)) w := i2
    have i1' : ∀ w, (Instr.index 9 (.string ⟨#[48, 49, 50, 51, 52, 53, 54, 55, 56, 57, 65, 66, 67, 68, 69, 70]⟩) (.int .i64 (k1 : Int))).run Tryd.prog w = .ok (.int .u8 (c1.toNat : Int)) w := i1
    have i0' : ∀ w, (Instr.index 9 (.string ⟨#[48, 49, 50, 51, 52, 53, 54, 55, 56, 57, 65, 66, 67, 68, 69, 70]⟩) (.int .i64 (k0 : Int))).run Tryd.prog w = .ok (.int .u8 (c0.toNat : Int)) w := i0
    clear i3 i2 i1 i0
    go_enter Tryd.func16, Tryd.ntmps16
    go_wp2_with fail
    go_region
    all_goals
      go_wp2_with fail
      go_ret
      exact ⟨rfl, ((Below.refl _ _).alloc (Nat.le_refl _) _).drew⟩
end Go.Proofs.YtbeliommhligcaaDoor
