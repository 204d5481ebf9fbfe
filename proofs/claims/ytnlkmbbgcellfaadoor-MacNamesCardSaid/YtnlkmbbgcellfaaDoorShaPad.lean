/-
  What sha.padding comes to.
-/
import Derived.Test.YtnlkmbbgcellfaaDoorShaHash
namespace Go.Proofs.YtnlkmbbgcellfaaDoor
open Go.RowKit

namespace Sm
/-- the last k bytes of a number -/
def lowb (m : Nat) : Nat → List UInt8
  | 0 => []
  | k + 1 => UInt8.ofNat (m / 256 ^ k) :: lowb m k
theorem lowb_length (m k : Nat) : (lowb m k).length = k := by
  induction k with
  | zero => rfl
  | succ k ih => simp [lowb, ih]
def plen (n : Nat) : Nat := if 64 - n % 64 < 9 then 128 - n % 64 else 64 - n % 64
theorem plen_bd (n : Nat) : 9 ≤ plen n ∧ plen n ≤ 72 ∧ (n + plen n) % 64 = 0 := by unfold plen; split <;> omega
def pad (n : Nat) : List UInt8 := 128 :: (List.replicate (plen n - 9) 0 ++ lowb (8 * n) 8)
theorem pad_length (n : Nat) : (pad n).length = plen n := by
  have := plen_bd n
  simp [pad, lowb_length]; omega
/-- the array behind k rounds -/
def arr (m p k : Nat) : List UInt8 := 128 :: (List.replicate (p - 1 - k) 0 ++ (lowb m k ++ List.replicate (128 - p) 0))
theorem arr_length (m p k : Nat) (h1 : 9 ≤ p) (h2 : p ≤ 72) (hk : k ≤ 8) : (arr m p k).length = 128 := by simp [arr, lowb_length]; omega
theorem arr_set (m p k q : Nat) (hq : p - 1 - k = q + 1) : (arr m p k).set (q + 1) (UInt8.ofNat (m / 256 ^ k)) = arr m p (k + 1) := by
  unfold arr
  rw [hq, show p - 1 - (k + 1) = q by omega, List.replicate_succ', List.set_cons_succ, List.append_assoc, List.set_append_right _ _ (by simp)]
  simp [lowb]
theorem arr_end (n p : Nat) (h : p = plen n) : (arr (8 * n) p 8).take p = pad n := by
  have := plen_bd n
  unfold arr pad
  subst h
  obtain ⟨q, hq⟩ : ∃ q, plen n = q + 9 := ⟨plen n - 9, by omega⟩
  rw [hq, show q + 9 = (q + 8) + 1 by omega, List.take_succ_cons, show q + 8 + 1 - 1 - 8 = q by omega, show q + 8 + 1 - 9 = q by omega, ← List.append_assoc, List.take_left' (by simp [lowb_length])]
end Sm
theorem AB_set (l : List UInt8) (k : Nat) (b : UInt8) : (AB l).setIfInBounds k (.int .u8 (b.toNat : Int)) = AB (l.set k b) := by
  simp [AB, V, List.map_set]
theorem set_AB (w : World) (b : Nat) (l : List UInt8) (t : TypeId) (fr : Nat × Nat) (h : w.heap[b]? = some (.cells (AB l) t fr)) (k : Nat) (x : UInt8) :
    (w.setCell ⟨b, k, none⟩ (.int .u8 (x.toNat : Int))).heap[b]? = some (.cells (AB (l.set k x)) t fr) := by
  rw [← AB_set]
  simp [World.setCell, Array.getElem?_modify, h]
def Z128 : List UInt8 := List.replicate 128 0
theorem zero_128 (w : World) : (zeroValue 57).run Tryd.prog w = .ok (.agg (AB Z128)) w := by kernel_rfl

theorem pad_start (w : World) (m p : Nat) (h1 : 9 ≤ p) (h2 : p ≤ 72) :
    Hid ((w.alloc (.cells ((AB Z128).setIfInBounds 0 (.int .u8 128)) 57)).heap[w.heap.size]? = some (.cells (AB (Sm.arr m p 0)) 57 (0, 0))) := by
  have h := AB_set Z128 0 128
  have h' : (AB Z128).setIfInBounds 0 (.int .u8 128) = AB (Z128.set 0 128) := h
  rw [h']
  have e : Z128.set 0 128 = Sm.arr m p 0 := by
    unfold Sm.arr Z128 Sm.lowb
    rw [List.nil_append, List.replicate_append_replicate, show p - 1 - 0 + (128 - p) = 127 by omega]
    rfl
  rw [e]
  exact heap_alloc_new w _

theorem pad_byte (n k : Nat) : 8 * (n : Int) / 2 ^ (8 * k) % 256 = ((UInt8.ofNat (8 * n / 256 ^ k)).toNat : Int) := by
  have e1 : 8 * (n : Int) / 2 ^ (8 * k) = ((8 * n / 256 ^ k : Nat) : Int) := by
    have : (2 : Nat) ^ (8 * k) = 256 ^ k := by rw [Nat.pow_mul]
    rw [← this]; simp
  rw [e1]
  have : (UInt8.ofNat (8 * n / 256 ^ k)).toNat = 8 * n / 256 ^ k % 256 := by simp [UInt8.toNat_ofNat']
  rw [this]
  omega
theorem len128 : Tryd.prog.arrayLen 57 = 128 := by kernel_rfl
theorem elem128 : Tryd.prog.elem 57 = 5 := by kernel_rfl
theorem und128 : Tryd.prog.underlying 57 = some (.array (Tryd.prog.arrayLen 57) (Tryd.prog.elem 57)) := by kernel_rfl
/-- x[:p] of an array of 128 bytes -/
theorem cutTo (W : World) (B p : Nat) (h : p ≤ 128) :
    (Instr.sliceAt 57 (.pointer (some ⟨B, 0, none⟩)) none (some (.int .i64 (p : Int))) none).run Tryd.prog W = .ok (.slice (some ⟨B, 0, none⟩) p 128) W := by
  rw [run_sliceAt_array_h W 57 ⟨B, 0, none⟩ und128 .i64 (p : Int) (by omega) (by rw [len128]; omega), elem128, sizeb, len128]
  simp only [Result.andThen, slicedAt, Int.toNat_natCast]
  rw [if_neg (by omega)]
  have ha : (⟨B, 0, none⟩ : Addr).add (0 * 1) = ⟨B, 0, none⟩ := by unfold Addr.add; split <;> simp_all
  rw [ha]
  rfl
theorem conv_cut (W : World) (B p : Nat) (cs : List UInt8) (l : List UInt8) (hC : W.heap[B]? = some (.cells (AB cs) 57 (0, 0))) (hp : p ≤ cs.length) (hD : cs.take p = l) :
    (convert 31 9 (.slice (some ⟨B, 0, none⟩) p 128)).run Tryd.prog W = .ok (.string (S l)) W := by
  have hl : l.length = p := by rw [← hD]; simp; omega
  rw [← hl]
  refine run_convert_bytes_back (P := Tryd.prog) W 31 9 5 ⟨B, 0, none⟩ _ l Tryd.underlying31 Tryd.underlying5 Tryd.underlying9 ?_
  intro i hi
  have ha : (⟨B, 0, none⟩ : Addr).add i = ⟨B, i, none⟩ := by unfold Addr.add; split <;> simp_all
  rw [ha, cell_AB W B cs _ _ hC i (by omega)]
  subst hD
  simp [Sm.byte, List.getElem_take, List.getD_eq_getElem?_getD, List.getElem?_eq_getElem (show i < cs.length by omega)]

set_option maxRecDepth 100000 in
set_option maxHeartbeats 800000 in
theorem padding_any (n : Nat) (w : World) (hn : n ≤ 1000000000) :
    Calls Tryd.prog 31 #[.int .i64 (n : Int)] w fun e w' => e = .returned (.string (S (Sm.pad n))) ∧ Below w.heap.size w w' := by
  obtain ⟨r, hr⟩ : ∃ r, r = n % 64 := ⟨_, rfl⟩
  have e1 : (n : Int).tmod 64 = (r : Int) := by rw [Int.tmod_eq_emod_of_nonneg (by omega)]; omega
  have e2 : (n : Int) % 64 = (r : Int) := by omega
  have hz := zero_128
  have hc0 : (w.alloc (.cells (AB Z128) 57)).cell? ⟨w.heap.size, 0, none⟩ = some (.int .u8 0) := cell_AB _ _ _ _ _ (heap_alloc_new w _) 0 (by decide)
  have hf0 : (w.alloc (.cells (AB Z128) 57)).frozen? ⟨w.heap.size, 0, none⟩ = false := frozen_of_row _ _ _ _ _ (heap_alloc_new w _)
  by_cases hs : r ≤ 55
  · obtain ⟨p, hp⟩ : ∃ p, p = 64 - r := ⟨_, rfl⟩
    have hP : Hid (p = Sm.plen n) := by unfold Sm.plen Hid; rw [if_neg (by omega)]; omega
    have e3 : (64 : Int) - (r : Int) = (p : Int) := by omega
    have b1 : 9 ≤ p := by omega
    have b2 : p ≤ 72 := by omega
    clear hs hp hr
    go_enter Tryd.func31, Tryd.ntmps31
    go_wp2
    go_loopw [6, 18] (fun _ i wr => ∃ k : Nat, k ≤ 8 ∧ i = .int .i64 k ∧ Hid (wr.heap[w.heap.size]? = some (.cells (AB (Sm.arr (8 * n) p k)) 57 (0, 0))) ∧ Below w.heap.size w wr) (fun _ i _ => 8 - (intOf i).toNat)
    case atStart => exact ⟨0, by omega, rfl, pad_start w _ p b1 b2, (Below.refl _ _).alloc (Nat.le_refl _) _⟩
    case round =>
      clear hc0 hf0
      obtain ⟨k, hk, rfl, H1, hbel⟩ := hrel
      by_cases hlt : k < 8
      · obtain ⟨x, hx⟩ : ∃ x, x = p - 1 - k := ⟨_, rfl⟩
        have e5 : (p : Int) - 1 - (k : Int) = (x : Int) := by omega
        have hc := cell_AB wr _ _ _ _ H1.out x (by rw [Sm.arr_length _ _ _ b1 b2 hk]; omega)
        have hf := frozen_of_row wr _ x _ _ H1.out
        have g1 : (0 : Int) ≤ (x : Int) := by omega
        have g2 : (x : Int) < 128 := by omega
        obtain ⟨v, hv⟩ : ∃ v : UInt8, v = UInt8.ofNat (8 * n / 256 ^ k) := ⟨_, rfl⟩
        have hV : 8 * (n : Int) / 2 ^ (8 * k) % 256 = (v.toNat : Int) := by rw [hv]; exact pad_byte n k
        have HS := set_AB wr _ _ _ _ H1.out x v
        obtain ⟨q, hq⟩ : ∃ q, p - 1 - k = q + 1 := ⟨p - 2 - k, by omega⟩
        rw [hx, hq, hv, Sm.arr_set _ _ _ _ hq, ← hv, ← hq, ← hx] at HS
        have HH := Lib.hid HS
        have HB := Lib.hid hbel
        clear HS hq hv hx hbel
        go_wp2
        go_roundw
        case rel => exact ⟨k + 1, by omega, by go_num, HH, HB.out.setCell (p := ⟨w.heap.size, x, none⟩) (Nat.le_refl _) _⟩
        case measure => simp [intOf]; omega
      · obtain rfl : k = 8 := by omega
        have hE := Lib.hid (Sm.arr_end n p hP.out)
        have hcut := cutTo wr w.heap.size p (by omega)
        have hconv := conv_cut wr w.heap.size p _ (Sm.pad n) H1.out (by rw [Sm.arr_length _ _ _ b1 b2 hk]; omega) hE.out
        go_wp2
        go_ret
        exact ⟨rfl, hbel⟩
  · obtain ⟨q, hq⟩ : ∃ q, q = 64 - r := ⟨_, rfl⟩
    obtain ⟨p, hp⟩ : ∃ p, p = q + 64 := ⟨_, rfl⟩
    have hP : Hid (p = Sm.plen n) := by unfold Sm.plen Hid; rw [if_pos (by omega)]; omega
    have e3 : (64 : Int) - (r : Int) = (q : Int) := by omega
    have e4 : (q : Int) + 64 = (p : Int) := by omega
    have b0 : q < 9 := by omega
    have b1 : 9 ≤ p := by omega
    have b2 : p ≤ 72 := by omega
    clear hs hp hq hr
    go_enter Tryd.func31, Tryd.ntmps31
    go_wp2
    go_loopw [6, 18] (fun _ i wr => ∃ k : Nat, k ≤ 8 ∧ i = .int .i64 k ∧ Hid (wr.heap[w.heap.size]? = some (.cells (AB (Sm.arr (8 * n) p k)) 57 (0, 0))) ∧ Below w.heap.size w wr) (fun _ i _ => 8 - (intOf i).toNat)
    case atStart => exact ⟨0, by omega, rfl, pad_start w _ p b1 b2, (Below.refl _ _).alloc (Nat.le_refl _) _⟩
    case round =>
      clear hc0 hf0
      obtain ⟨k, hk, rfl, H1, hbel⟩ := hrel
      by_cases hlt : k < 8
      · obtain ⟨x, hx⟩ : ∃ x, x = p - 1 - k := ⟨_, rfl⟩
        have e5 : (p : Int) - 1 - (k : Int) = (x : Int) := by omega
        have hc := cell_AB wr _ _ _ _ H1.out x (by rw [Sm.arr_length _ _ _ b1 b2 hk]; omega)
        have hf := frozen_of_row wr _ x _ _ H1.out
        have g1 : (0 : Int) ≤ (x : Int) := by omega
        have g2 : (x : Int) < 128 := by omega
        obtain ⟨v, hv⟩ : ∃ v : UInt8, v = UInt8.ofNat (8 * n / 256 ^ k) := ⟨_, rfl⟩
        have hV : 8 * (n : Int) / 2 ^ (8 * k) % 256 = (v.toNat : Int) := by rw [hv]; exact pad_byte n k
        have HS := set_AB wr _ _ _ _ H1.out x v
        obtain ⟨q, hq⟩ : ∃ q, p - 1 - k = q + 1 := ⟨p - 2 - k, by omega⟩
        rw [hx, hq, hv, Sm.arr_set _ _ _ _ hq, ← hv, ← hq, ← hx] at HS
        have HH := Lib.hid HS
        have HB := Lib.hid hbel
        clear HS hq hv hx hbel
        go_wp2
        go_roundw
        case rel => exact ⟨k + 1, by omega, by go_num, HH, HB.out.setCell (p := ⟨w.heap.size, x, none⟩) (Nat.le_refl _) _⟩
        case measure => simp [intOf]; omega
      · obtain rfl : k = 8 := by omega
        have hE := Lib.hid (Sm.arr_end n p hP.out)
        have hcut := cutTo wr w.heap.size p (by omega)
        have hconv := conv_cut wr w.heap.size p _ (Sm.pad n) H1.out (by rw [Sm.arr_length _ _ _ b1 b2 hk]; omega) hE.out
        go_wp2
        go_ret
        exact ⟨rfl, hbel⟩
end Go.Proofs.YtnlkmbbgcellfaaDoor
