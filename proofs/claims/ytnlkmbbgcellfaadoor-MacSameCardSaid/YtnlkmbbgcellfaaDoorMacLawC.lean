/-
  The walk of MacSame: it comes to true.
-/
import Derived.Test.YtnlkmbbgcellfaaDoorMacLawA
namespace Go.Proofs.YtnlkmbbgcellfaaDoor
open Go.RowKit

theorem toList_beq (a b : List UInt8) : ((S a).toList == (S b).toList) = (a == b) := by rw [S_toList, S_toList]
theorem xor_ne (c x : UInt8) (h : x ≠ 0) : c ^^^ x ≠ c := by
  intro e
  apply h
  have : c ^^^ (c ^^^ x) = c ^^^ c := by rw [e]
  rw [← UInt8.xor_assoc, UInt8.xor_self, UInt8.zero_xor] at this
  exact this
theorem flip_ne (l : List UInt8) (j : Nat) (x : UInt8) (hj : j < l.length) (h : x ≠ 0) : (l == l.set j (l.getD j 0 ^^^ x)) = false := by
  rw [beq_eq_false_iff_ne]
  intro e
  have h1 : (l.set j (l.getD j 0 ^^^ x)).getD j 0 = l.getD j 0 := by rw [← e]
  rw [List.getD_eq_getElem?_getD, List.getElem?_set_self hj, Option.getD_some] at h1
  exact xor_ne _ _ h h1
theorem cut_ne (l : List UInt8) (p : Nat) (hp : p < l.length) : (l == l.take p) = false := by
  rw [beq_eq_false_iff_ne]
  intro e
  have := congrArg List.length e
  simp at this
  omega
theorem slice_to (l : List UInt8) (p : Nat) (h : p ≤ l.length) (w : World) :
    (Instr.sliceAt 9 (.string (S l)) none (some (.int .i64 (p : Int))) none).run Tryd.prog w = .ok (.string (S (l.take p))) w := by
  have hu : Tryd.prog.underlying 9 = some .string := by kernel_rfl
  have hs : (S l).size = l.length := S_size l
  have he : (S l).extract 0 p = S (l.take p) := by
    apply ByteArray.ext
    apply Array.toList_inj.1
    simp only [S, ByteArray.data_extract, Array.toList_extract, List.extract_eq_take_drop]
    simp
  have hr := run_slice_string_to_if (P := Tryd.prog) w 9 (S l) .i64 (p : Int) hu
  rw [if_pos (by rw [hs]; omega), Int.toNat_natCast, he] at hr
  simpa [Instr.sliceAt] using hr

set_option maxHeartbeats 1600000 in
theorem law_MacSame (s t : ByteArray) (n : Int) (x : UInt8) (w : World) (hs : s.size ≤ maxLen) (ht : t.size ≤ maxLen) (hT : Tabs w) :
    Calls Tryd.prog 7 #[.string s, .string t, .int .i64 n, .int .u8 (x.toNat : Int)] w fun e w' => e = .returned (.bool true) ∧ Below w.heap.size w w' := by
  unfold maxLen at hs ht
  obtain ⟨l, rfl⟩ := as_S s
  obtain ⟨r, rfl⟩ := as_S t
  by_cases h1 : (3000 : Int) < ((S l).size : Int)
  · go_enter Tryd.func7, Tryd.ntmps7
    go_wp2_with fail
    refine (awake_any _ hT).mono ?_; rintro e w3 ⟨rfl, h3⟩
    go_wp2_with fail
    go_ret
    exact ⟨rfl, h3⟩
  by_cases h2 : (3000 : Int) < ((S r).size : Int)
  · go_enter Tryd.func7, Tryd.ntmps7
    go_wp2_with fail
    refine (awake_any _ hT).mono ?_; rintro e w3 ⟨rfl, h3⟩
    go_wp2_with fail
    go_ret
    exact ⟨rfl, h3⟩
  have z1 := S_size l
  have z2 := S_size r
  obtain ⟨c, hc1⟩ : ∃ c, ((S l).toList == (S r).toList) = c := ⟨_, rfl⟩
  have hc2 : ((S r).toList == (S l).toList) = c := by
    rw [← hc1]
    exact BEq.comm
  by_cases hl : (S l).toList = []
  · have hi : (S l).toList.isEmpty = true := by rw [hl]; rfl
    have hc3 : (S r).toList.isEmpty = c := by
      rw [← hc1, hl]
      cases (S r).toList <;> rfl
    go_enter Tryd.func7, Tryd.ntmps7
    go_wp2_with fail
    refine (awake_any _ hT).mono ?_; rintro e w1 ⟨rfl, h1⟩
    go_wp2_with fail
    refine (Same_any _ _ _).mono ?_; rintro e w2 ⟨rfl, rfl⟩
    go_wp2_with fail
    refine (Same_any _ _ _).mono ?_; rintro e w2 ⟨rfl, rfl⟩
    rw [hc1]
    go_wp2_with fail
    refine (Same_any _ _ _).mono ?_; rintro e w2 ⟨rfl, rfl⟩
    rw [hc2]
    go_wp2_with fail
    go_ret
    exact ⟨rfl, h1⟩
  have hi : (S l).toList.isEmpty = false := by rw [List.isEmpty_eq_false_iff]; exact hl
  by_cases hx : x = 0
  · have hb : ((x.toNat : Int) == 0) = true := by rw [hx]; rfl
    clear hx
    go_enter Tryd.func7, Tryd.ntmps7
    go_wp2_with fail
    refine (awake_any _ hT).mono ?_; rintro e w1 ⟨rfl, h1⟩
    go_wp2_with fail
    refine (Same_any _ _ _).mono ?_; rintro e w2 ⟨rfl, rfl⟩
    go_wp2_with fail
    refine (Same_any _ _ _).mono ?_; rintro e w2 ⟨rfl, rfl⟩
    rw [hc1]
    go_wp2_with fail
    refine (Same_any _ _ _).mono ?_; rintro e w2 ⟨rfl, rfl⟩
    rw [hc2]
    go_wp2_with fail
    go_ret
    exact ⟨rfl, h1⟩
  have hb : ((x.toNat : Int) == 0) = false := by
    rw [beq_eq_false_iff_ne]
    intro e
    exact hx (UInt8.toNat_inj.1 (by have : x.toNat = 0 := by omega
                                    rw [this]; rfl))
  have hpos : 0 < l.length := by
    rw [S_toList] at hl
    exact List.length_pos_iff.2 hl
  obtain ⟨u, hu⟩ : ∃ u : Nat, IntKind.u64.wrap n = (u : Int) := ⟨(IntKind.u64.wrap n).toNat, by
    have : IntKind.u64.wrap n = n % 18446744073709551616 := by simp [IntKind.wrap, IntKind.bits, IntKind.signed]
    omega⟩
  have m1 : IntKind.u64.wrap (l.length : Int) = (l.length : Int) := by
    have : IntKind.u64.wrap (l.length : Int) = (l.length : Int) % 18446744073709551616 := by simp [IntKind.wrap, IntKind.bits, IntKind.signed]
    omega
  obtain ⟨j, ej, hj⟩ : ∃ j : Nat, wrap64 ((u : Int) % (l.length : Int)) = (j : Int) ∧ j < l.length := by
    have m1 := Int.emod_nonneg (u : Int) (show (l.length : Int) ≠ 0 by omega)
    have m2 := Int.emod_lt_of_pos (u : Int) (show 0 < (l.length : Int) by omega)
    generalize (u : Int) % (l.length : Int) = x at m1 m2
    exact ⟨x.toNat, by unfold wrap64; omega, by omega⟩
  obtain ⟨v, hv⟩ : ∃ v, v = l.getD j 0 ^^^ x := ⟨_, rfl⟩
  have hE1 : ((S l).toList == (S (l.set j v)).toList) = false := by rw [toList_beq, hv]; exact flip_ne l j x hj hx
  obtain ⟨p, hp⟩ : ∃ p, p + 1 = l.length := ⟨l.length - 1, by omega⟩
  have ep : (l.length : Int) - 1 = (p : Int) := by omega
  have hE2 : ((S l).toList == (S (l.take p)).toList) = false := by rw [toList_beq]; exact cut_ne l p (by omega)
  have hsl := fun w => slice_to l p (by omega) w
  obtain ⟨y, hy⟩ : ∃ y, y = l.getD j 0 := ⟨_, rfl⟩
  have rX : bits .xor .u8 (y.toNat : Int) (x.toNat : Int) = (v.toNat : Int) := by rw [hv, hy]; exact Mm.xor_byte _ _
  have hcell0 : ∀ (w : World) (g m : Nat) (t : TypeId) (fr : Nat × Nat), w.heap[g]? = some (.cells (AB (l ++ List.replicate m 0)) t fr) → w.cell? ⟨g, j, none⟩ = some (.int .u8 (y.toNat : Int)) := fun w g m t fr h => by
    rw [cell_app w g l _ t fr h j hj, hy]; rfl
  have HC0 := Lib.hid hcell0
  have HE1 := Lib.hid hE1
  have HE2 := Lib.hid hE2
  have HJ := Lib.hid hj
  have HP := Lib.hid hp
  clear hv hy hcell0 hx hE1 hE2 hp
  go_enter Tryd.func7, Tryd.ntmps7
  go_wp2_with fail
  refine (awake_any _ hT).mono ?_; rintro e w1 ⟨rfl, h1⟩
  go_wp2_with fail
  refine (Same_any _ _ _).mono ?_; rintro e w2 ⟨rfl, rfl⟩
  go_wp2_with fail
  refine (Same_any _ _ _).mono ?_; rintro e w2 ⟨rfl, rfl⟩
  rw [hc1]
  go_wp2_with fail
  refine (Same_any _ _ _).mono ?_; rintro e w2 ⟨rfl, rfl⟩
  rw [hc2]
  obtain ⟨C, m, hcv⟩ := run_bytes w1 l
  obtain ⟨W, hW⟩ : ∃ W, W = w1.drew.alloc (.cells (AB (l ++ List.replicate m 0)) 5 (l.length + m, l.length + m + 1)) := ⟨_, rfl⟩
  have HR : Hid (W.heap[w1.heap.size]? = some (.cells (AB (l ++ List.replicate m 0)) 5 (l.length + m, l.length + m + 1))) := by
    rw [hW]
    exact heap_alloc_new w1.drew _
  have HB : Hid (Below w.heap.size w (W.setCell ⟨w1.heap.size, j, none⟩ (.int .u8 (v.toNat : Int)))) := by
    rw [hW]
    exact ((h1.drew).alloc h1.size _).setCell h1.size _
  rw [← hW] at hcv
  clear hW
  have hc := HC0.out W w1.heap.size m _ _ HR.out
  have hf := frozen_past W w1.heap.size j _ _ _ HR.out (by omega)
  have hback := conv_rowp _ w1.heap.size C _ l.length _ _ (set_app W _ _ _ _ _ HR.out j hj v) (by simp) (l.set j v) (by rw [List.take_append_of_le_length (by simp), List.take_of_length_le (by simp)])
  have q1 : (j : Int) < (l.length : Int) := by omega
  clear hj
  go_wp2_with fail
  refine (Same_any _ _ _).mono ?_; rintro e w2 ⟨rfl, rfl⟩
  rw [HE1.out]
  go_wp2_with fail
  refine (Same_any _ _ _).mono ?_; rintro e w2 ⟨rfl, rfl⟩
  rw [HE2.out]
  go_wp2_with fail
  go_ret
  exact ⟨rfl, HB.out⟩
end Go.Proofs.YtnlkmbbgcellfaaDoor
