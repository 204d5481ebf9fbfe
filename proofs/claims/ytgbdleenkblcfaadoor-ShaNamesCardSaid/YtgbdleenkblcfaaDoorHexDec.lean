/-
  What Decode comes to, the program's and the document's, of any text that is not enormous.
-/
import Derived.Test.YtgbdleenkblcfaaDoorHexIs
import Derived.Test.YtgbdleenkblcfaaDoorHexEnc
namespace Go.Proofs.YtgbdleenkblcfaaDoor
open Go.RowKit

theorem ret_dec {k : IntKind} {a a' : ByteArray} {b b' : Int} (h : a = a') (g : b = b') : Ending.returned (.tuple #[.string a, .int k b]) = .returned (.tuple #[.string a', .int k b']) := by rw [h, g]
theorem or_i64 (a b : Int) (ha : 0 ≤ a) (ha' : a ≤ 15) (hb : 0 ≤ b) (hb' : b ≤ 15) : bits .or .i64 (a * 16) b = a * 16 + b := by
  have h : ∀ x y : Fin 16, bits .or .i64 ((x.val : Int) * 16) (y.val : Int) = (x.val : Int) * 16 + (y.val : Int) := by decide +kernel
  have := h ⟨a.toNat, by omega⟩ ⟨b.toNat, by omega⟩
  simp only [Int.toNat_of_nonneg ha, Int.toNat_of_nonneg hb] at this
  exact this

set_option maxRecDepth 100000 in
set_option maxHeartbeats 800000 in
theorem decode_any (s : ByteArray) (w : World) (hs : s.size ≤ 1000000) (hT : Tab w) :
    Calls Tryd.prog 20 #[.string s] w fun e w' => e = .returned (.tuple #[.string (S (Hm.decV s.data.toList)), .int .i64 (Hm.decE s.data.toList)]) ∧ Below w.heap.size w w' := by
  have hl : s.data.toList.length = s.size := by simp
  have HL := Lib.hid hl
  clear hl
  have hm : s.size ≤ maxLen := by unfold maxLen; omega
  have hm' := Lib.hid hm
  clear hm
  cases ha : Hm.allD s.data.toList
  · have HN := Lib.hid (Hm.decVE_form _ ha)
    go_enter Tryd.func20, Tryd.ntmps20
    go_wp2_with (go_at_call 26; refine (is_any _ _ hm'.out hT).mono ?_; rintro e w' ⟨rfl, rfl⟩)
    go_ret2
    exact ⟨ret_dec (by rw [HN.out.1]; rfl) HN.out.2.symm, Below.refl _ _⟩
  · by_cases h0 : s.size % 2 = 1
    · have HN := Lib.hid (Hm.decVE_short _ ha (by rw [HL.out, h0]))
      have hb : ((s.size : Int) % 2 != 0) = true := by rw [bne_iff_ne]; omega
      clear h0
      go_enter Tryd.func20, Tryd.ntmps20
      go_wp2_with (go_at_call 26; refine (is_any _ _ hm'.out hT).mono ?_; rintro e w' ⟨rfl, rfl⟩)
      go_ret2
      exact ⟨ret_dec (by rw [HN.out.1]; rfl) HN.out.2.symm, Below.refl _ _⟩
    · have HN := Lib.hid (Hm.decVE_ok _ ha (by rw [HL.out]; omega))
      obtain ⟨m, hm⟩ : ∃ m, 2 * m = s.size := ⟨s.size / 2, by omega⟩
      have HM := Lib.hid hm
      clear hm
      have hb : ((s.size : Int) % 2 != 0) = false := by rw [bne_eq_false_iff_eq]; omega
      have hq : (s.size : Int) / 2 = ((m : Nat) : Int) := by have := HM.out; omega
      have hmm : m ≤ 1000000 := by have := HM.out; omega
      have HQ := Lib.hid hq
      clear hq h0
      obtain ⟨i0, hi0, hz0, hz1, hz2⟩ := info_parts info5
      have hB := hT.lt
      go_enter Tryd.func20, Tryd.ntmps20
      go_wp2_with (first
        | (go_at_call 26; refine (is_any _ _ hm'.out hT).mono ?_; rintro e w' ⟨rfl, rfl⟩)
        | (at_make; refine wpList_make_own _ rfl _ _ 35 rfl w.heap.size 5 i0 (.int .u8 0) 1 Tryd.underlying35 hi0 hz0 hz1 .i64 .i64 _ m rfl rfl HQ.out (by rw [hz2]; omega) (by unfold maxLen; omega) (Nat.le_refl _) ?_; intro w1 hown hgrow))
      have hb1 : Below w.heap.size w w1 := (Below.refl _ _).grown hgrow (Nat.le_refl _) (fun k h => by cases h)
      clear hgrow
      go_loopw [4, 5, 6, 7, 8, 9] (fun v i _ _ _ _ wr => ∃ k j : Nat, Hid (j = 2 * k) ∧ j ≤ s.size ∧ i = .int .i64 j ∧ wr.ownsRow w.heap.size 5 1 v k (V (Hm.dec (s.data.toList.take j))) ∧ Below w.heap.size w wr) (fun _ i _ _ _ _ _ => s.size - (intOf i).toNat)
      case atStart => exact ⟨0, 0, rfl, Nat.zero_le _, rfl, hown, hb1⟩
      case round =>
        clear hown hb1
        obtain ⟨k, j, HJ, hk, rfl, hown, hbel⟩ := hrel
        have hT' := hT.below hbel hB
        have hsz := hbel.size
        by_cases hlt : k < m
        · have hlt' : j + 1 < s.size := by have := HM.out; have := HJ.out; omega
          have hkk : k ≤ 1000000 := by omega
          have v1 := Hm.hv_bd (s[j].toNat : Int)
          have v2 := Hm.hv_bd (s[j + 1].toNat : Int)
          have ho := or_i64 _ _ v1.1 v1.2 v2.1 v2.2
          have HS : Hid (V (Hm.dec (s.data.toList.take (j + 2))) = V (Hm.dec (s.data.toList.take j)) ++ [.int .u8 (Hm.hv (s[j].toNat : Int) * 16 + Hm.hv (s[j + 1].toNat : Int))]) := by
            rw [Hm.take_snoc2 s j hlt', Hm.dec_snoc _ _ k _ (by rw [List.length_take, HL.out]; have := HJ.out; omega)]
            unfold V Hid; simp; omega
          go_wp2_with (first
            | (go_at_call 27; refine (value_any _ _ hT').mono ?_; rintro e w' ⟨rfl, rfl⟩)
            | (at_builtin; refine wpList_append_own _ rfl _ _ 35 rfl w.heap.size 5 i0 (.int .u8 0) 1 1 Tryd.underlying35 hi0 hz0 hz1 hz2 rfl (by decide) _ _ _ rfl (hown.alloc _) ⟨wr.heap.size, 0, none⟩ 1 1 [.int .u8 (Hm.hv (s[j].toNat : Int) * 16 + Hm.hv (s[j + 1].toNat : Int))] rfl rfl (World.news_of_block (cs := #[.int .u8 (Hm.hv (s[j].toNat : Int) * 16 + Hm.hv (s[j + 1].toNat : Int))]) (t := 5) (fr := (0, 0)) (heap_alloc_new wr _)) (by simp [Value.oneCell']) (by unfold maxLen; omega) (by omega) (by simp; omega) ?_; intro v' w2 hown1 hgrow _))
          have hb2 : Below w.heap.size w w2 := (hbel.alloc hsz _).grown hgrow (by simp <;> omega) (fun g e => (hown.lt _ e).1)
          clear hgrow hown ho
          go_wp2
          go_roundw
          case rel => exact ⟨k + 1, j + 2, by have := HJ.out; unfold Hid; omega, by omega, by go_num, by rw [HS.out]; exact hown1, hb2⟩
          case measure => simp [intOf]; omega
        · have hk' : k = m := by have := HM.out; have := HJ.out; omega
          have hcv := conv_own wr w.heap.size _ (Hm.dec s.data.toList) (by
            rw [Hm.take_all s j (by have := HM.out; have := HJ.out; omega)] at hown
            rw [Hm.dec_length m _ (by rw [HL.out, HM.out])]; rw [hk'] at hown; exact hown)
          have hge : ¬ ((j : Int) < (s.size : Int)) := by have := HM.out; have := HJ.out; omega
          clear hown hk' hlt
          go_wp2
          go_ret2
          exact ⟨ret_dec (by rw [HN.out.1]) HN.out.2.symm, hbel⟩

end Go.Proofs.YtgbdleenkblcfaaDoor
