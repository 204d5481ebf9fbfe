/-
  What Encode comes to, the program's and the document's, of any text that is not enormous.
-/
import Derived.Test.YtnlkmbbgcellfaaDoorHexVal
import Derived.Deep.RegionHeld3
import Derived.Deep.AppendLies
import Derived.Deep.DrawnRows
namespace Go.Proofs.YtnlkmbbgcellfaaDoor
open Go.RowKit

theorem and15 (n : Nat) (h : n < 256) : bits .and .u8 (n : Int) 15 = (n : Int) % 16 := by
  rw [u8_and _ _ (by omega) (by omega) (by omega) (by omega)]
  have := Nat.and_two_pow_sub_one_eq_mod n 4
  simp only [Int.toNat_natCast] at *
  rw [show (15 : Int).toNat = 2 ^ 4 - 1 from rfl, this]
  omega

set_option maxRecDepth 100000 in
set_option maxHeartbeats 800000 in
theorem encode_any (s : ByteArray) (w : World) (hs : s.size ≤ 1000000) (hT : Tab w) :
    Calls Tryd.prog 9 #[.string s] w fun e w' => e = .returned (.string (S (Hm.enc s.data.toList))) ∧ Below w.heap.size w w' := by
  obtain ⟨i0, hi0, hz0, hz1, hz2⟩ := info_parts info5
  have hB := hT.lt
  go_enter Tryd.func9, Tryd.ntmps9
  go_wp2_with (at_make; refine wpList_make_own _ rfl _ _ 31 rfl w.heap.size 5 i0 (.int .u8 0) 1 Tryd.underlying31 hi0 hz0 hz1 .i64 .i64 _ (2 * s.size) rfl rfl (by omega) (by rw [hz2]; omega) (by unfold maxLen; omega) (Nat.le_refl _) ?_; intro w1 hown hgrow)
  have hb1 : Below w.heap.size w w1 := (Below.refl _ _).grown hgrow (Nat.le_refl _) (fun k h => by cases h)
  clear hgrow
  go_loopw [3, 4, 11] (fun v _ i wr => ∃ k : Nat, k ≤ s.size ∧ i = .int .i64 k ∧ wr.ownsRow w.heap.size 5 1 v (2 * k) (V (Hm.enc (s.data.toList.take k))) ∧ Below w.heap.size w wr) (fun _ _ i _ => s.size - (intOf i).toNat)
  case atStart => exact ⟨0, Nat.zero_le _, rfl, hown, hb1⟩
  case round =>
    clear hown hb1
    obtain ⟨k, hk, rfl, hown, hbel⟩ := hrel
    have hT' := hT.below hbel hB
    have hsz := hbel.size
    by_cases hlt : k < s.size
    · have hb : (s[k].toNat : Int) ≤ 255 := by have := s[k].toNat_lt; omega
      have c1 : wr.cell? ⟨0, ((s[k].toNat : Int) / 16).toNat, none⟩ = some (.int .u8 (Hm.dg (s[k].toNat / 16))) := by
        rw [show ((s[k].toNat : Int) / 16).toNat = s[k].toNat / 16 by omega]; exact hT'.cell (s[k].toNat / 16) (by omega)
      have c2 : wr.cell? ⟨0, ((s[k].toNat : Int) % 16).toNat, none⟩ = some (.int .u8 (Hm.dg (s[k].toNat % 16))) := by
        rw [show ((s[k].toNat : Int) % 16).toNat = s[k].toNat % 16 by omega]; exact hT'.cell (s[k].toNat % 16) (by omega)
      have g1 : (0 : Int) ≤ (s[k].toNat : Int) / 16 := by omega
      have g2 : (s[k].toNat : Int) / 16 < 16 := by omega
      have g3 : (0 : Int) ≤ (s[k].toNat : Int) % 16 := by omega
      have g4 : (s[k].toNat : Int) % 16 < 16 := by omega
      have g5 := and15 _ s[k].toNat_lt
      have ag : u3.ownBlock ≠ some 0 := fun e => by have := (hown.lt _ e).1; omega
      have HS : Hid (V (Hm.enc (s.data.toList.take (k + 1))) = V (Hm.enc (s.data.toList.take k)) ++ [.int .u8 (Hm.dg (s[k].toNat / 16)), .int .u8 (Hm.dg (s[k].toNat % 16))]) := by
        rw [Hm.take_snoc s k hlt, Hm.enc_snoc]; unfold V Hid; simp [Hm.dgb_toNat _ (show s[k].toNat / 16 < 16 by omega), Hm.dgb_toNat _ (show s[k].toNat % 16 < 16 by omega)]
      go_wp2_with fail
      go_region_held3 (fun w' => w'.cell? ⟨0, ((s[k].toNat : Int) / 16).toNat, none⟩ = some (.int .u8 (Hm.dg (s[k].toNat / 16))) ∧ w'.cell? ⟨0, ((s[k].toNat : Int) % 16).toNat, none⟩ = some (.int .u8 (Hm.dg (s[k].toNat % 16)))) 
        (first
          | go_keep
          | (go_split_ands
             refine ⟨?_, ?_⟩
             · (rw [hgrow.cell_far _ (by simp <;> omega) (Ne.symm ag)]; assumption)
             · (rw [hgrow.cell_far _ (by simp <;> omega) (Ne.symm ag)]; assumption)))
        ((refine step_append_lies _ (by rfl) _ _ _ (by rfl) w.heap.size 5 i0 _ 1 1 Tryd.underlying31 hi0 hz0 hz1 hz2 rfl (by omega) _ _ _ (by rfl) ((hown.alloc _).drew)
            ⟨wr.heap.size, 0, none⟩ 2 2 [.int .u8 (Hm.dg (s[k].toNat / 16)), .int .u8 (Hm.dg (s[k].toNat % 16))] (by rfl) (by rfl) (World.news_of_block (cs := #[.int .u8 (Hm.dg (s[k].toNat / 16)), .int .u8 (Hm.dg (s[k].toNat % 16))]) (t := 5) (fr := (0, 0)) (heap_alloc_new wr _)) (by simp [Value.oneCell'])
            (by omega) (by unfold maxLen; omega) (by omega) (by simp; omega) (wr.heap.size + 1) (by simp) ?_; intro gg cap w2 hown1 hgrow hat hlt2))
      all_goals
        have hb2 : Below w.heap.size w w2 := ((hbel.alloc hsz _).drew).grown hgrow (by simp <;> omega) (fun g e => (hown.lt _ e).1)
        clear hgrow hown c1 c2 hat
        go_wp2
        go_roundw
        case rel => exact ⟨k + 1, by omega, by go_num, by rw [HS.out]; exact hown1, hb2⟩
        case measure => simp [intOf]; omega
    · have hcv := conv_own wr w.heap.size _ (Hm.enc s.data.toList) (by rw [Hm.take_all s k (by omega)] at hown; rw [Hm.enc_length]; simpa [show k = s.size by omega] using hown)
      clear hown
      go_wp2
      go_ret
      exact ⟨rfl, hbel⟩

end Go.Proofs.YtnlkmbbgcellfaaDoor
