/-
  The walks of HexBack, HexBehind, HexRise: each comes to true.
-/
import Derived.Test.YthanefhceopcfaaDoorHexAwake
import Derived.Deep.QuietTactic
import Derived.BigQuiet
namespace Go.Proofs.YthanefhceopcfaaDoor
open Go.RowKit

section
variable {w0 w : World}
theorem decode_enc (h : Below w0.heap.size w0 w) (hT : Tab w0) (s : ByteArray) (hs : s.size ≤ 3000) :
    Calls Tryd.prog 14 #[.string (S (Hm.enc s.data.toList))] w fun e w' => e = .returned (.tuple #[.string s, .int .i64 0]) ∧ Below w0.heap.size w0 w' := by
  have hz : (S (Hm.enc s.data.toList)).size ≤ 1000000 := by rw [S_size, Hm.enc_length]; simp; omega
  refine (decode_at h hT _ hz).mono ?_
  rintro e w' ⟨rfl, hb⟩
  rw [S_data, (Hm.dec_back _).1, (Hm.dec_back _).2, S_of]
  exact ⟨rfl, hb⟩
theorem encode_dec (h : Below w0.heap.size w0 w) (hT : Tab w0) (s : ByteArray) (hs : s.size ≤ 3000) (he : Hm.decE s.data.toList = 0) :
    Calls Tryd.prog 12 #[.string (S (Hm.decV s.data.toList))] w fun e w' => e = .returned (.string s) ∧ Below w0.heap.size w0 w' := by
  have hz : (S (Hm.decV s.data.toList)).size ≤ 1000000 := by
    have h1 := Hm.enc_length (Hm.decV s.data.toList)
    rw [Hm.enc_back _ he] at h1
    rw [S_size]
    simp at h1
    omega
  refine (encode_at h hT _ hz).mono ?_
  rintro e w' ⟨rfl, hb⟩
  rw [S_data, Hm.enc_back _ he, S_of]
  exact ⟨rfl, hb⟩
theorem is_enc (h : Below w0.heap.size w0 w) (hT : Tab w0) (s : ByteArray) (hs : s.size ≤ 3000) :
    Calls Tryd.prog 16 #[.string (S (Hm.enc s.data.toList))] w fun e w' => e = .returned (.bool true) ∧ w = w' := by
  have hz : (S (Hm.enc s.data.toList)).size ≤ maxLen := by unfold maxLen; rw [S_size, Hm.enc_length]; simp; omega
  refine (is_at h hT _ hz).mono ?_
  rintro e w' ⟨rfl, hb⟩
  rw [S_data, Hm.allD_enc]
  exact ⟨rfl, hb⟩
end

set_option maxHeartbeats 800000 in
theorem law_HexBack (s t : ByteArray) (w : World) (hs : s.size ≤ maxLen) (ht : t.size ≤ maxLen) (hT : Tab w) :
    Calls Tryd.prog 7 #[.string s, .string t] w fun e w' => e = .returned (.bool true) ∧ Below w.heap.size w w' := by
  unfold maxLen at hs ht
  by_cases hl : 3000 < s.size
  · go_enter Tryd.func7, Tryd.ntmps7
    go_wp2_with fail
    refine (awake_any _ hT).mono ?_; rintro e w3 ⟨rfl, h3⟩
    go_wp2_with fail
    go_ret
    exact ⟨rfl, h3⟩
  · by_cases hr : 3000 < t.size
    · go_enter Tryd.func7, Tryd.ntmps7
      go_wp2_with fail
      refine (awake_any _ hT).mono ?_; rintro e w3 ⟨rfl, h3⟩
      go_wp2_with fail
      go_ret
      exact ⟨rfl, h3⟩
    · have hz : ((S (Hm.enc s.data.toList)).size : Int) = 2 * (s.size : Int) := by rw [S_size, Hm.enc_length]; simp
      by_cases he : Hm.decE t.data.toList = 0
      · have HE := Lib.hid he
        clear he
        go_enter Tryd.func7, Tryd.ntmps7
        go_wp2_with fail
        refine (awake_any _ hT).mono ?_; rintro e w1 ⟨rfl, h1⟩
        go_wp2_with fail
        refine (encode_at h1 hT s (by omega)).mono ?_; rintro e w2 ⟨rfl, h2⟩
        go_wp2_with fail
        refine (decode_enc h2 hT s (by omega)).mono ?_; rintro e w3 ⟨rfl, h3⟩
        go_wp2_with fail
        refine (decode_at h3 hT t (by omega)).mono ?_; rintro e w4 ⟨rfl, h4⟩
        rw [HE.out]
        go_wp2_with fail
        refine (is_enc h4 hT s (by omega)).mono ?_; rintro e w5 ⟨rfl, rfl⟩
        go_wp2_with fail
        refine (encode_dec h4 hT t (by omega) HE.out).mono ?_; rintro e w5 ⟨rfl, h5⟩
        go_wp2_with fail
        go_ret
        exact ⟨rfl, h5⟩
      · have HV := Lib.hid (Hm.dec_none _ he)
        have hb : (Hm.decE t.data.toList == 0) = false := beq_eq_false_iff_ne.2 he
        have hb' : (Hm.decE t.data.toList != 0) = true := by rw [bne_iff_ne]; exact he
        clear he
        go_enter Tryd.func7, Tryd.ntmps7
        go_wp2_with fail
        refine (awake_any _ hT).mono ?_; rintro e w1 ⟨rfl, h1⟩
        go_wp2_with fail
        refine (encode_at h1 hT s (by omega)).mono ?_; rintro e w2 ⟨rfl, h2⟩
        go_wp2_with fail
        refine (decode_enc h2 hT s (by omega)).mono ?_; rintro e w3 ⟨rfl, h3⟩
        go_wp2_with fail
        refine (decode_at h3 hT t (by omega)).mono ?_; rintro e w4 ⟨rfl, h4⟩
        rw [HV.out, show S [] = ⟨#[]⟩ from rfl]
        go_wp2_with fail
        refine (is_enc h4 hT s (by omega)).mono ?_; rintro e w5 ⟨rfl, rfl⟩
        go_wp2_with fail
        go_ret
        exact ⟨rfl, h4⟩

theorem append_data (s t : ByteArray) : (s ++ t).data.toList = s.data.toList ++ t.data.toList := by simp
section
variable {w0 w : World}
theorem encode_app (h : Below w0.heap.size w0 w) (hT : Tab w0) (s t : ByteArray) (hz : (s ++ t).size ≤ 1000000) :
    Calls Tryd.prog 12 #[.string (s ++ t)] w fun e w' => e = .returned (.string (S (Hm.enc s.data.toList ++ Hm.enc t.data.toList))) ∧ Below w0.heap.size w0 w' := by
  refine (encode_at h hT _ hz).mono ?_
  rintro e w' ⟨rfl, hb⟩
  rw [append_data, Hm.enc_append]
  exact ⟨rfl, hb⟩
theorem is_app (h : Below w0.heap.size w0 w) (hT : Tab w0) (s t : ByteArray) (hz : (s ++ t).size ≤ maxLen) :
    Calls Tryd.prog 16 #[.string (s ++ t)] w fun e w' => e = .returned (.bool (Hm.allD s.data.toList && Hm.allD t.data.toList)) ∧ w = w' := by
  refine (is_at h hT _ hz).mono ?_
  rintro e w' ⟨rfl, hb⟩
  rw [append_data, Hm.allD_append]
  exact ⟨rfl, hb⟩
end
set_option maxHeartbeats 800000 in
theorem law_HexBehind (s t : ByteArray) (w : World) (hs : s.size ≤ maxLen) (ht : t.size ≤ maxLen) (hT : Tab w) :
    Calls Tryd.prog 8 #[.string s, .string t] w fun e w' => e = .returned (.bool true) ∧ Below w.heap.size w w' := by
  unfold maxLen at hs ht
  by_cases hl : 3000 < s.size
  · go_enter Tryd.func8, Tryd.ntmps8
    go_wp2_with fail
    refine (awake_any _ hT).mono ?_; rintro e w3 ⟨rfl, h3⟩
    go_wp2_with fail
    go_ret
    exact ⟨rfl, h3⟩
  · by_cases hr : 3000 < t.size
    · go_enter Tryd.func8, Tryd.ntmps8
      go_wp2_with fail
      refine (awake_any _ hT).mono ?_; rintro e w3 ⟨rfl, h3⟩
      go_wp2_with fail
      go_ret
      exact ⟨rfl, h3⟩
    · have hm : ∀ u : ByteArray, u.size ≤ 6000 → u.size ≤ maxLen := fun u h => by unfold maxLen; omega
      have HM := Lib.hid hm
      clear hm
      have hz : (s ++ t).size = s.size + t.size := ByteArray.size_append ..
      have HZ := Lib.hid hz
      clear hz
      go_enter Tryd.func8, Tryd.ntmps8
      go_wp2_with fail
      refine (awake_any _ hT).mono ?_; rintro e w1 ⟨rfl, h1⟩
      go_wp2_with fail
      refine (encode_app h1 hT s t (by rw [HZ.out]; omega)).mono ?_; rintro e w2 ⟨rfl, h2⟩
      go_wp2_with fail
      refine (encode_at h2 hT s (by omega)).mono ?_; rintro e w3 ⟨rfl, h3⟩
      go_wp2_with fail
      refine (encode_at h3 hT t (by omega)).mono ?_; rintro e w4 ⟨rfl, h4⟩
      have A1 := add_S (Hm.enc s.data.toList) (Hm.enc t.data.toList) (by rw [Hm.enc_length, Hm.enc_length]; simp; omega)
      go_wp2_with fail
      refine (is_app h4 hT s t (HM.out _ (by rw [HZ.out]; omega))).mono ?_; rintro e w5 ⟨rfl, rfl⟩
      clear A1
      go_wp2_with fail
      refine (is_at h4 hT s (HM.out _ (by omega))).mono ?_; rintro e w5 ⟨rfl, rfl⟩
      cases ha : Hm.allD s.data.toList
      · go_wp2_with fail
        go_ret
        exact ⟨rfl, h4⟩
      · go_wp2_with fail
        refine (is_at h4 hT t (HM.out _ (by omega))).mono ?_; rintro e w5 ⟨rfl, rfl⟩
        go_wp2_with fail
        go_ret
        exact ⟨rfl, h4⟩

theorem less_is : ∀ l r : List UInt8, Op.bytesLess l r = Hm.lessB l r
  | _, [] => by unfold Op.bytesLess Hm.lessB; rfl
  | [], _ :: _ => rfl
  | a :: x, b :: y => by unfold Op.bytesLess Hm.lessB; rw [less_is x y]

theorem drewN_below (w : World) (n : Nat) : Below w.heap.size w (w.drewN n) := ⟨rfl, rfl, rfl, Nat.le_refl _, fun _ _ => rfl⟩
theorem rise_encode {w0 w : World} (h : Below w0.heap.size w0 w) (hT : Tab w0) (s : ByteArray) (hs : s.size ≤ 3000) :
    Calls Tryd.prog 12 #[.string s] w fun e w' => e = .returned (.string (S (Hm.enc s.data.toList))) ∧ Below w0.heap.size w0 w' := encode_at h hT s (by omega)
theorem rise_less (a b : ByteArray) (h : a.size = b.size) : Op.bytesLess (S (Hm.enc a.data.toList)).toList (S (Hm.enc b.data.toList)).toList = Op.bytesLess a.toList b.toList := by
  rw [S_toList, S_toList, less_is, Hm.lessB_enc _ _ (by simpa using h), ByteArray.toList_eq, ByteArray.toList_eq, less_is]
theorem rise_eq (a b : ByteArray) : ((S (Hm.enc a.data.toList)).toList == (S (Hm.enc b.data.toList)).toList) = (a.toList == b.toList) := by
  rw [S_toList, S_toList, Hm.enc_inj, ByteArray.toList_eq, ByteArray.toList_eq]
theorem extract_size (s : ByteArray) (n : Nat) (h : n ≤ s.size) : (s.extract 0 n).size = n := by rw [ByteArray.size_extract]; omega

set_option maxHeartbeats 800000 in
theorem law_HexRise (s t : ByteArray) (w : World) (hs : s.size ≤ maxLen) (ht : t.size ≤ maxLen) (hT : Tab w) :
    Calls Tryd.prog 9 #[.string s, .string t] w fun e w' => e = .returned (.bool true) ∧ Below w.heap.size w w' := by
  unfold maxLen at hs ht
  by_cases h1 : t.size < s.size
  · by_cases h2 : 3000 < t.size
    · have z1 := extract_size s 3000 (by omega)
      have z2 := extract_size t 3000 (by omega)
      have Z1 := Lib.hid z1
      have Z2 := Lib.hid z2
      clear z1 z2
      have g1 : (3000 : Int) ≤ (s.size : Int) := by omega
      have g2 : (3000 : Int) ≤ (t.size : Int) := by omega
      go_enter Tryd.func9, Tryd.ntmps9
      go_wp2_with fail
      go_quiet (fail)
      go_wp2_with fail
      generalize s.extract 0 3000 = a at *
      generalize t.extract 0 3000 = b at *
      have za : a.size = 3000 := Z1.out
      have zb : b.size = 3000 := Z2.out
      refine (rise_encode (drewN_below w _) hT a (by omega)).mono ?_; rintro e w1 ⟨rfl, k1⟩
      go_wp2_with fail
      refine (rise_encode k1 hT b (by omega)).mono ?_; rintro e w2 ⟨rfl, k2⟩
      have e1 := rise_less a b (by omega)
      have e2 := rise_eq a b
      go_wp2_with fail
      refine (from_ k2 (awake_any _ (hT.below k2 hT.lt))).mono ?_; rintro e w3 ⟨rfl, k3⟩
      go_wp2_with fail
      go_ret
      exact ⟨rfl, k3⟩
    · have z1 := extract_size s t.size (by omega)
      have Z1 := Lib.hid z1
      clear z1
      have g1 : (t.size : Int) ≤ (s.size : Int) := by omega
      go_enter Tryd.func9, Tryd.ntmps9
      go_wp2_with fail
      go_quiet (fail)
      go_wp2_with fail
      generalize s.extract 0 t.size = a at *
      have za : a.size = t.size := Z1.out
      refine (rise_encode (drewN_below w _) hT a (by omega)).mono ?_; rintro e w1 ⟨rfl, k1⟩
      go_wp2_with fail
      refine (rise_encode k1 hT t (by omega)).mono ?_; rintro e w2 ⟨rfl, k2⟩
      have e1 := rise_less a t (by omega)
      have e2 := rise_eq a t
      go_wp2_with fail
      refine (from_ k2 (awake_any _ (hT.below k2 hT.lt))).mono ?_; rintro e w3 ⟨rfl, k3⟩
      go_wp2_with fail
      go_ret
      exact ⟨rfl, k3⟩
  · by_cases h2 : 3000 < s.size
    · have z1 := extract_size s 3000 (by omega)
      have z2 := extract_size t 3000 (by omega)
      have Z1 := Lib.hid z1
      have Z2 := Lib.hid z2
      clear z1 z2
      have g1 : (3000 : Int) ≤ (s.size : Int) := by omega
      have g2 : (3000 : Int) ≤ (t.size : Int) := by omega
      go_enter Tryd.func9, Tryd.ntmps9
      go_wp2_with fail
      go_quiet (fail)
      go_wp2_with fail
      generalize s.extract 0 3000 = a at *
      generalize t.extract 0 3000 = b at *
      have za : a.size = 3000 := Z1.out
      have zb : b.size = 3000 := Z2.out
      refine (rise_encode (drewN_below w _) hT a (by omega)).mono ?_; rintro e w1 ⟨rfl, k1⟩
      go_wp2_with fail
      refine (rise_encode k1 hT b (by omega)).mono ?_; rintro e w2 ⟨rfl, k2⟩
      have e1 := rise_less a b (by omega)
      have e2 := rise_eq a b
      go_wp2_with fail
      refine (from_ k2 (awake_any _ (hT.below k2 hT.lt))).mono ?_; rintro e w3 ⟨rfl, k3⟩
      go_wp2_with fail
      go_ret
      exact ⟨rfl, k3⟩
    · have z1 := extract_size t s.size (by omega)
      have Z1 := Lib.hid z1
      clear z1
      have g1 : (s.size : Int) ≤ (t.size : Int) := by omega
      go_enter Tryd.func9, Tryd.ntmps9
      go_wp2_with fail
      go_quiet (fail)
      go_wp2_with fail
      generalize t.extract 0 s.size = b at *
      have zb : b.size = s.size := Z1.out
      refine (rise_encode (drewN_below w _) hT s (by omega)).mono ?_; rintro e w1 ⟨rfl, k1⟩
      go_wp2_with fail
      refine (rise_encode k1 hT b (by omega)).mono ?_; rintro e w2 ⟨rfl, k2⟩
      have e1 := rise_less s b (by omega)
      have e2 := rise_eq s b
      go_wp2_with fail
      refine (from_ k2 (awake_any _ (hT.below k2 hT.lt))).mono ?_; rintro e w3 ⟨rfl, k3⟩
      go_wp2_with fail
      go_ret
      exact ⟨rfl, k3⟩

end Go.Proofs.YthanefhceopcfaaDoor
