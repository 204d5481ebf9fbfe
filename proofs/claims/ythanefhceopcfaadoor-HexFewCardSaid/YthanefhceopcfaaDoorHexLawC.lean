/-
  The walk of HexFew: it comes to true.
-/
import Derived.Test.YthanefhceopcfaaDoorHexAwake
import Derived.Lib.Strings
namespace Go.Proofs.YthanefhceopcfaaDoor
open Go.RowKit

theorem number_digs {w0 w : World} (h : Below w0.heap.size w0 w) (hT : Tab w0) (n : Nat) (least : Int) (hn : n ≤ 18446744073709551615) :
    Calls Tryd.prog 13 #[.string (S (Hm.digs n least))] w fun e w' => e = .returned (.tuple #[.int .u64 n, .int .i64 0]) ∧ w = w' := by
  have hd := Hm.digs_num n least (by omega)
  have hb := Hm.digs_bd n least (by omega)
  refine (number_at h hT _ (by unfold maxLen; rw [S_size, Hm.digs_length]; omega)).mono ?_
  rintro e w' ⟨rfl, hw⟩
  rw [S_data, hd.1, hd.2]
  exact ⟨rfl, hw⟩

/-- what HexFew asks of the two texts -/
structure Few (a b : ByteArray) (least : Int) : Prop where
  a1 : 1 ≤ a.size
  ab : a.size ≤ b.size
  b16 : b.size ≤ 16
  top : (b.size : Int) = max (a.size : Int) (min least 16)
  head : ∀ h : 0 < a.size, (a[0].toNat : Int) = 48 → a.toList = [48]
  pad : ∀ k (h : k < b.size), k < b.size - a.size → (b[k].toNat : Int) = 48
  tail : (b.extract (b.size - a.size) b.size).toList = a.toList
theorem few (n : Nat) (least : Int) (hn : n ≤ 18446744073709551615) : Few (S (Hm.digs n 1)) (S (Hm.digs n least)) least := by
  have b1 := Hm.digs_bd n 1 (by omega)
  have b2 := Hm.digs_bd n least (by omega)
  have hp := Hm.digs_pad n least (by omega)
  have hw := Hm.want_bd least
  have hd1 := Hm.dlen_one n (by omega)
  have hdl : Hm.dlen n least = max (Hm.nd n) (Hm.want least) := rfl
  have z1 : (S (Hm.digs n 1)).size = Hm.dlen n 1 := by rw [S_size, Hm.digs_length]
  have z2 : (S (Hm.digs n least)).size = Hm.dlen n least := by rw [S_size, Hm.digs_length]
  refine ⟨by omega, by omega, by omega, by rw [z1, z2]; omega, fun h hc => ?_, fun k h hk => ?_, ?_⟩
  · rw [S_toList]
    have hg : (S (Hm.digs n 1))[0] = (Hm.digs n 1)[0]'(by rw [S_size] at h; exact h) := rfl
    rw [hg] at hc
    cases hl : Hm.digs n 1 with
    | nil => rw [S_size, hl] at h; simp at h
    | cons c l =>
      have h48 : c = 48 := by
        simp only [hl, List.getElem_cons_zero] at hc
        apply UInt8.toNat_inj.1
        have : (48 : UInt8).toNat = 48 := rfl
        omega
      have := (Hm.digs_head n (by omega) c l hl h48).1
      rw [this, h48]
  · have hg : (S (Hm.digs n least))[k] = (Hm.digs n least)[k]'(by rw [S_size] at h; exact h) := rfl
    rw [hg]
    rw [z1, z2] at hk
    have he : (Hm.digs n least)[k]'(by rw [S_size] at h; exact h) = 48 := by
      have hq : (Hm.digs n least)[k]? = some 48 := by
        rw [hp, List.getElem?_append_left (by simpa using hk), List.getElem?_replicate, if_pos hk]
      rw [List.getElem?_eq_getElem (by rw [S_size] at h; exact h)] at hq
      exact Option.some.inj hq
    rw [he]; rfl
  · rw [ByteArray.toList_eq, Lib.extract_data, S_toList, z1, z2, S_data]
    have hl := Hm.digs_length n least
    rw [List.take_of_length_le (by rw [List.length_drop]; omega)]
    conv => lhs; rw [hp]
    rw [List.drop_append, List.drop_of_length_le (by simp), List.length_replicate, Nat.sub_self]
    simp

set_option maxRecDepth 100000 in
set_option maxHeartbeats 1600000 in
theorem law_HexFew (n : Nat) (least : Int) (w : World) (hn : n ≤ 18446744073709551615) (hT : Tab w) :
    Calls Tryd.prog 10 #[.int .u64 n, .int .i64 least] w fun e w' => e = .returned (.bool true) ∧ Below w.heap.size w w' := by
  have HF := Lib.hid (few n least hn)
  go_enter Tryd.func10, Tryd.ntmps10
  go_wp2_with fail
  refine (digits_at (Below.refl _ _) hT n 1 hn).mono ?_; rintro e w1 ⟨rfl, h1⟩
  go_wp2_with fail
  refine (digits_at h1 hT n least hn).mono ?_; rintro e w2 ⟨rfl, h2⟩
  go_wp2_with fail
  refine (number_digs h2 hT n 1 hn).mono ?_; rintro e w3 ⟨rfl, rfl⟩
  go_wp2_with fail
  refine (number_digs h2 hT n least hn).mono ?_; rintro e w3 ⟨rfl, rfl⟩
  generalize S (Hm.digs n 1) = a at *
  generalize S (Hm.digs n least) = b at *
  have f1 := HF.out.a1
  have f2 := HF.out.ab
  have f3 := HF.out.b16
  have HTop := Lib.hid HF.out.top
  have h0 : 0 < a.size := by omega
  have hhead : ((a[0].toNat : Int) == 48) = false ∨ (((a[0].toNat : Int) == 48) = true ∧ (a.toList == [48]) = true) := by
    cases hc : ((a[0].toNat : Int) == 48)
    · exact .inl rfl
    · exact .inr ⟨rfl, by rw [HF.out.head h0 (beq_iff_eq.1 hc)]; rfl⟩
  obtain ⟨M, hM⟩ : ∃ M : Int, M = min least 16 := ⟨_, rfl⟩
  have hmin : (if (16 : Int) < least then (16 : Int) else least) = M := by split <;> omega
  have hmax : (if (a.size : Int) < M then M else (a.size : Int)) = (b.size : Int) := by have := HTop.out; split <;> omega
  have d1 : decide ((a.size : Int) < 1) = false := by simp; omega
  have d2 : decide (b.size < a.size) = false := by simp; omega
  have d3 : decide ((b.size : Int) < (a.size : Int)) = false := by simp; omega
  clear hM
  rcases hhead with g | ⟨g, g'⟩
  · go_wp2_with fail
    go_loop [11] (fun i => ∃ k : Nat, k ≤ b.size - a.size ∧ i = .int .i64 k) (fun i => 20 - (intOf i).toNat)
    case atStart => exact ⟨0, by omega, rfl⟩
    case round =>
      obtain ⟨k, hk, rfl⟩ := hrel
      by_cases hlt : k < b.size - a.size
      · have hx : (k : Int) < (b.size : Int) - (a.size : Int) := by omega
        have hkb : k < b.size := by omega
        have h48 : ((b[k].toNat : Int) != 48) = false := by rw [bne_eq_false_iff_eq]; exact HF.out.pad k hkb hlt
        go_wp2_with fail
        go_round
        case rel => exact ⟨k + 1, by omega, by go_num⟩
        case measure => simp [intOf]; omega
      · have hx : ¬ ((k : Int) < (b.size : Int) - (a.size : Int)) := by omega
        have hz : ((b.extract (b.size - a.size) b.size).toList == a.toList) = true := by rw [HF.out.tail]; exact beq_self_eq_true _
        go_wp2_with fail
        refine (from_ h2 (awake_any _ (hT.below h2 hT.lt))).mono ?_; rintro e w3 ⟨rfl, h3⟩
        go_wp2_with fail
        go_ret
        exact ⟨rfl, h3⟩
  · have g2 : (a.toList != [48]) = false := by rw [bne, g']; rfl
    go_wp2_with fail
    go_loop [11] (fun i => ∃ k : Nat, k ≤ b.size - a.size ∧ i = .int .i64 k) (fun i => 20 - (intOf i).toNat)
    case atStart => exact ⟨0, by omega, rfl⟩
    case round =>
      obtain ⟨k, hk, rfl⟩ := hrel
      by_cases hlt : k < b.size - a.size
      · have hx : (k : Int) < (b.size : Int) - (a.size : Int) := by omega
        have hkb : k < b.size := by omega
        have h48 : ((b[k].toNat : Int) != 48) = false := by rw [bne_eq_false_iff_eq]; exact HF.out.pad k hkb hlt
        go_wp2_with fail
        go_round
        case rel => exact ⟨k + 1, by omega, by go_num⟩
        case measure => simp [intOf]; omega
      · have hx : ¬ ((k : Int) < (b.size : Int) - (a.size : Int)) := by omega
        have hz : ((b.extract (b.size - a.size) b.size).toList == a.toList) = true := by rw [HF.out.tail]; exact beq_self_eq_true _
        go_wp2_with fail
        refine (from_ h2 (awake_any _ (hT.below h2 hT.lt))).mono ?_; rintro e w3 ⟨rfl, h3⟩
        go_wp2_with fail
        go_ret
        exact ⟨rfl, h3⟩

end Go.Proofs.YthanefhceopcfaaDoor
