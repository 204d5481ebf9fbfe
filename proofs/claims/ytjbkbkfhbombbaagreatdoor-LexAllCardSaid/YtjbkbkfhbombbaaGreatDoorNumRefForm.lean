/-
  What the document's Form and Read come to.
-/
import Derived.Test.YtjbkbkfhbombbaaGreatDoorNumForm
import Derived.Test.YtjbkbkfhbombbaaGreatDoorNumRefShow
namespace Go.Proofs.YtjbkbkfhbombbaaGreatDoor
open Go.RowKit

def Nm.dg (x : Nat) : Bool := decide (48 ≤ x) && decide (x ≤ 57)
theorem Nm.dg_true {x : Nat} (h : 48 ≤ x ∧ x ≤ 57) : (true && Nm.dg x) = true := by unfold Nm.dg; simp; exact h
theorem Nm.all_step {b : List UInt8} {i : Nat} (h : i < b.length) : (b.take (i + 1)).all Nm.dig = ((b.take i).all Nm.dig && Nm.dg (Tx.bt b i)) := by
  rw [List.take_add_one, List.getElem?_eq_getElem h, List.all_append, Tx.bt_get h]
  simp [Nm.dg, Nm.dig]
theorem Nm.all_false {b : List UInt8} {i : Nat} (h : i < b.length) (hb : Tx.bt b i < 48 ∨ 57 < Tx.bt b i) : b.all Nm.dig = false := by
  rw [Bool.eq_false_iff]
  intro ha
  have := Nm.dig_iff.1 (List.all_eq_true.1 ha b[i] (List.getElem_mem h))
  rw [Tx.bt_get h] at hb
  omega
theorem Nm.form_body {t b : List UInt8} (hb : Nm.body t = b) (h48 : t ≠ [48]) : Nm.form t = Nm.pos b := by
  unfold Nm.form
  rw [hb, beq_eq_false_iff_ne.2 h48, Bool.false_or]
theorem Nm.bt_ne {b : List UInt8} (h : 0 < b.length) : ∃ d r, b = d :: r ∧ d.toNat = Tx.bt b 0 := by
  cases b with
  | nil => simp at h
  | cons d r => exact ⟨d, r, rfl, rfl⟩
theorem Nm.of_bt {d : UInt8} {k : Nat} (hk : k < 256) (h : d.toNat = k) : d = UInt8.ofNat k := by
  apply UInt8.toNat.inj
  rw [h, UInt8.toNat_ofNat']
  omega
theorem Nm.pos48 {b : List UInt8} (h0 : 0 < b.length) (h : (Tx.bt b 0 : Int) = 48) : Nm.pos b = false := by
  obtain ⟨d, r, rfl, hd⟩ := Nm.bt_ne h0
  rw [Bool.eq_false_iff]
  intro hp
  rw [Nm.pos_iff] at hp
  exact hp.2.1 (by rw [List.head?_cons]; congr 1; exact Nm.of_bt (k := 48) (by omega) (by omega))
theorem Nm.pos_all {b : List UInt8} (h0 : 0 < b.length) (h : ¬ (Tx.bt b 0 : Int) = 48) : Nm.pos b = b.all Nm.dig := by
  obtain ⟨d, r, rfl, hd⟩ := Nm.bt_ne h0
  unfold Nm.pos
  have : ((d :: r).head? == some 48) = false := by
    rw [List.head?_cons, beq_eq_false_iff_ne]
    intro h'
    refine h ?_
    rw [← hd, Option.some.inj h']
    rfl
  rw [this]
  rfl
theorem Nm.body45 {t : List UInt8} (h0 : 0 < t.length) (h : (Tx.bt t 0 : Int) = 45) : Nm.body t = t.drop 1 := by
  obtain ⟨d, r, rfl, hd⟩ := Nm.bt_ne h0
  have : d = 45 := Nm.of_bt (k := 45) (by omega) (by omega)
  rw [this]
  rfl
theorem Nm.body_not {t : List UInt8} (h : t.length = 0 ∨ ¬ (Tx.bt t 0 : Int) = 45) : Nm.body t = t := by
  cases t with
  | nil => rfl
  | cons d r =>
    have hne : (d == 45) = false := by
      rw [beq_eq_false_iff_ne]
      rintro rfl
      rcases h with h | h
      · simp at h
      · exact h rfl
    show (if (d == 45) = true then _ else _) = _
    rw [hne]
    rfl
/-- a text is empty, or it isn't: as the walk asks it -/
theorem Tx_empty (t : List UInt8) (h : t.length = 0) : (S t).toList = [] ∧ (S t).toList.isEmpty = true := by
  rw [S_toList, List.length_eq_zero_iff.1 h]
  exact ⟨rfl, rfl⟩
theorem Tx_full (t : List UInt8) (h : 0 < t.length) : ¬ (S t).toList = [] ∧ (S t).toList.isEmpty = false := by
  rw [S_toList]
  cases t with
  | nil => simp at h
  | cons a r => exact ⟨by simp, rfl⟩
set_option maxHeartbeats 1000000 in
set_option maxRecDepth 3000 in
theorem refNumForm_any (t : List UInt8) (w : World) (hl : t.length ≤ 100000000) :
    Calls Tryz.prog 25 #[.string (S t)] w fun e w' => e = .returned (.bool (Nm.form t)) ∧ Below w.heap.size w w' := by
  have zt := S_size t
  by_cases h48 : t = [48]
  · have st := S_toList t
    have s48 : (⟨#[48]⟩ : ByteArray).toList = [48] := S_toList [48]
    have e48 : (t == [48]) = true := by rw [h48]; rfl
    have hf : Hid (Nm.form t = true) := by rw [Hid, h48]; rfl
    clear h48
    go_enter Tryz.func25, Tryz.ntmps25
    go_wp2_with fail
    go_ret
    exact ⟨ret_bool hf.out.symm, Below.refl _ _⟩
  have e48 : ((S t).toList == (⟨#[48]⟩ : ByteArray).toList) = false := by
    rw [S_toList, show (⟨#[48]⟩ : ByteArray).toList = [48] from S_toList [48]]
    exact beq_eq_false_iff_ne.2 h48
  have e48' : ((S t).toList == [48]) = false := by
    rw [S_toList]
    exact beq_eq_false_iff_ne.2 h48
  have s48 : (⟨#[48]⟩ : ByteArray).toList = [48] := S_toList [48]
  by_cases h0 : t.length = 0
  · have hf := Lib.hid (Nm.form_body (Nm.body_not (.inl h0)) h48)
    obtain ⟨hem, hem'⟩ := Tx_empty t h0
    have hp : Hid (Nm.pos t = false) := by rw [Hid, List.length_eq_zero_iff.1 h0]; rfl
    clear h48
    go_enter Tryz.func25, Tryz.ntmps25
    go_wp2_with fail
    go_ret
    exact ⟨ret_bool (by rw [hf.out, hp.out]), Below.refl _ _⟩
  obtain ⟨hem, hem'⟩ := Tx_full t (by omega)
  have hat := Tx_at t
  by_cases h45 : (Tx.bt t 0 : Int) = 45
  · have hbd := Nm.body45 (by omega) h45
    have hsl : (S t).extract 1 t.length = S (t.drop 1) := Tx_drop t 1
    have hbl : (t.drop 1).length = t.length - 1 := List.length_drop
    generalize t.drop 1 = b at *
    have hf := Lib.hid (Nm.form_body hbd h48)
    have zb := S_size b
    clear hbd h48
    by_cases hb0 : b.length = 0
    · obtain ⟨hbe, hbe'⟩ := Tx_empty b hb0
      have hp : Hid (Nm.pos b = false) := by rw [Hid, List.length_eq_zero_iff.1 hb0]; rfl
      go_enter Tryz.func25, Tryz.ntmps25
      go_wp2_with fail
      go_ret
      exact ⟨ret_bool (by rw [hf.out, hp.out]), Below.refl _ _⟩
    obtain ⟨hbe, hbe'⟩ := Tx_full b (by omega)
    have hab := Tx_at b
    by_cases hc : (Tx.bt b 0 : Int) = 48
    · have hp := Lib.hid (Nm.pos48 (by omega) hc)
      go_enter Tryz.func25, Tryz.ntmps25
      go_wp2_with fail
      go_ret
      exact ⟨ret_bool (by rw [hf.out, hp.out]), Below.refl _ _⟩
    have hp := Lib.hid (hf.out.trans (Nm.pos_all (by omega) hc))
    have hcb : ((Tx.bt b 0 : Int) == 48) = false := beq_eq_false_iff_ne.2 hc
    go_enter Tryz.func25, Tryz.ntmps25
    go_wp2_with fail
    go_loopw [3] (fun iv wr => ∃ i : Nat, iv = .int .i64 (i : Int) ∧ i ≤ b.length ∧ Hid ((b.take i).all Nm.dig = true) ∧ Below w.heap.size w wr) (fun iv _ => b.length - (intOf iv).toNat)
    case atStart => exact ⟨0, rfl, Nat.zero_le _, rfl, Below.refl _ _⟩
    case round =>
      obtain ⟨i, rfl, hi, HA, hbel⟩ := hrel
      by_cases hlt : (i : Int) < (b.length : Int)
      · have hby := Tx.bt_lt b i
        have HK := Lib.hid (Nm.all_step (show i < b.length by omega))
        have HF := Lib.hid (Nm.all_false (show i < b.length by omega))
        by_cases h1 : (Tx.bt b i : Int) < 48
        · go_wp2_with fail
          go_ret
          exact ⟨ret_bool (by rw [hp.out, HF.out (by omega)]), hbel⟩
        by_cases h2 : (57 : Int) < (Tx.bt b i : Int)
        · go_wp2_with fail
          go_ret
          exact ⟨ret_bool (by rw [hp.out, HF.out (by omega)]), hbel⟩
        have HD : Hid (48 ≤ Tx.bt b i ∧ Tx.bt b i ≤ 57) := by rw [Hid]; omega
        go_wp2_with fail
        go_roundw
        case rel => exact ⟨i + 1, by congr 1, by omega, by rw [Hid, HK.out, HA.out]; exact Nm.dg_true HD.out, hbel⟩
        case measure => simp [intOf]; omega
      · go_wp2_with fail
        go_ret
        have h3 := HA.out
        rw [List.take_of_length_le (by omega)] at h3
        exact ⟨ret_bool (by rw [hp.out, h3]), hbel⟩
  · have hf := Lib.hid (Nm.form_body (Nm.body_not (.inr h45)) h48)
    have h45b : ((Tx.bt t 0 : Int) == 45) = false := beq_eq_false_iff_ne.2 h45
    clear h48
    by_cases hc : (Tx.bt t 0 : Int) = 48
    · have hp := Lib.hid (Nm.pos48 (by omega) hc)
      go_enter Tryz.func25, Tryz.ntmps25
      go_wp2_with fail
      go_ret
      exact ⟨ret_bool (by rw [hf.out, hp.out]), Below.refl _ _⟩
    have hp := Lib.hid (hf.out.trans (Nm.pos_all (by omega) hc))
    have hcb : ((Tx.bt t 0 : Int) == 48) = false := beq_eq_false_iff_ne.2 hc
    go_enter Tryz.func25, Tryz.ntmps25
    go_wp2_with fail
    go_loopw [3] (fun iv wr => ∃ i : Nat, iv = .int .i64 (i : Int) ∧ i ≤ t.length ∧ Hid ((t.take i).all Nm.dig = true) ∧ Below w.heap.size w wr) (fun iv _ => t.length - (intOf iv).toNat)
    case atStart => exact ⟨0, rfl, Nat.zero_le _, rfl, Below.refl _ _⟩
    case round =>
      obtain ⟨i, rfl, hi, HA, hbel⟩ := hrel
      by_cases hlt : (i : Int) < (t.length : Int)
      · have hby := Tx.bt_lt t i
        have HK := Lib.hid (Nm.all_step (show i < t.length by omega))
        have HF := Lib.hid (Nm.all_false (show i < t.length by omega))
        by_cases h1 : (Tx.bt t i : Int) < 48
        · go_wp2_with fail
          go_ret
          exact ⟨ret_bool (by rw [hp.out, HF.out (by omega)]), hbel⟩
        by_cases h2 : (57 : Int) < (Tx.bt t i : Int)
        · go_wp2_with fail
          go_ret
          exact ⟨ret_bool (by rw [hp.out, HF.out (by omega)]), hbel⟩
        have HD : Hid (48 ≤ Tx.bt t i ∧ Tx.bt t i ≤ 57) := by rw [Hid]; omega
        go_wp2_with fail
        go_roundw
        case rel => exact ⟨i + 1, by congr 1, by omega, by rw [Hid, HK.out, HA.out]; exact Nm.dg_true HD.out, hbel⟩
        case measure => simp [intOf]; omega
      · go_wp2_with fail
        go_ret
        have h3 := HA.out
        rw [List.take_of_length_le (by omega)] at h3
        exact ⟨ret_bool (by rw [hp.out, h3]), hbel⟩
end Go.Proofs.YtjbkbkfhbombbaaGreatDoor
