/-
  What num.isFormed comes to.
-/
import Derived.Test.YtpifbmcgadjhbaaGreatDoorNumProg
namespace Go.Proofs.YtpifbmcgadjhbaaGreatDoor
open Go.RowKit

set_option maxHeartbeats 1000000 in
theorem isFormed_any (t : List UInt8) (w : World) (hl : t.length ≤ 100000000) :
    Calls Tryz.prog 142 #[.string (S t)] w fun e w' => e = .returned (.bool (Nm.form t)) ∧ Below w.heap.size w w' := by
  have hbl : (Nm.body t).length ≤ 100000000 := by
    unfold Nm.body
    split
    · rw [List.length_drop]; omega
    · exact hl
  have st := S_toList t
  have s48 : (⟨#[48]⟩ : ByteArray).toList = [48] := S_toList [48]
  by_cases h48 : t = [48]
  · have e48 : (t == [48]) = true := by rw [h48]; rfl
    have hf : Hid (Nm.form t = true) := by rw [Hid, h48]; rfl
    clear h48
    go_enter Tryz.func142, Tryz.ntmps142
    go_wp2_with fail
    go_ret
    exact ⟨ret_bool hf.out.symm, Below.refl _ _⟩
  · have e48 : (t == [48]) = false := beq_eq_false_iff_ne.2 h48
    have hf : Hid (Nm.form t = Nm.pos (Nm.body t)) := by rw [Hid]; unfold Nm.form; rw [e48]; rfl
    clear h48
    generalize hb : Nm.body t = b at *
    have HB := Lib.hid hb
    clear hb
    have sb := S_toList b
    have zb := S_size b
    cases b with
    | nil =>
      go_enter Tryz.func142, Tryz.ntmps142
      go_wp2_with fail
      refine (num_pre_any t w).mono ?_; rintro e w' ⟨rfl, rfl⟩
      rw [HB.out]
      go_wp2_with fail
      go_ret
      exact ⟨ret_bool (by rw [hf.out]; rfl), Below.refl _ _⟩
    | cons d r =>
      have hat := Tx_at (d :: r)
      have hd : Tx.bt (d :: r) 0 = d.toNat := rfl
      by_cases h0 : (d.toNat : Int) = 48
      · have hp : Hid (Nm.pos (d :: r) = false) := by
          rw [Hid, Bool.eq_false_iff]
          intro h
          rw [Nm.pos_iff] at h
          exact h.2.1 (by rw [List.head?_cons]; congr 1; exact UInt8.toNat.inj (by rw [show d.toNat = 48 by omega]; rfl))
        go_enter Tryz.func142, Tryz.ntmps142
        go_wp2_with fail
        refine (num_pre_any t w).mono ?_; rintro e w' ⟨rfl, rfl⟩
        rw [HB.out]
        go_wp2_with fail
        go_ret
        exact ⟨ret_bool (by rw [hf.out, hp.out]), Below.refl _ _⟩
      · have hp : Hid (Nm.pos (d :: r) = (Lib.trimS (d :: r) D10 == [])) := by
          rw [Hid, trim_nil]
          unfold Nm.pos
          have : ((d :: r).head? == some 48) = false := by
            rw [List.head?_cons, beq_eq_false_iff_ne]
            intro h
            exact h0 (by rw [Option.some.inj h]; rfl)
          rw [this]
          rfl
        have hT := trim_any (d :: r)
        generalize Lib.trimS (d :: r) D10 = X at *
        have sX := S_toList X
        go_enter Tryz.func142, Tryz.ntmps142
        go_wp2_with fail
        refine (num_pre_any t w).mono ?_; rintro e w' ⟨rfl, rfl⟩
        rw [HB.out]
        go_wp2_with fail
        refine (hT _ hbl).mono ?_; rintro e w1 ⟨rfl, hb⟩
        go_wp2_with fail
        go_ret
        refine ⟨ret_bool ?_, hb⟩
        rw [hf.out, hp.out, show ((d.toNat : Int) != 48) = true from bne_iff_ne.2 h0, Bool.true_and]
        cases X <;> rfl

/-- what Read tells of a text at a place -/
def Nm.READ (l : List UInt8) (a : Int) : Int × Int × Int :=
  if 0 ≤ a ∧ a ≤ (l.length : Int) then
    (if Nm.form (Nm.txt l a.toNat) then (if Nm.inR (Nm.val (Nm.txt l a.toNat)) then (Nm.val (Nm.txt l a.toNat), a + ((Nm.txt l a.toNat).length : Int), 0) else (0, 0, 9)) else (0, 0, 3))
  else (0, 0, 1)
theorem parse_ok (t : List UInt8) (w : World) (hl : t.length ≤ 100000000) (hf : Nm.form t = true) (hr : Nm.inR (Nm.val t) = true) :
    Calls Tryz.prog 143 #[.string (S t), .int .i64 10, .int .i64 64] w fun e w' => e = .returned (.tuple #[.int .i64 (Nm.val t), .nilIface]) ∧ Below w.heap.size w w' := by
  have h := Nm.parse_is hf
  rw [hr] at h
  refine (Any.strconv_ParseInt_10_at64_ok laysC174 (S t) (by rw [S_size]; omega) (Nm.val t) (by rw [S_data]; exact h) w).mono fun _ _ ⟨h1, h2⟩ => ⟨h1, ?_⟩
  rcases h2 with rfl | ⟨x, rfl⟩
  · exact Below.refl _ _
  · exact Lib.bytesWorld_below _ _ _
theorem parse_out (t : List UInt8) (w : World) (hT : TabN w) (hl : t.length ≤ 100000000) (hf : Nm.form t = true) (hr : Nm.inR (Nm.val t) = false) :
    Calls Tryz.prog 143 #[.string (S t), .int .i64 10, .int .i64 64] w fun e w' => ∃ x ty pt, e = .returned (.tuple #[.int .i64 x, .iface ty (.pointer (some pt))]) ∧ Below w.heap.size w w' := by
  have h := Nm.parse_is hf
  rw [hr] at h
  obtain ⟨_, tp, p, hv⟩ := hT
  exact (Any.strconv_ParseInt_10_at64_range_var laysC174 (S t) (by rw [S_size]; omega) (by rw [S_data]; exact h) tp p w hv).mono fun _ _ ⟨N, h1, _, _, h2⟩ => ⟨_, _, _, h1, h2⟩
set_option maxHeartbeats 1000000 in
theorem numRead_any (l : List UInt8) (a : Int) (w : World) (hT : TabN w) (hl : l.length ≤ 50000000) :
    Calls Tryz.prog 127 #[.string (S l), .int .i64 a] w fun e w' => e = .returned (.tuple #[.int .i64 (Nm.READ l a).1, .int .i64 (Nm.READ l a).2.1, .int .i64 (Nm.READ l a).2.2]) ∧ Below w.heap.size w w' := by
  have z1 := S_size l
  by_cases h0 : a < 0
  · have hR : Hid (Nm.READ l a = (0, 0, 1)) := by unfold Hid Nm.READ; rw [if_neg (by omega)]
    go_enter Tryz.func127, Tryz.ntmps127
    go_wp2_with fail
    rw [hR.out]
    go_ret3
    exact ⟨rfl, Below.refl _ _⟩
  by_cases h1 : (l.length : Int) < a
  · have hR : Hid (Nm.READ l a = (0, 0, 1)) := by unfold Hid Nm.READ; rw [if_neg (by omega)]
    go_enter Tryz.func127, Tryz.ntmps127
    go_wp2_with fail
    rw [hR.out]
    go_ret3
    exact ⟨rfl, Below.refl _ _⟩
  obtain ⟨k, rfl⟩ : ∃ k : Nat, a = (k : Int) := ⟨a.toNat, by omega⟩
  have hk : k ≤ l.length := by omega
  have hR : Hid (Nm.READ l (k : Int) = (if Nm.form (Nm.txt l k) then (if Nm.inR (Nm.val (Nm.txt l k)) then (Nm.val (Nm.txt l k), (k : Int) + ((Nm.txt l k).length : Int), 0) else (0, 0, 9)) else (0, 0, 3))) := by
    unfold Hid Nm.READ
    rw [if_pos (by omega), Int.toNat_natCast]
  have hA := textAt_any l k w hk (by omega)
  have ht := Nm.txt_len l k hk
  generalize Nm.txt l k = t at *
  have z2 := S_size t
  cases hf : Nm.form t with
  | false =>
    rw [hf] at hR
    have HF := Lib.hid hf
    clear hf
    go_enter Tryz.func127, Tryz.ntmps127
    go_wp2_with fail
    refine hA.mono ?_; rintro e w1 ⟨rfl, hb1⟩
    go_wp2_with fail
    refine (isFormed_any t w1 (by omega)).mono ?_; rintro e w2 ⟨rfl, hb2⟩
    rw [HF.out]
    go_wp2_with fail
    rw [hR.out]
    go_ret3
    exact ⟨rfl, hb1.trans (hb2.mono hb1.size)⟩
  | true =>
    rw [hf] at hR
    have HF := Lib.hid hf
    clear hf
    cases hr : Nm.inR (Nm.val t) with
    | false =>
      rw [hr] at hR
      have HR := Lib.hid hr
      clear hr
      go_enter Tryz.func127, Tryz.ntmps127
      go_wp2_with fail
      refine hA.mono ?_; rintro e w1 ⟨rfl, hb1⟩
      go_wp2_with fail
      refine (isFormed_any t w1 (by omega)).mono ?_; rintro e w2 ⟨rfl, hb2⟩
      rw [HF.out]
      go_wp2_with fail
      refine (parse_out t w2 ((hT.below hb1).below hb2) (by omega) HF.out HR.out).mono ?_; rintro e w3 ⟨x, ty, pt, rfl, hb3⟩
      go_wp2_with fail
      rw [hR.out]
      go_ret3
      exact ⟨rfl, hb1.trans ((hb2.trans (hb3.mono hb2.size)).mono hb1.size)⟩
    | true =>
      rw [hr] at hR
      have HR := Lib.hid hr
      clear hr
      have hP := fun w2 => parse_ok t w2 (by omega) HF.out HR.out
      generalize Nm.val t = v at *
      go_enter Tryz.func127, Tryz.ntmps127
      go_wp2_with fail
      refine hA.mono ?_; rintro e w1 ⟨rfl, hb1⟩
      go_wp2_with fail
      refine (isFormed_any t w1 (by omega)).mono ?_; rintro e w2 ⟨rfl, hb2⟩
      rw [HF.out]
      go_wp2_with fail
      refine (hP w2).mono ?_; rintro e w3 ⟨rfl, hb3⟩
      go_wp2_with fail
      rw [hR.out]
      go_ret3
      exact ⟨rfl, hb1.trans ((hb2.trans (hb3.mono hb2.size)).mono hb1.size)⟩
theorem Nm.READ_ways (l : List UInt8) (a : Int) :
    (∃ x, x ≠ 0 ∧ Nm.READ l a = (0, 0, x)) ∨ (∃ (k : Nat) (t : List UInt8), a = (k : Int) ∧ t = Nm.txt l k ∧ Nm.form t = true ∧ Nm.inR (Nm.val t) = true ∧ Nm.READ l a = (Nm.val t, (k : Int) + (t.length : Int), 0) ∧ 0 < t.length ∧ k + t.length ≤ l.length ∧ (l.drop k).take t.length = t) := by
  by_cases ha : 0 ≤ a ∧ a ≤ (l.length : Int)
  · obtain ⟨k, rfl⟩ : ∃ k : Nat, a = (k : Int) := ⟨a.toNat, by omega⟩
    have hR : Nm.READ l (k : Int) = (if Nm.form (Nm.txt l k) then (if Nm.inR (Nm.val (Nm.txt l k)) then (Nm.val (Nm.txt l k), (k : Int) + ((Nm.txt l k).length : Int), 0) else (0, 0, 9)) else (0, 0, 3)) := by
      unfold Nm.READ
      rw [if_pos (by omega), Int.toNat_natCast]
    cases hf : Nm.form (Nm.txt l k) with
    | false =>
      rw [hf] at hR
      exact .inl ⟨3, by omega, hR⟩
    | true =>
      cases hr : Nm.inR (Nm.val (Nm.txt l k)) with
      | false =>
        rw [hf, hr] at hR
        exact .inl ⟨9, by omega, hR⟩
      | true =>
        rw [hf, hr] at hR
        refine .inr ⟨k, _, rfl, rfl, hf, hr, hR, ?_, Nm.txt_len l k (by omega), Nm.txt_take l k⟩
        have := Nm.form_ne hf
        cases h : Nm.txt l k with
        | nil => exact absurd h this
        | cons _ _ => simp
  · exact .inl ⟨1, by omega, by unfold Nm.READ; rw [if_neg ha]⟩
end Go.Proofs.YtpifbmcgadjhbaaGreatDoor
