/-
  What the document's Read comes to.
-/
import Derived.Test.YtjbkbkfhbombbaaGreatDoorNumRefForm
namespace Go.Proofs.YtjbkbkfhbombbaaGreatDoor
open Go.RowKit
open Go.Lib (itoa)

/-- the number of what is still to be read, behind a -/
def Nm.go (ng : Bool) (a : Int) : List UInt8 → Int
  | [] => a
  | c :: r => if c = 45 then Nm.go ng a r else Nm.go ng (if ng then 10 * a - ((c.toNat : Int) - 48) else 10 * a + ((c.toNat : Int) - 48)) r
theorem Nm.go_pos (a : Nat) (r : List UInt8) (h : r.all Nm.dig = true) : Nm.go false (a : Int) r = (Nm.nat a r : Int) := by
  induction r generalizing a with
  | nil => rfl
  | cons c r ih =>
    simp only [List.all_cons, Bool.and_eq_true] at h
    have hc := Nm.dig_iff.1 h.1
    have hne : c ≠ 45 := fun hx => by rw [hx] at hc; revert hc; decide
    show (if c = 45 then _ else _) = _
    rw [if_neg hne]
    have := ih (a * 10 + (c.toNat - 48)) h.2
    show Nm.go false (10 * (a : Int) + ((c.toNat : Int) - 48)) r = _
    rw [show 10 * (a : Int) + ((c.toNat : Int) - 48) = ((a * 10 + (c.toNat - 48) : Nat) : Int) by omega, this]
    rfl
theorem Nm.go_neg (a : Nat) (r : List UInt8) (h : r.all Nm.dig = true) : Nm.go true (-(a : Int)) r = -(Nm.nat a r : Int) := by
  induction r generalizing a with
  | nil => rfl
  | cons c r ih =>
    simp only [List.all_cons, Bool.and_eq_true] at h
    have hc := Nm.dig_iff.1 h.1
    have hne : c ≠ 45 := fun hx => by rw [hx] at hc; revert hc; decide
    show (if c = 45 then _ else _) = _
    rw [if_neg hne]
    have := ih (a * 10 + (c.toNat - 48)) h.2
    show Nm.go true (10 * -(a : Int) - ((c.toNat : Int) - 48)) r = _
    rw [show 10 * -(a : Int) - ((c.toNat : Int) - 48) = -((a * 10 + (c.toNat - 48) : Nat) : Int) by omega, this]
    rfl
theorem Nm.go_val {t : List UInt8} (h : Nm.form t = true) : Nm.go (Nm.neg t) 0 t = Nm.val t := by
  rcases Nm.form_cases h with rfl | ⟨r, rfl, hr⟩ | ⟨hn, hp⟩
  · rfl
  · rw [Nm.pos_iff] at hr
    show Nm.go true 0 r = -(Nm.nat 0 r : Int)
    exact Nm.go_neg 0 r hr.2.2
  · rw [Nm.pos_iff] at hp
    have hv : Nm.val t = (Nm.nat 0 t : Int) := by unfold Nm.val Nm.body; rw [hn]; rfl
    rw [hn, hv]
    exact Nm.go_pos 0 t hp.2.2
/-- the bytes of a text of the form -/
theorem Nm.form_bytes {t : List UInt8} (h : Nm.form t = true) (i : Nat) (hi : i < t.length) : Tx.bt t i = 45 ∨ (48 ≤ Tx.bt t i ∧ Tx.bt t i ≤ 57) := by
  have key : ∀ b ∈ t, b.toNat = 45 ∨ (48 ≤ b.toNat ∧ b.toNat ≤ 57) := by
    have hd : ∀ r : List UInt8, Nm.pos r = true → ∀ b ∈ r, 48 ≤ b.toNat ∧ b.toNat ≤ 57 := fun r hr b hb => by
      rw [Nm.pos_iff] at hr
      exact Nm.dig_iff.1 (List.all_eq_true.1 hr.2.2 b hb)
    rcases Nm.form_cases h with rfl | ⟨r, rfl, hr⟩ | ⟨hn, hp⟩
    · intro b hb
      simp at hb
      subst hb
      right
      decide
    · intro b hb
      rcases List.mem_cons.1 hb with rfl | hb
      · left; rfl
      · exact .inr (hd r hr b hb)
    · exact fun b hb => .inr (hd t hp b hb)
  rw [Tx.bt_get hi]
  exact key _ (List.getElem_mem hi)
theorem Nm.neg_bt {t : List UInt8} (h : 0 < t.length) : Nm.neg t = decide (Tx.bt t 0 = 45) := by
  obtain ⟨d, r, rfl, hd⟩ := Nm.bt_ne h
  show (d == 45) = _
  rw [Bool.eq_iff_iff, beq_iff_eq, decide_eq_true_eq, ← hd]
  exact ⟨fun e => by rw [e]; rfl, fun e => Nm.of_bt (k := 45) (by omega) e⟩
theorem Nm.go_45 {ng : Bool} {b v : Int} {d : UInt8} {r : List UInt8} (h : d.toNat = 45) (hg : Nm.go ng b (d :: r) = v) : Nm.go ng b r = v := by
  have : d = 45 := Nm.of_bt (k := 45) (by omega) h
  rw [this] at hg
  exact hg
theorem Nm.go_d {ng : Bool} {b v : Int} {d : UInt8} {r : List UInt8} (h : d.toNat ≠ 45) (hg : Nm.go ng b (d :: r) = v) :
    Nm.go ng (if ng then 10 * b - ((d.toNat : Int) - 48) else 10 * b + ((d.toNat : Int) - 48)) r = v := by
  have hne : d ≠ 45 := fun hx => h (by rw [hx]; rfl)
  have h2 : (if d = 45 then Nm.go ng b r else Nm.go ng (if ng then 10 * b - ((d.toNat : Int) - 48) else 10 * b + ((d.toNat : Int) - 48)) r) = v := hg
  rw [if_neg hne] at h2
  exact h2
/-- n is b, but for turns of 64 bits -/
def Nm.Cg (n b : Int) : Prop := ∃ q : Int, n = b + 18446744073709551616 * q
theorem Nm.wrap_is (x : Int) : (∃ q : Int, wrap64 x = x + 18446744073709551616 * q) ∧ -9223372036854775808 ≤ wrap64 x ∧ wrap64 x ≤ 9223372036854775807 := by
  unfold wrap64
  refine ⟨⟨-((x + 9223372036854775808) / 18446744073709551616), ?_⟩, ?_, ?_⟩ <;> omega
theorem Nm.Cg.minus {n b : Int} (h : Nm.Cg n b) (x : Nat) : Nm.Cg (wrap64 (wrap64 (10 * n) - ((x : Int) - 48))) (10 * b - ((x : Int) - 48)) ∧ -9223372036854775808 ≤ wrap64 (wrap64 (10 * n) - ((x : Int) - 48)) ∧ wrap64 (wrap64 (10 * n) - ((x : Int) - 48)) ≤ 9223372036854775807 := by
  obtain ⟨q, hq⟩ := h
  obtain ⟨⟨q1, h1⟩, _, _⟩ := Nm.wrap_is (10 * n)
  obtain ⟨⟨q2, h2⟩, h3, h4⟩ := Nm.wrap_is (wrap64 (10 * n) - ((x : Int) - 48))
  exact ⟨⟨10 * q + q1 + q2, by omega⟩, h3, h4⟩
theorem Nm.Cg.plus {n b : Int} (h : Nm.Cg n b) (x : Nat) : Nm.Cg (wrap64 (wrap64 (10 * n) + ((x : Int) - 48))) (10 * b + ((x : Int) - 48)) ∧ -9223372036854775808 ≤ wrap64 (wrap64 (10 * n) + ((x : Int) - 48)) ∧ wrap64 (wrap64 (10 * n) + ((x : Int) - 48)) ≤ 9223372036854775807 := by
  obtain ⟨q, hq⟩ := h
  obtain ⟨⟨q1, h1⟩, _, _⟩ := Nm.wrap_is (10 * n)
  obtain ⟨⟨q2, h2⟩, h3, h4⟩ := Nm.wrap_is (wrap64 (10 * n) + ((x : Int) - 48))
  exact ⟨⟨10 * q + q1 + q2, by omega⟩, h3, h4⟩
theorem Nm.Cg.eq {n v : Int} (h : Nm.Cg n v) (n0 : -9223372036854775808 ≤ n) (n1 : n ≤ 9223372036854775807) (hv : Nm.inR v = true) : n = v := by
  obtain ⟨q, hq⟩ := h
  unfold Nm.inR at hv
  simp at hv
  omega
set_option maxHeartbeats 4000000 in
set_option maxRecDepth 3000 in
theorem refNumRead_any (l : List UInt8) (a : Int) (w : World) (hl : l.length ≤ 50000000) :
    Calls Tryz.prog 14 #[.string (S l), .int .i64 a] w fun e w' => e = .returned (.tuple #[.int .i64 (Nm.READ l a).1, .int .i64 (Nm.READ l a).2.1, .int .i64 (Nm.READ l a).2.2]) ∧ Below w.heap.size w w' := by
  have z1 := S_size l
  by_cases h0 : a < 0
  · have hR : Hid (Nm.READ l a = (0, 0, 1)) := by unfold Hid Nm.READ; rw [if_neg (by omega)]
    go_enter Tryz.func14, Tryz.ntmps14
    go_wp2_with fail
    rw [hR.out]
    go_ret3
    exact ⟨rfl, Below.refl _ _⟩
  by_cases h1 : (l.length : Int) < a
  · have hR : Hid (Nm.READ l a = (0, 0, 1)) := by unfold Hid Nm.READ; rw [if_neg (by omega)]
    go_enter Tryz.func14, Tryz.ntmps14
    go_wp2_with fail
    rw [hR.out]
    go_ret3
    exact ⟨rfl, Below.refl _ _⟩
  obtain ⟨k, rfl⟩ : ∃ k : Nat, a = (k : Int) := ⟨a.toNat, by omega⟩
  have hk : k ≤ l.length := by omega
  have hR : Hid (Nm.READ l (k : Int) = (if Nm.form (Nm.txt l k) then (if Nm.inR (Nm.val (Nm.txt l k)) then (Nm.val (Nm.txt l k), (k : Int) + ((Nm.txt l k).length : Int), 0) else (0, 0, 9)) else (0, 0, 3))) := by
    unfold Hid Nm.READ
    rw [if_pos (by omega), Int.toNat_natCast]
  have hat := Tx_at l
  go_enter Tryz.func14, Tryz.ntmps14
  go_wp2_with fail
  go_loopw [7] (fun i wr => ∃ j : Nat, i = .int .i64 ((k + j : Nat) : Int) ∧ k + j ≤ l.length ∧ (Nm.txt l k).length = j + (Nm.txt l (k + j)).length ∧ Below w.heap.size w wr) (fun i _ => l.length - (intOf i).toNat)
  case atStart => exact ⟨0, rfl, hk, by simp, Below.refl _ _⟩
  case round =>
    obtain ⟨j, rfl, hj, hlen, hbel⟩ := hrel
    obtain ⟨p, hp⟩ : ∃ p, p = k + j := ⟨_, rfl⟩
    rw [← hp] at hj hlen
    have HLEN := Lib.hid hlen
    have HP := Lib.hid hp
    rw [← hp]
    have hkp : k ≤ p := by omega
    clear hlen hp
    have hfin : (Nm.txt l p).length = 0 → (S l).extract k p = S (Nm.txt l k) ∧ (p : Int) = (k : Int) + ((Nm.txt l k).length : Int) := fun h3 => by
      have h4 := HLEN.out
      rw [h3, Nat.add_zero] at h4
      refine ⟨?_, by rw [h4]; have := HP.out; omega⟩
      have h5 := Nm.txt_take l k
      rw [h4] at h5
      rw [HP.out, Tx_mid, h5]
    by_cases hlt : (p : Int) < (l.length : Int)
    · obtain ⟨d, hd, hdr⟩ := Tx.drop_cons (show p < l.length by omega)
      have HDR := Lib.hid hdr
      have hby := Tx.bt_lt l p
      have hOf := fun w => numOf_any d w
      rw [hd] at hOf
      clear hd hdr
      cases hm : Nm.more d with
      | true =>
        have HM := Lib.hid hm
        clear hm hfin
        go_wp2_with fail
        refine (hOf _).mono ?_; rintro e w1 ⟨rfl, rfl⟩
        rw [HM.out]
        go_wp2_with fail
        go_roundw
        case rel =>
          have h2 := Nm.txt_cons HDR.out HM.out
          have e : k + (j + 1) = p + 1 := by have := HP.out; omega
          refine ⟨j + 1, by rw [HP.out]; congr 1, by omega, ?_, hbel⟩
          rw [e, HLEN.out, h2, List.length_cons]
          omega
        case measure => simp [intOf]; omega
      | false =>
        obtain ⟨hsl, hpk⟩ := hfin (by rw [Nm.txt_stop HDR.out hm]; rfl)
        have ht := Nm.txt_len l k hk
        have HM := Lib.hid hm
        have HPK := Lib.hid hpk
        clear hm hfin HLEN hpk
        generalize Nm.txt l k = t at *
        go_wp2_with fail
        refine (hOf _).mono ?_; rintro e w1 ⟨rfl, rfl⟩
        rw [HM.out]
        clear hOf HM HDR
        go_wp2_with fail
        have ht2 : t.length ≤ 50000000 := by omega
        have zt := S_size t
        cases hf : Nm.form t with
        | false =>
          rw [hf] at hR
          have HF := Lib.hid hf
          clear hf
          refine (refNumForm_any t wr (by omega)).mono ?_; rintro e w2 ⟨rfl, hb2⟩
          rw [HF.out]
          go_wp2_with fail
          rw [hR.out]
          go_ret3
          exact ⟨rfl, hbel.trans (hb2.mono hbel.size)⟩
        | true =>
          rw [hf] at hR
          have HF := Lib.hid hf
          have ht1 : 0 < t.length := by
            have := Nm.form_ne hf
            cases t with
            | nil => exact absurd rfl this
            | cons _ _ => simp
          refine (refNumForm_any t wr (by omega)).mono ?_; rintro e w2 ⟨rfl, hb2⟩
          rw [hf]
          clear hf
          have hb := hbel.trans (hb2.mono hbel.size)
          clear hb2 hbel
          by_cases hlong : (20 : Int) < (t.length : Int)
          · have HL : Hid (Nm.inR (Nm.val t) = false) := Nm.long_out HF.out (by omega)
            rw [HL.out] at hR
            go_wp2_with fail
            rw [hR.out]
            go_ret3
            exact ⟨rfl, hb⟩
          have HG := Lib.hid (Nm.go_val HF.out)
          have HNG := Lib.hid (Nm.neg_bt ht1)
          have hat2 := Tx_at t
          generalize Nm.neg t = ng at *
          go_wp2_with fail
          go_loopw [9, 10] (fun nv iv wr => ∃ (i : Nat) (n b : Int), nv = .int .i64 n ∧ -9223372036854775808 ≤ n ∧ n ≤ 9223372036854775807 ∧ iv = .int .i64 (i : Int) ∧ i ≤ t.length ∧ Hid (Nm.Cg n b) ∧ Hid (Nm.go ng b (t.drop i) = Nm.val t) ∧ Below w.heap.size w wr) (fun _ iv _ => t.length - (intOf iv).toNat)
          case atStart => exact ⟨0, 0, 0, rfl, by omega, by omega, rfl, Nat.zero_le _, ⟨0, rfl⟩, HG, hb⟩
          case round =>
            obtain ⟨i, n, b, rfl, n0, n1, rfl, hi, HW, HGO, hbel⟩ := hrel
            by_cases hlt : (i : Int) < (t.length : Int)
            · obtain ⟨d, hd, hdr⟩ := Tx.drop_cons (show i < t.length by omega)
              have hbt := Nm.form_bytes HF.out i (by omega)
              have HGO' := HGO.out
              rw [hdr] at HGO'
              by_cases h45 : (Tx.bt t i : Int) = 45
              · have HN := Lib.hid (Nm.go_45 (show d.toNat = 45 by omega) HGO')
                clear hdr HGO'
                go_wp2_with fail
                go_roundw
                case rel => exact ⟨i + 1, n, b, rfl, n0, n1, by congr 1, by omega, HW, HN, hbel⟩
                case measure => simp [intOf]; omega
              · have hdg : 48 ≤ Tx.bt t i ∧ Tx.bt t i ≤ 57 := by omega
                have hne : ((Tx.bt t i : Int) == 45) = false := beq_eq_false_iff_ne.2 h45
                cases ng with
                | true =>
                  have hz : Tx.bt t 0 = 45 := of_decide_eq_true HNG.out.symm
                  have HN := Lib.hid (Nm.go_d (show d.toNat ≠ 45 by omega) HGO')
                  rw [hd] at HN
                  have HC := Lib.hid (Nm.Cg.minus HW.out (Tx.bt t i))
                  clear hdr HGO' hd hbt
                  go_wp2_with fail
                  go_roundw
                  case rel => exact ⟨i + 1, _, _, rfl, HC.out.2.1, HC.out.2.2, by congr 1, by omega, HC.out.1, HN, hbel⟩
                  case measure => simp [intOf]; omega
                | false =>
                  have hz : ((Tx.bt t 0 : Int) == 45) = false := beq_eq_false_iff_ne.2 (by have := of_decide_eq_false HNG.out.symm; omega)
                  have HN := Lib.hid (Nm.go_d (show d.toNat ≠ 45 by omega) HGO')
                  rw [hd] at HN
                  have HC := Lib.hid (Nm.Cg.plus HW.out (Tx.bt t i))
                  clear hdr HGO' hd hbt
                  go_wp2_with fail
                  go_roundw
                  case rel => exact ⟨i + 1, _, _, rfl, HC.out.2.1, HC.out.2.2, by congr 1, by omega, HC.out.1, HN, hbel⟩
                  case measure => simp [intOf]; omega
            · have HE := HGO.out
              rw [List.drop_of_length_le (by omega)] at HE
              have HV : Hid (Nm.Cg n (Nm.val t)) := HE ▸ HW.out
              clear HGO HW HE
              go_wp2_with fail
              refine (refNumShow_any n wr n0 n1).mono ?_; rintro e w3 ⟨rfl, hb3⟩
              have hI := Nm.itoa_is HF.out n
              have hbe := hbel.trans (hb3.mono hbel.size)
              clear hb3
              cases hr : Nm.inR (Nm.val t) with
              | true =>
                rw [hr] at hR
                have hn := Nm.Cg.eq HV.out n0 n1 hr
                have hII := hI.2 hn
                have se : ((S (itoa n)).toList == (S t).toList) = true := by rw [S_toList, S_toList, hII]; exact beq_self_eq_true t
                have sn : ((S (itoa n)).toList != (S t).toList) = false := by rw [bne, se]; rfl
                have HNN := Lib.hid hn
                clear hn hI hII hr
                generalize itoa n = I at *
                generalize Nm.val t = v at *
                go_wp2_with fail
                have hRR : Nm.READ l (k : Int) = (v, (k : Int) + (t.length : Int), 0) := hR.out.trans (by simp)
                rw [hRR]
                go_ret3
                refine ⟨?_, hbe⟩
                show Ending.returned (.tuple #[.int .i64 n, .int .i64 (p : Int), .int .i64 0]) = .returned (.tuple #[.int .i64 v, .int .i64 ((k : Int) + (t.length : Int)), .int .i64 0])
                rw [HNN.out, HPK.out]
              | false =>
                rw [hr] at hR
                have hII : ¬ itoa n = t := fun h => by
                  have := hI.1 h
                  rw [← this] at hr
                  have h2 : Nm.inR n = true := by unfold Nm.inR; simp; omega
                  rw [h2] at hr
                  cases hr
                have se : ((S (itoa n)).toList == (S t).toList) = false := by rw [S_toList, S_toList]; exact beq_eq_false_iff_ne.2 hII
                have sn : ((S (itoa n)).toList != (S t).toList) = true := by rw [bne, se]; rfl
                clear hI hII hr
                generalize itoa n = I at *
                go_wp2_with fail
                have hRR : Nm.READ l (k : Int) = (0, 0, 9) := hR.out.trans (by simp)
                rw [hRR]
                go_ret3
                exact ⟨rfl, hbe⟩
    · obtain ⟨hsl, hpk⟩ := hfin (by rw [Nm.txt_end (by omega)]; rfl)
      have ht := Nm.txt_len l k hk
      have HPK := Lib.hid hpk
      clear hfin HLEN hpk
      generalize Nm.txt l k = t at *
      go_wp2_with fail
      have ht2 : t.length ≤ 50000000 := by omega
      have zt := S_size t
      cases hf : Nm.form t with
      | false =>
        rw [hf] at hR
        have HF := Lib.hid hf
        clear hf
        refine (refNumForm_any t wr (by omega)).mono ?_; rintro e w2 ⟨rfl, hb2⟩
        rw [HF.out]
        go_wp2_with fail
        rw [hR.out]
        go_ret3
        exact ⟨rfl, hbel.trans (hb2.mono hbel.size)⟩
      | true =>
        rw [hf] at hR
        have HF := Lib.hid hf
        have ht1 : 0 < t.length := by
          have := Nm.form_ne hf
          cases t with
          | nil => exact absurd rfl this
          | cons _ _ => simp
        refine (refNumForm_any t wr (by omega)).mono ?_; rintro e w2 ⟨rfl, hb2⟩
        rw [hf]
        clear hf
        have hb := hbel.trans (hb2.mono hbel.size)
        clear hb2 hbel
        by_cases hlong : (20 : Int) < (t.length : Int)
        · have HL : Hid (Nm.inR (Nm.val t) = false) := Nm.long_out HF.out (by omega)
          rw [HL.out] at hR
          go_wp2_with fail
          rw [hR.out]
          go_ret3
          exact ⟨rfl, hb⟩
        have HG := Lib.hid (Nm.go_val HF.out)
        have HNG := Lib.hid (Nm.neg_bt ht1)
        have hat2 := Tx_at t
        generalize Nm.neg t = ng at *
        go_wp2_with fail
        go_loopw [9, 10] (fun nv iv wr => ∃ (i : Nat) (n b : Int), nv = .int .i64 n ∧ -9223372036854775808 ≤ n ∧ n ≤ 9223372036854775807 ∧ iv = .int .i64 (i : Int) ∧ i ≤ t.length ∧ Hid (Nm.Cg n b) ∧ Hid (Nm.go ng b (t.drop i) = Nm.val t) ∧ Below w.heap.size w wr) (fun _ iv _ => t.length - (intOf iv).toNat)
        case atStart => exact ⟨0, 0, 0, rfl, by omega, by omega, rfl, Nat.zero_le _, ⟨0, rfl⟩, HG, hb⟩
        case round =>
          obtain ⟨i, n, b, rfl, n0, n1, rfl, hi, HW, HGO, hbel⟩ := hrel
          by_cases hlt : (i : Int) < (t.length : Int)
          · obtain ⟨d, hd, hdr⟩ := Tx.drop_cons (show i < t.length by omega)
            have hbt := Nm.form_bytes HF.out i (by omega)
            have HGO' := HGO.out
            rw [hdr] at HGO'
            by_cases h45 : (Tx.bt t i : Int) = 45
            · have HN := Lib.hid (Nm.go_45 (show d.toNat = 45 by omega) HGO')
              clear hdr HGO'
              go_wp2_with fail
              go_roundw
              case rel => exact ⟨i + 1, n, b, rfl, n0, n1, by congr 1, by omega, HW, HN, hbel⟩
              case measure => simp [intOf]; omega
            · have hdg : 48 ≤ Tx.bt t i ∧ Tx.bt t i ≤ 57 := by omega
              have hne : ((Tx.bt t i : Int) == 45) = false := beq_eq_false_iff_ne.2 h45
              cases ng with
              | true =>
                have hz : Tx.bt t 0 = 45 := of_decide_eq_true HNG.out.symm
                have HN := Lib.hid (Nm.go_d (show d.toNat ≠ 45 by omega) HGO')
                rw [hd] at HN
                have HC := Lib.hid (Nm.Cg.minus HW.out (Tx.bt t i))
                clear hdr HGO' hd hbt
                go_wp2_with fail
                go_roundw
                case rel => exact ⟨i + 1, _, _, rfl, HC.out.2.1, HC.out.2.2, by congr 1, by omega, HC.out.1, HN, hbel⟩
                case measure => simp [intOf]; omega
              | false =>
                have hz : ((Tx.bt t 0 : Int) == 45) = false := beq_eq_false_iff_ne.2 (by have := of_decide_eq_false HNG.out.symm; omega)
                have HN := Lib.hid (Nm.go_d (show d.toNat ≠ 45 by omega) HGO')
                rw [hd] at HN
                have HC := Lib.hid (Nm.Cg.plus HW.out (Tx.bt t i))
                clear hdr HGO' hd hbt
                go_wp2_with fail
                go_roundw
                case rel => exact ⟨i + 1, _, _, rfl, HC.out.2.1, HC.out.2.2, by congr 1, by omega, HC.out.1, HN, hbel⟩
                case measure => simp [intOf]; omega
          · have HE := HGO.out
            rw [List.drop_of_length_le (by omega)] at HE
            have HV : Hid (Nm.Cg n (Nm.val t)) := HE ▸ HW.out
            clear HGO HW HE
            go_wp2_with fail
            refine (refNumShow_any n wr n0 n1).mono ?_; rintro e w3 ⟨rfl, hb3⟩
            have hI := Nm.itoa_is HF.out n
            have hbe := hbel.trans (hb3.mono hbel.size)
            clear hb3
            cases hr : Nm.inR (Nm.val t) with
            | true =>
              rw [hr] at hR
              have hn := Nm.Cg.eq HV.out n0 n1 hr
              have hII := hI.2 hn
              have se : ((S (itoa n)).toList == (S t).toList) = true := by rw [S_toList, S_toList, hII]; exact beq_self_eq_true t
              have sn : ((S (itoa n)).toList != (S t).toList) = false := by rw [bne, se]; rfl
              have HNN := Lib.hid hn
              clear hn hI hII hr
              generalize itoa n = I at *
              generalize Nm.val t = v at *
              go_wp2_with fail
              have hRR : Nm.READ l (k : Int) = (v, (k : Int) + (t.length : Int), 0) := hR.out.trans (by simp)
              rw [hRR]
              go_ret3
              refine ⟨?_, hbe⟩
              show Ending.returned (.tuple #[.int .i64 n, .int .i64 (p : Int), .int .i64 0]) = .returned (.tuple #[.int .i64 v, .int .i64 ((k : Int) + (t.length : Int)), .int .i64 0])
              rw [HNN.out, HPK.out]
            | false =>
              rw [hr] at hR
              have hII : ¬ itoa n = t := fun h => by
                have := hI.1 h
                rw [← this] at hr
                have h2 : Nm.inR n = true := by unfold Nm.inR; simp; omega
                rw [h2] at hr
                cases hr
              have se : ((S (itoa n)).toList == (S t).toList) = false := by rw [S_toList, S_toList]; exact beq_eq_false_iff_ne.2 hII
              have sn : ((S (itoa n)).toList != (S t).toList) = true := by rw [bne, se]; rfl
              clear hI hII hr
              generalize itoa n = I at *
              go_wp2_with fail
              have hRR : Nm.READ l (k : Int) = (0, 0, 9) := hR.out.trans (by simp)
              rw [hRR]
              go_ret3
              exact ⟨rfl, hbe⟩
end Go.Proofs.YtjbkbkfhbombbaaGreatDoor
