/-
  The walks of UtfBack and UtfStray: each comes to true.
-/
import Derived.Test.YtcoapfnfnlfleaaUtfLawA
namespace Go.Proofs.Ytcoapfnfnlfleaa
open Go.RowKit

theorem NX_cases (l : List UInt8) (k : Int) : (∃ p r z : Nat, k = (p : Int) ∧ p ≤ l.length ∧ NX l k = (r, z, 0) ∧ Um.nx (l.drop p) = (r, z, 0)) ∨ (∃ c : Nat, c ≠ 0 ∧ NX l k = (0, 0, c)) := by
  by_cases h : k < 0 ∨ (l.length : Int) < k
  · right
    exact ⟨1, by decide, by unfold NX; rw [if_pos h]⟩
  · obtain ⟨p, rfl⟩ : ∃ p : Nat, k = (p : Int) := ⟨k.toNat, by omega⟩
    have hN := NX_in l p (by omega)
    rw [hN]
    rcases Um.nx_cases (l.drop p) with ⟨h0, _⟩ | h0 | h0
    · left
      exact ⟨p, _, _, rfl, by omega, Um.nx_eta h0, Um.nx_eta h0⟩
    · right
      exact ⟨4, by decide, h0⟩
    · right
      exact ⟨12, by decide, h0⟩
theorem rune_of {r : Nat} (h : Um.rn r) : rune (r : Int) := by unfold Um.rn at h; unfold rune; omega
theorem drop_app (l t : List UInt8) : (l ++ t ++ l).drop l.length = t ++ l := by rw [List.append_assoc, List.drop_left']; rfl
theorem NX_mid (l t : List UInt8) : NX (l ++ (t ++ l)) (l.length : Int) = Um.nx (t ++ l) := by
  rw [← List.append_assoc, NX_in _ _ (by rw [List.length_append, List.length_append]; omega), drop_app]
/-- (not kept among a walk's facts: 'PUT ↑q', 'rune ↑q' there run the walk in circles) -/
theorem PUT_nat {q : Nat} {u : List UInt8} (h : Um.rn q) (e : Um.enc q = u) : PUT (q : Int) = (u, 0) := by rw [PUT_ok (rune_of h), Int.toNat_natCast, e]
theorem refRune_is {w0 w : World} (h : Below w0.heap.size w0 w) (k : Int) {b : Bool} (hb : decide (rune k) = b) :
    Calls Try.prog 19 #[.int .i64 k] w fun e w' => e = .returned (.bool b) ∧ Below w0.heap.size w0 w' := by
  subst hb
  exact (refRune_any k w).mono fun _ _ ⟨he, hw⟩ => ⟨he, hw ▸ h⟩
set_option maxRecDepth 100000 in
set_option maxHeartbeats 1600000 in
theorem law_UtfBack (r : Int) (s : ByteArray) (k : Int) (w : World) (hs : s.size ≤ maxLen) :
    Calls Try.prog 6 #[.int .i64 r, .string s, .int .i64 k] w fun e w' => e = .returned (.bool true) ∧ Below w.heap.size w w' := by
  unfold maxLen at hs
  obtain ⟨l, rfl⟩ := as_S s
  by_cases h1 : (20000 : Int) < ((S l).size : Int)
  · go_enter Try.func6, Try.ntmps6
    go_wp2_with fail
    refine (awake_any _).mono ?_; rintro e w3 ⟨rfl, h3⟩
    go_wp2_with fail
    go_ret
    exact ⟨rfl, h3⟩
  have z1 := S_size l
  have hl : l.length ≤ 20000 := by omega
  by_cases hr : rune r
  · have hd : decide (rune r) = true := by simpa using hr
    have hn : Um.rn r.toNat := by unfold rune at hr; unfold Um.rn; omega
    have hM := NX_mid l (Um.enc r.toNat)
    rw [Um.nx_enc hn] at hM
    have hlen := Um.enc_length r.toNat
    have hr0 : ((r.toNat : Nat) : Int) = r := by unfold rune at hr; omega
    generalize hT : Um.enc r.toNat = t at *
    have z2 := S_size t
    have a1 := add_S l t (by omega)
    have a2 := add_S (l ++ t) l (by rw [List.length_append]; omega)
    generalize r.toNat = rn at *
    subst hr0
    have HM := Lib.hid hM
    have HT := Lib.hid hT
    have HR := Lib.hid hn
    clear hM hd hn hT hr
    rcases NX_cases l k with ⟨p, q, z, rfl, hp, hN, hx⟩ | ⟨c, hc, hN⟩
    · have hfx := Um.nx_facts hx
      have hE : (l.drop p).take z = Um.enc q := hfx.2.1.symm
      have hm := S_mid l p z
      rw [hE] at hm
      have hez : (Um.enc q).length = z := hfx.2.2.1
      generalize hU : Um.enc q = u at *
      have z3 := S_size u
      rw [hez] at z3
      have hpz : p + z ≤ l.length := by have := hfx.2.2.2.1; rw [List.length_drop] at this; omega
      have HN := Lib.hid hN
      have HU := Lib.hid hU
      have HQ := Lib.hid hfx.1
      clear hN hx hfx hE hez hU
      go_enter Try.func6, Try.ntmps6
      go_wp2_with fail
      refine (awake_any _).mono ?_; rintro e w1 ⟨rfl, h1⟩
      go_wp2_with fail
      refine (Put_at h1 _ (PUT_nat HR.out HT.out)).mono ?_; rintro e w2 ⟨rfl, h2⟩
      go_wp2_with fail
      refine (refRune_is h2 _ (b := true) (decide_eq_true (rune_of HR.out))).mono ?_; rintro e w3 ⟨rfl, h3⟩
      go_wp2_with fail
      refine (Next_at h3 (l ++ (t ++ l)) _ HM.out).mono ?_; rintro e w4 ⟨rfl, h4⟩
      go_wp2_with fail
      refine (Next_at h4 _ _ HN.out).mono ?_; rintro e w5 ⟨rfl, h5⟩
      go_wp2_with fail
      refine (Put_at h5 _ (PUT_nat HQ.out HU.out)).mono ?_; rintro e w6 ⟨rfl, h6⟩
      go_wp2_with fail
      go_ret
      exact ⟨rfl, h6⟩
    · have hcb : ((c : Int) != 0) = true := by rw [bne_iff_ne]; omega
      have HN := Lib.hid hN
      clear hN hc
      go_enter Try.func6, Try.ntmps6
      go_wp2_with fail
      refine (awake_any _).mono ?_; rintro e w1 ⟨rfl, h1⟩
      go_wp2_with fail
      refine (Put_at h1 _ (PUT_nat HR.out HT.out)).mono ?_; rintro e w2 ⟨rfl, h2⟩
      go_wp2_with fail
      refine (refRune_is h2 _ (b := true) (decide_eq_true (rune_of HR.out))).mono ?_; rintro e w3 ⟨rfl, h3⟩
      go_wp2_with fail
      refine (Next_at h3 (l ++ (t ++ l)) _ HM.out).mono ?_; rintro e w4 ⟨rfl, h4⟩
      go_wp2_with fail
      refine (Next_at h4 _ _ HN.out).mono ?_; rintro e w5 ⟨rfl, h5⟩
      go_wp2_with fail
      go_ret
      exact ⟨rfl, h5⟩
  · have hd : decide (rune r) = false := by simpa using hr
    have HP := Lib.hid (PUT_no hr)
    have HD := Lib.hid hd
    clear hd hr
    rcases NX_cases l k with ⟨p, q, z, rfl, hp, hN, hx⟩ | ⟨c, hc, hN⟩
    · have hfx := Um.nx_facts hx
      have hE : (l.drop p).take z = Um.enc q := hfx.2.1.symm
      have hm := S_mid l p z
      rw [hE] at hm
      have hez : (Um.enc q).length = z := hfx.2.2.1
      generalize hU : Um.enc q = u at *
      have z3 := S_size u
      rw [hez] at z3
      have hpz : p + z ≤ l.length := by have := hfx.2.2.2.1; rw [List.length_drop] at this; omega
      have HN := Lib.hid hN
      have HU := Lib.hid hU
      have HQ := Lib.hid hfx.1
      clear hN hx hfx hE hez hU
      go_enter Try.func6, Try.ntmps6
      go_wp2_with fail
      refine (awake_any _).mono ?_; rintro e w1 ⟨rfl, h1⟩
      go_wp2_with fail
      refine (Put_at h1 _ HP.out).mono ?_; rintro e w2 ⟨rfl, h2⟩
      go_wp2_with fail
      refine (refRune_is h2 _ HD.out).mono ?_; rintro e w3 ⟨rfl, h3⟩
      go_wp2_with fail
      refine (Next_at h3 _ _ HN.out).mono ?_; rintro e w5 ⟨rfl, h5⟩
      go_wp2_with fail
      refine (Put_at h5 _ (PUT_nat HQ.out HU.out)).mono ?_; rintro e w6 ⟨rfl, h6⟩
      go_wp2_with fail
      go_ret
      exact ⟨rfl, h6⟩
    · have hcb : ((c : Int) != 0) = true := by rw [bne_iff_ne]; omega
      have HN := Lib.hid hN
      clear hN hc
      go_enter Try.func6, Try.ntmps6
      go_wp2_with fail
      refine (awake_any _).mono ?_; rintro e w1 ⟨rfl, h1⟩
      go_wp2_with fail
      refine (Put_at h1 _ HP.out).mono ?_; rintro e w2 ⟨rfl, h2⟩
      go_wp2_with fail
      refine (refRune_is h2 _ HD.out).mono ?_; rintro e w3 ⟨rfl, h3⟩
      go_wp2_with fail
      refine (Next_at h3 _ _ HN.out).mono ?_; rintro e w5 ⟨rfl, h5⟩
      go_wp2_with fail
      go_ret
      exact ⟨rfl, h5⟩
end Go.Proofs.Ytcoapfnfnlfleaa
