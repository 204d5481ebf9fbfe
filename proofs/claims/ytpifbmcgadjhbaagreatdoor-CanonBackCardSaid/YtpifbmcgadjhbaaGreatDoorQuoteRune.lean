/-
  What escaped and one come to: the rune that stands at a place.
-/
import Derived.Test.YtpifbmcgadjhbaaGreatDoorQuoteOne
namespace Go.Proofs.YtpifbmcgadjhbaaGreatDoor
open Go.RowKit

set_option maxRecDepth 10000 in
theorem eq_func (f : Fn) (a b : Array Value) (w : World) : (binOp .eql 179 (.func f a b) .nilFunc).run Tryz.prog w = .ok (.bool false) w := by rfl
set_option maxRecDepth 10000 in
theorem eq_nil (w : World) : (binOp .eql 179 .nilFunc .nilFunc).run Tryz.prog w = .ok (.bool true) w := by rfl
theorem shift_e (k : Nat) (x : Nat × Nat × Nat) : (Qm.shift k x).2.2 = x.2.2 := by
  unfold Qm.shift
  split
  · rename_i h; exact h.symm
  · rfl
theorem numbered_at {w0 w : World} (h : Below w0.heap.size w0 w) (l : List UInt8) (p : Nat) (hp : p ≤ l.length) (hl : l.length ≤ 100000000) (hT : Tab w) {p' : Int} (hp' : p' = (p : Int)) :
    Calls Tryz.prog 185 #[.string (S l), .int .i64 p'] w fun e w' => Tells Qm.num l p e ∧ Below w0.heap.size w0 w' := by
  subst hp'
  exact (numbered_any l p w hp hl hT).mono fun _ _ ⟨he, hb⟩ => ⟨he, h.trans (hb.mono h.size)⟩
set_option maxRecDepth 100000 in
set_option maxHeartbeats 1600000 in
theorem escaped_any (l : List UInt8) (p : Nat) (w : World) (hp : p ≤ l.length) (hl : l.length ≤ 100000000) (hT : Tab w) :
    Calls Tryz.prog 158 #[.string (S l), .int .i64 (p : Int)] w fun e w' => Tells Qm.escd l p e ∧ Below w.heap.size w w' := by
  have z1 := S_size l
  have hat := S_at l
  have hB := hT.lt
  have hef := eq_func
  have hen := eq_nil
  by_cases hlt : p < l.length
  · obtain ⟨c, t, hc⟩ := drop_at hlt
    obtain ⟨_, hb, ht⟩ := at_drop hc
    have HC : Hid (Qm.escd (l.drop p) = if c = 117 then Qm.shift 1 (Qm.num (l.drop (p + 1))) else match Qm.simple c with | some r => (r, 1, 0) | none => (0, 0, 3)) := by
      unfold Hid
      rw [hc, ht]
      rfl
    clear hc ht
    go_enter Tryz.func158, Tryz.ntmps158
    go_wp2_with fail
    refine (decoderOf_any c w).mono ?_; rintro e w1 ⟨v, rfl, hv, h1⟩
    rcases hv with ⟨r, hc, hs, b, rfl, hb1⟩ | ⟨hc, rfl⟩ | ⟨hc, hs, rfl⟩
    · have HR : Hid (Qm.escd (l.drop p) = (r, 1, 0)) := by unfold Hid; rw [HC.out, if_neg hc, hs]
      clear HC hc hs
      unfold Af
      go_wp2_with fail
      refine (always1_any l _ b r _ hb1).mono ?_; rintro e w2 ⟨rfl, rfl⟩
      go_wp2_with fail
      go_ret3
      exact ⟨Tells.yes HR.out rfl (by go_num), h1⟩
    · have HR : Hid (Qm.escd (l.drop p) = Qm.shift 1 (Qm.num (l.drop (p + 1)))) := by unfold Hid; rw [HC.out, if_pos hc]
      clear HC
      have hT1 := hT.below h1 hB
      unfold Nf
      go_wp2_with fail
      refine (numbered_at h1 l (p + 1) (by omega) hl hT1 (by go_num)).mono ?_; rintro e w2 ⟨ht, h2⟩
      rcases ht with ⟨r, q, z, hr, hq, rfl⟩ | ⟨c, a, b, hc, he, rfl⟩
      · have HR2 : Hid (Qm.escd (l.drop p) = (r, z + 1, 0)) := by unfold Hid; rw [HR.out, hr, Qm.shift_ok]
        have HQ := Lib.hid hq
        clear hr hq HR
        go_wp2_with fail
        go_ret3
        exact ⟨Tells.yes HR2.out rfl (by rw [HQ.out]; omega), h2⟩
      · have HR2 : Hid ((Qm.escd (l.drop p)).2.2 = c) := by unfold Hid; rw [HR.out, shift_e, he]
        have HC := Lib.hid hc
        clear he hc HR
        go_wp2_with fail
        go_ret3
        exact ⟨.inr ⟨c, a, b, HC.out, HR2.out, rfl⟩, h2⟩
    · have HR : Hid (Qm.escd (l.drop p) = (0, 0, 3)) := by unfold Hid; rw [HC.out, if_neg hc, hs]
      clear HC hc hs
      go_wp2_with fail
      go_ret3
      exact ⟨Tells.no HR.out (by decide) _ _, h1⟩
  · have HR : Hid (Qm.escd (l.drop p) = (0, 0, 4)) := by unfold Hid; rw [bt_nil l p (by omega)]; rfl
    obtain rfl : p = l.length := by omega
    go_enter Tryz.func158, Tryz.ntmps158
    go_wp2_with fail
    go_ret3
    exact ⟨Tells.no HR.out (by decide) _ _, Below.refl _ _⟩
theorem escaped_at {w0 w : World} (h : Below w0.heap.size w0 w) (l : List UInt8) (p : Nat) (hp : p ≤ l.length) (hl : l.length ≤ 100000000) (hT : Tab w) {p' : Int} (hp' : p' = (p : Int)) :
    Calls Tryz.prog 158 #[.string (S l), .int .i64 p'] w fun e w' => Tells Qm.escd l p e ∧ Below w0.heap.size w0 w' := by
  subst hp'
  exact (escaped_any l p w hp hl hT).mono fun _ _ ⟨he, hb⟩ => ⟨he, h.trans (hb.mono h.size)⟩
set_option maxRecDepth 100000 in
set_option maxHeartbeats 1600000 in
theorem one_any (l : List UInt8) (p : Nat) (w : World) (hp : p < l.length) (hl : l.length ≤ 100000000) (hT : Tab w) :
    Calls Tryz.prog 139 #[.string (S l), .int .i64 (p : Int)] w fun e w' => Tells Qm.one l p e ∧ Below w.heap.size w w' := by
  have z1 := S_size l
  have hat := S_at l
  obtain ⟨c, t, hc⟩ := drop_at hp
  obtain ⟨_, hb, ht⟩ := at_drop hc
  have HC : Hid (Qm.one (l.drop p) = if c < 32 then (0, 0, 3) else if c = 92 then Qm.shift 1 (Qm.escd (l.drop (p + 1))) else Um.nx (l.drop p)) := by
    unfold Hid
    rw [hc, ht]
    rfl
  clear hc ht
  by_cases h1 : (c.toNat : Int) < 32
  · have HR : Hid (Qm.one (l.drop p) = (0, 0, 3)) := by
      unfold Hid
      rw [HC.out, if_pos (by rw [UInt8.lt_iff_toNat_lt, show (32 : UInt8).toNat = 32 from rfl]; omega)]
    clear HC
    go_enter Tryz.func139, Tryz.ntmps139
    go_wp2_with fail
    go_ret3
    exact ⟨Tells.no HR.out (by decide) _ _, Below.refl _ _⟩
  have h1' : ¬ c < 32 := by rw [UInt8.lt_iff_toNat_lt, show (32 : UInt8).toNat = 32 from rfl]; omega
  by_cases h2 : c = 92
  · have HR : Hid (Qm.one (l.drop p) = Qm.shift 1 (Qm.escd (l.drop (p + 1)))) := by
      unfold Hid
      rw [HC.out, if_neg h1', if_pos h2]
    have hcc : (c.toNat : Int) = 92 := by rw [h2]; rfl
    clear HC h1' h2
    go_enter Tryz.func139, Tryz.ntmps139
    go_wp2_with fail
    refine (escaped_at (Below.refl _ _) l (p + 1) (by omega) hl hT (by go_num)).mono ?_; rintro e w2 ⟨ht, h2⟩
    rcases ht with ⟨r, q, z, hr, hq, rfl⟩ | ⟨c, a, b, hc, he, rfl⟩
    · have HR2 : Hid (Qm.one (l.drop p) = (r, z + 1, 0)) := by unfold Hid; rw [HR.out, hr, Qm.shift_ok]
      have HQ := Lib.hid hq
      clear hr hq HR
      go_wp2_with fail
      go_ret3
      exact ⟨Tells.yes HR2.out rfl (by rw [HQ.out]; omega), h2⟩
    · have HR2 : Hid ((Qm.one (l.drop p)).2.2 = c) := by unfold Hid; rw [HR.out, shift_e, he]
      have HC := Lib.hid hc
      clear he hc HR
      go_wp2_with fail
      go_ret3
      exact ⟨.inr ⟨c, a, b, HC.out, HR2.out, rfl⟩, h2⟩
  · have HR : Hid (Qm.one (l.drop p) = Um.nx (l.drop p)) := by
      unfold Hid
      rw [HC.out, if_neg h1', if_neg h2]
    have hcc : ((c.toNat : Int) == 92) = false := by
      rw [beq_eq_false_iff_ne]
      intro e
      exact h2 (UInt8.toNat_inj.1 (show c.toNat = 92 by omega))
    have hN := NX_in l p (by omega)
    obtain ⟨r, z, e, hx⟩ : ∃ r z e, Um.nx (l.drop p) = (r, z, e) := ⟨_, _, _, rfl⟩
    rw [hx] at hN
    have HN := Lib.hid hN
    have HX := Lib.hid hx
    have hz : z ≤ 4 := by
      rcases Um.nx_cases (l.drop p) with ⟨h0, _⟩ | h0 | h0
      · have := Um.nx_facts (Um.nx_eta h0)
        rw [hx] at this
        exact this.2.2.2.2.2
      · rw [hx] at h0; simp only [Prod.mk.injEq] at h0; omega
      · rw [hx] at h0; simp only [Prod.mk.injEq] at h0; omega
    clear HC h1' h2 hN hx
    go_enter Tryz.func139, Tryz.ntmps139
    go_wp2_with fail
    refine (Next_at (Below.refl _ _) l p HN.out).mono ?_; rintro e' w2 ⟨rfl, h2⟩
    go_wp2_with fail
    go_ret3
    refine ⟨?_, h2⟩
    by_cases h0 : e = 0
    · subst h0
      exact Tells.yes (by rw [HR.out, HX.out]) rfl (by go_num)
    · exact .inr ⟨e, _, _, h0, by rw [HR.out, HX.out], rfl⟩
end Go.Proofs.YtpifbmcgadjhbaaGreatDoor
