/-
  What the program's isFormed, size and May come to.
-/
import Derived.Test.YtpifbmcgadjhbaaDoorValForm
import Derived.Test.YtpifbmcgadjhbaaDoorValRefMay2
namespace Go.Proofs.YtpifbmcgadjhbaaDoor
open Go.RowKit

namespace JV
/-- has a value what its Kind uses, and nothing else, whatever its Items are? -/
def formed (x : JV) : Bool :=
  if x.k = 1 then (x.n == 0 || x.n == 1) && (x.t.length == 0 && (x.ns.length == 0 && x.is.length == 0))
  else if x.k = 2 then x.t.length == 0 && (x.ns.length == 0 && x.is.length == 0)
  else if x.k = 3 then x.n == 0 && (Jn.txt x.t && (x.ns.length == 0 && x.is.length == 0))
  else if x.k = 4 then x.n == 0 && (x.t.length == 0 && x.ns.length == 0)
  else if x.k = 5 then x.n == 0 && (x.t.length == 0 && ((x.ns.length == x.is.length && Jn.rise x.ns) && x.ns.all Jn.txt))
  else false
theorem parts_nil_and (b : Bool) (is : List JV) : (b && (is.length == 0)) = ((b && (is.length == 0)) && parts is) := by
  cases is with
  | nil => simp [parts]
  | cons x r => simp
theorem part_formed (x : JV) : part x = (formed x && parts x.is) := by
  rw [part_eq, formed]
  by_cases h1 : x.k = 1
  · rw [if_pos h1, if_pos h1]
    have := parts_nil_and true x.is
    revert this
    cases (x.n == 0 || x.n == 1) <;> cases (x.t.length == 0) <;> cases (x.ns.length == 0) <;> cases (x.is.length == 0) <;> cases (parts x.is) <;> simp
  rw [if_neg h1, if_neg h1]
  by_cases h2 : x.k = 2
  · rw [if_pos h2, if_pos h2]
    have := parts_nil_and true x.is
    revert this
    cases (x.t.length == 0) <;> cases (x.ns.length == 0) <;> cases (x.is.length == 0) <;> cases (parts x.is) <;> simp
  rw [if_neg h2, if_neg h2]
  by_cases h3 : x.k = 3
  · rw [if_pos h3, if_pos h3]
    have := parts_nil_and true x.is
    revert this
    cases (x.n == 0) <;> cases (Jn.txt x.t) <;> cases (x.ns.length == 0) <;> cases (x.is.length == 0) <;> cases (parts x.is) <;> simp
  rw [if_neg h3, if_neg h3]
  by_cases h4 : x.k = 4
  · rw [if_pos (.inl h4), if_pos h4, h4]
    have hn : (x.ns.length == 0) = true → Jn.rise x.ns = true ∧ x.ns.all Jn.txt = true := fun h => by
      rw [List.length_eq_zero_iff.1 (beq_iff_eq.1 h)]
      exact ⟨rfl, rfl⟩
    revert hn
    cases (x.n == 0) <;> cases (x.t.length == 0) <;> cases (x.ns.length == 0) <;> cases (Jn.rise x.ns) <;> cases (x.ns.all Jn.txt) <;> cases (parts x.is) <;> simp
  rw [if_neg h4]
  by_cases h5 : x.k = 5
  · rw [if_pos (.inr h5), if_pos h5, h5]
    cases (x.n == 0) <;> cases (x.t.length == 0) <;> cases (x.ns.length == x.is.length) <;> cases (Jn.rise x.ns) <;> cases (x.ns.all Jn.txt) <;> cases (parts x.is) <;> simp
  · rw [if_neg h5, if_neg (by rintro (h | h); exact h4 h; exact h5 h)]
    simp
end JV
set_option maxHeartbeats 8000000 in
set_option maxRecDepth 10000 in
theorem vFormed_any (x : JV) (hwt : x.wt ≤ 90000) (w : World) (v : Value) (hv : HV w v x) {c : Bool} (hcc : x.formed = c) :
    Calls Tryd.prog 35 #[v] w fun e w' => e = .returned (.bool c) ∧ Below w.heap.size w w' := by
  have hwe := x.wt_eq
  have hnl := JV.wn_len x.ns
  obtain ⟨cs, rfl, hc⟩ := hv
  obtain ⟨a, b, ca, cb, rfl, hB, hN, hI⟩ := hc.form
  obtain ⟨m, hm⟩ : ∃ m, x.is.length = m := ⟨_, rfl⟩
  obtain ⟨r, hr⟩ : ∃ r, x.ns.length = r := ⟨_, rfl⟩
  have hv1 : ∀ w', Below w.heap.size w w' → HV w' (.agg #[.int .u8 (x.k : Int), .int .i64 x.n, .string (S x.t), .slice a x.ns.length ca, .slice b x.is.length cb]) x := fun w' h => ⟨_, rfl, HC.below h x _ hc⟩
  have cA := fun w1 (h : Below w.heap.size w w1) {c : Bool} (hc : x.ns.all Jn.txt = c) => anyNoText_any x.ns a ca w1 (hN.below h) hB.2.2.2.1 hc
  have cS := fun w1 (h : Below w.heap.size w w1) {c : Bool} (hc : (x.ns.length == x.is.length && Jn.rise x.ns) = c) => isSorted_any x w1 _ (hv1 w1 h) (by omega) hc
  have cT := fun w {c : Bool} (hc : Jn.txt x.t = c) => isText_any x.t w hc
  have hm2 : (m : Int) ≤ 9223372036854775807 := by have := hB.2.2.2.2.1; unfold maxLen at this; omega
  have hr2 : (r : Int) ≤ 90000 := by omega
  have HP : Hid (c = _) := hcc.symm.trans (JV.formed.eq_1 x)
  rw [hm, hr] at HP
  rw [hm, hr] at cS
  rw [hr] at cA
  rw [hm, hr]
  obtain ⟨kI, hk⟩ : ∃ z : Int, z = (x.k : Int) := ⟨_, rfl⟩
  obtain ⟨nI, hn⟩ : ∃ z : Int, z = x.n := ⟨_, rfl⟩
  rw [← hk, ← hn] at cS
  rw [← hk, ← hn]
  rw [← hn] at HP
  have HK := Lib.hid hk
  clear hm hr hk hn hc hB hwe hnl hv1 hN hI hcc
  obtain ⟨W1, hW1⟩ : ∃ W, W = w.alloc (.cells #[.int .u8 kI, .int .i64 nI, .string (S x.t), .slice a r ca, .slice b m cb] 25) := ⟨_, rfl⟩
  have V1 : VAt w.heap.size W1 (.int .u8 kI) (.int .i64 nI) (.string (S x.t)) (.slice a r ca) (.slice b m cb) := by rw [hW1]; exact VAt.new ..
  have b1 : Below w.heap.size w W1 := by rw [hW1]; exact (Below.refl _ _).alloc (Nat.le_refl _) _
  obtain ⟨p3, hp3⟩ : ∃ p, (x.t.length == 0) = p := ⟨_, rfl⟩
  obtain ⟨p4, hp4⟩ : ∃ p, ((r : Int) == 0) = p := ⟨_, rfl⟩
  obtain ⟨p5, hp5⟩ : ∃ p, ((m : Int) == 0) = p := ⟨_, rfl⟩
  obtain ⟨b1', h1⟩ : ∃ p, (nI == 0) = p := ⟨_, rfl⟩
  rw [hp3, h1, ← zero_beq r, ← zero_beq m, hp4, hp5] at HP
  by_cases k1 : kI = 1
  · subst k1
    obtain ⟨b2', h2⟩ : ∃ p, (nI == 1) = p := ⟨_, rfl⟩
    have HP : Hid (c = ((b1' || b2') && (p3 && (p4 && p5)))) := by
      rw [Hid, HP.out, if_pos (by have := HK.out; omega), h2]
    clear cA cS cT
    cases b1' <;> cases b2' <;> cases p3 <;> cases p4 <;> cases p5
    all_goals
      first | (obtain ⟨s1, s2⟩ := empty_facts hp3) | (obtain ⟨s1, s2⟩ := full_facts hp3)
      clear hp3
      go_enter Tryd.func35, Tryd.ntmps35
      go_wp2_with fail
      rw [← hW1]
      go_ret
      exact ⟨ret_eq HP.out rfl, b1⟩
  by_cases k2 : kI = 2
  · subst k2
    have HP : Hid (c = (p3 && (p4 && p5))) := by
      rw [Hid, HP.out, if_neg (by have := HK.out; omega), if_pos (by have := HK.out; omega)]
    clear cA cS cT
    cases p3 <;> cases p4 <;> cases p5
    all_goals
      first | (obtain ⟨s1, s2⟩ := empty_facts hp3) | (obtain ⟨s1, s2⟩ := full_facts hp3)
      clear hp3
      go_enter Tryd.func35, Tryd.ntmps35
      go_wp2_with fail
      rw [← hW1]
      go_ret
      exact ⟨ret_eq HP.out rfl, b1⟩
  by_cases k3 : kI = 3
  · subst k3
    obtain ⟨p6, hp6⟩ : ∃ p, Jn.txt x.t = p := ⟨_, rfl⟩
    have HP : Hid (c = (b1' && (p6 && (p4 && p5)))) := by
      rw [Hid, HP.out, if_neg (by have := HK.out; omega), if_neg (by have := HK.out; omega), if_pos (by have := HK.out; omega), hp6]
    have cT := fun w => cT w hp6
    clear hp3 hp6 cA cS
    cases b1'
    · go_enter Tryd.func35, Tryd.ntmps35
      go_wp2_with fail
      rw [← hW1]
      go_ret
      exact ⟨ret_eq HP.out rfl, b1⟩
    · cases p6 <;> cases p4 <;> cases p5
      all_goals
        go_enter Tryd.func35, Tryd.ntmps35
        go_wp2_with fail
        rw [← hW1]
        refine (cT _).mono ?_; rintro e w2 ⟨rfl, b2⟩
        have V2 := V1.below b2
        obtain ⟨⟨z0, z1, z2, z3, z4⟩, _⟩ := V2.cells
        go_wp2_with fail
        go_ret
        exact ⟨ret_eq HP.out rfl, b1.trans (b2.mono b1.size)⟩
  by_cases k4 : kI = 4
  · subst k4
    have HP : Hid (c = (b1' && (p3 && p4))) := by
      rw [Hid, HP.out, if_neg (by have := HK.out; omega), if_neg (by have := HK.out; omega), if_neg (by have := HK.out; omega), if_pos (by have := HK.out; omega)]
    clear cA cS cT
    cases b1' <;> cases p3 <;> cases p4
    all_goals
      first | (obtain ⟨s1, s2⟩ := empty_facts hp3) | (obtain ⟨s1, s2⟩ := full_facts hp3)
      clear hp3
      go_enter Tryd.func35, Tryd.ntmps35
      go_wp2_with fail
      rw [← hW1]
      go_ret
      exact ⟨ret_eq HP.out rfl, b1⟩
  by_cases k5 : kI = 5
  · subst k5
    obtain ⟨p6, hp6⟩ : ∃ p, (r == m && Jn.rise x.ns) = p := ⟨_, rfl⟩
    obtain ⟨p7, hp7⟩ : ∃ p, x.ns.all Jn.txt = p := ⟨_, rfl⟩
    have HP : Hid (c = (b1' && (p3 && (p6 && p7)))) := by
      rw [Hid, HP.out, if_neg (by have := HK.out; omega), if_neg (by have := HK.out; omega), if_neg (by have := HK.out; omega), if_neg (by have := HK.out; omega), if_pos (by have := HK.out; omega), hp6, hp7]
    have CS := cS W1 b1 hp6
    have CA := Lib.hid (fun w1 (h : Below w.heap.size w w1) => cA w1 h hp7)
    clear cA cS cT hp4 hp5 hp6 hp7
    cases b1'
    · clear CS hp3
      go_enter Tryd.func35, Tryd.ntmps35
      go_wp2_with fail
      rw [← hW1]
      go_ret
      exact ⟨ret_eq HP.out rfl, b1⟩
    cases p3
    · clear CS
      obtain ⟨s1, s2⟩ := full_facts hp3
      clear hp3
      go_enter Tryd.func35, Tryd.ntmps35
      go_wp2_with fail
      rw [← hW1]
      go_ret
      exact ⟨ret_eq HP.out rfl, b1⟩
    obtain ⟨s1, s2⟩ := empty_facts hp3
    clear hp3
    cases p6
    · go_enter Tryd.func35, Tryd.ntmps35
      go_wp2_with fail
      rw [← hW1]
      refine CS.mono ?_; rintro e w2 ⟨rfl, b2⟩
      go_wp2_with fail
      go_ret
      exact ⟨ret_eq HP.out rfl, b1.trans (b2.mono b1.size)⟩
    · go_enter Tryd.func35, Tryd.ntmps35
      go_wp2_with fail
      rw [← hW1]
      refine CS.mono ?_; rintro e w2 ⟨rfl, b2⟩
      have b3 := b1.trans (b2.mono b1.size)
      have V2 := V1.below b2
      obtain ⟨⟨z0, z1, z2, z3, z4⟩, _⟩ := V2.cells
      go_wp2_with fail
      refine (CA.out _ b3).mono ?_; rintro e w4 ⟨rfl, b4⟩
      go_wp2_with fail
      go_ret
      exact ⟨ret_eq HP.out (by simp), b3.trans (b4.mono b3.size)⟩
  · have HP : Hid (c = false) := by
      rw [Hid, HP.out, if_neg (by have := HK.out; omega), if_neg (by have := HK.out; omega), if_neg (by have := HK.out; omega), if_neg (by have := HK.out; omega), if_neg (by have := HK.out; omega)]
    have k1 : (kI == 1) = false := beq_eq_false_iff_ne.2 k1
    have k2 : (kI == 2) = false := beq_eq_false_iff_ne.2 k2
    have k3 : (kI == 3) = false := beq_eq_false_iff_ne.2 k3
    have k4 : (kI == 4) = false := beq_eq_false_iff_ne.2 k4
    have k5 : (kI == 5) = false := beq_eq_false_iff_ne.2 k5
    clear hp3 hp4 hp5 h1 cA cS cT
    go_enter Tryd.func35, Tryd.ntmps35
    go_wp2_with fail
    rw [← hW1]
    go_ret
    exact ⟨ret_eq HP.out rfl, b1⟩
end Go.Proofs.YtpifbmcgadjhbaaDoor
