/-
  The walks of QuoteWithin and QuoteCut: each comes to true.
-/
import Derived.Test.YtbeliommhligcaaDoorQuoteRef
namespace Go.Proofs.YtbeliommhligcaaDoor
open Go.RowKit

namespace Qm
theorem num_ne (l : List UInt8) : (num l).2.2 ≠ 1 := by
  have s2 : ∀ n l, (snd2 n l).2.2 ≠ 1 := fun n l => by
    rcases f4_cases l with ⟨m, h, _⟩ | h | h
    · rw [snd2_of h]; split <;> simp
    · rw [snd2_no h (by decide)]; decide
    · rw [snd2_no h (by decide)]; decide
  have s1 : ∀ n l, (snd1 n l).2.2 ≠ 1 := fun n l => by
    match l with
    | [] => simp [snd1]
    | c :: t => rw [snd1]; split; exact s2 n t; decide
  have s0 : ∀ n l, (snd0 n l).2.2 ≠ 1 := fun n l => by
    match l with
    | [] => simp [snd0]
    | c :: t => rw [snd0]; split; exact s1 n t; decide
  rcases f4_cases l with ⟨n, h, _⟩ | h | h
  · cases hs : isS n with
    | true => rw [num_S h hs]; decide
    | false =>
      cases hf : isF n with
      | true => rw [num_F h hs hf]; exact s0 n _
      | false => rw [num_p h hs hf]; simp
  · rw [num_e h (by decide)]; decide
  · rw [num_e h (by decide)]; decide
theorem escd_ne (l : List UInt8) : (escd l).2.2 ≠ 1 := by
  match l with
  | [] => decide
  | c :: t =>
    rw [escd]
    split
    · rw [shift_e]; exact num_ne t
    · split <;> simp
theorem one_ne (l : List UInt8) : (one l).2.2 ≠ 1 := by
  match l with
  | [] => decide
  | c :: t =>
    rw [one]
    split
    · decide
    split
    · rw [shift_e]; exact escd_ne t
    · rcases Um.nx_cases (c :: t) with ⟨h, _⟩ | h | h
      · rw [h]; decide
      · rw [h]; decide
      · rw [h]; decide
theorem RDF_ne : ∀ (f : Nat) (l : List UInt8) (n : Nat), l.length < f → (RDF l n).2.2 ≠ 1
  | 0, _, _, h => by omega
  | f + 1, [], n, _ => by rw [RDF_nil]; decide
  | f + 1, c :: t, n, hf => by
    by_cases h : c = 34
    · rw [h, RDF_end]; decide
    have hh : (c :: t).head? ≠ some 34 := fun e => h (by simpa using e)
    by_cases h0 : (one (c :: t)).2.2 = 0
    · by_cases h1 : 4096 < n + (Um.enc (one (c :: t)).1).length
      · rw [RDF_long n hh (one_eta h0) h1]; decide
      · rw [RDF_ok n hh (one_eta h0) (by omega)]
        obtain ⟨hg, hz⟩ := one_good (one_eta h0)
        have h2 := RDF_ne f ((c :: t).drop (one (c :: t)).2.1) (n + (Um.enc (one (c :: t)).1).length) (by rw [List.length_drop]; simp only [List.length_cons] at *; omega)
        unfold cons
        split
        · simp
        · exact h2
    · rw [RDF_bad n hh rfl h0]
      exact one_ne _
/-- what Read tells, in its ways -/
theorem RD_ways (l : List UInt8) (k : Int) : (∃ (p b m : Nat) (a : List UInt8), k = (p : Int) ∧ RD l k = (a, b + 1, 0) ∧ RDF (l.drop (p + 1)) 0 = (a, m, 0) ∧ b = p + m ∧ l.drop p = 34 :: l.drop (p + 1)
      ∧ Um.cnt a ≠ none ∧ a.length ≤ 4096 ∧ 1 ≤ m ∧ b < l.length ∧ a.length + 1 ≤ m ∧ l[b]? = some 34)
    ∨ ((k < 0 ∨ (l.length : Int) < k) ∧ RD l k = ([], 0, 1)) ∨ (∃ c, 0 ≤ k ∧ k ≤ (l.length : Int) ∧ c ≠ 0 ∧ c ≠ 1 ∧ RD l k = ([], 0, c)) := by
  by_cases hk : k < 0 ∨ (l.length : Int) < k
  · exact .inr (.inl ⟨hk, by unfold RD; rw [if_pos hk]⟩)
  obtain ⟨p, rfl⟩ : ∃ p : Nat, k = (p : Int) := ⟨k.toNat, by omega⟩
  by_cases hin : p < l.length
  · obtain ⟨c, t, hc⟩ := drop_at hin
    obtain ⟨_, _, ht⟩ := at_drop hc
    have hr := RD_in l p c t hc
    by_cases h34 : c = 34
    · rw [if_pos h34] at hr
      by_cases h0 : (RDF t 0).2.2 = 0
      · obtain ⟨a, m, e, hx⟩ : ∃ a m e, RDF t 0 = (a, m, e) := ⟨_, _, _, rfl⟩
        rw [hx] at h0
        obtain rfl : e = 0 := h0
        obtain ⟨i1, i2, i3, i4, i5, i6⟩ := RDF_within (t.length + 1) t 0 a m (by omega) (by omega) hx
        rw [hx, cons_ok] at hr
        have htl : t.length = l.length - (p + 1) := by rw [← ht, List.length_drop]
        refine .inl ⟨p, p + m, m, a, rfl, by rw [hr, show p + 1 + m = p + m + 1 by omega]; rfl, by rw [ht]; exact hx, rfl, by rw [hc, h34, ht], i1, by omega, i3, by omega, by omega, ?_⟩
        rw [← ht, List.getElem?_drop, show p + 1 + (m - 1) = p + m by omega] at i6
        exact i6
      · have hno := RDF_no t 0 h0
        refine .inr (.inr ⟨(RDF t 0).2.2, by omega, by omega, h0, RDF_ne (t.length + 1) t 0 (by omega), ?_⟩)
        rw [hr, hno, cons_no _ _ h0]
    · rw [if_neg h34] at hr
      exact .inr (.inr ⟨3, by omega, by omega, by decide, by decide, hr⟩)
  · refine .inr (.inr ⟨4, by omega, by omega, by decide, by decide, ?_⟩)
    unfold RD
    rw [if_neg hk, Int.toNat_natCast, bt_nil l p (by omega)]
/-- of what is cut -/
theorem RD_cut (l : List UInt8) (p m q : Nat) (a : List UInt8) (h : RDF (l.drop (p + 1)) 0 = (a, m, 0)) (hd : l.drop p = 34 :: l.drop (p + 1)) (hq : q ≤ m) (hl : p + m < l.length) : RD (l.take (p + q)) (p : Int) = ([], 0, 4) := by
  have hlen : (l.take (p + q)).length = p + q := by rw [List.length_take]; omega
  match q with
  | 0 =>
    unfold RD
    rw [if_neg (by omega), Int.toNat_natCast, bt_nil _ p (by omega)]
  | q + 1 =>
    have h1 : (l.take (p + (q + 1))).drop p = 34 :: (l.drop (p + 1)).take q := by
      rw [List.drop_take, show p + (q + 1) - p = q + 1 by omega, hd, List.take_succ_cons]
    rw [RD_in _ p 34 _ h1, if_pos rfl, RDF_cut ((l.drop (p + 1)).length + 1) _ 0 a m q (by omega) h (by omega), cons_no _ _ (by decide)]
end Qm
theorem LEN_valid {a : List UInt8} (h : Um.cnt a ≠ none) : (LEN a).2 = true := by
  cases hc : Um.cnt a with
  | none => exact absurd hc h
  | some n => rw [LEN_some hc]
theorem bt_34 {l : List UInt8} {b : Nat} (h : l[b]? = some 34) : Um.bt l b = 34 := by
  unfold Um.bt
  rw [List.getD_eq_getElem?_getD, h]
  rfl
set_option maxRecDepth 100000 in
set_option maxHeartbeats 1600000 in
theorem law_QuoteWithin (s : ByteArray) (k : Int) (w : World) (hs : s.size ≤ maxLen) (hT : Tab w) :
    Calls Tryd.prog 7 #[.string s, .int .i64 k] w fun e w' => e = .returned (.bool true) ∧ Below w.heap.size w w' := by
  unfold maxLen at hs
  obtain ⟨l, rfl⟩ := as_S s
  by_cases h1 : (5000 : Int) < ((S l).size : Int)
  · go_enter Tryd.func7, Tryd.ntmps7
    go_wp2_with fail
    refine (awake_any _ hT).mono ?_; rintro e w3 ⟨rfl, h3⟩
    go_wp2_with fail
    go_ret
    exact ⟨rfl, h3⟩
  have z1 := S_size l
  have hl : l.length ≤ 5000 := by omega
  rcases Qm.RD_ways l k with ⟨p, b, m, a, rfl, hr, _, hb, hd, ha1, ha2, hm, hbl, ham, hb34⟩ | ⟨hk, hr⟩ | ⟨c, hk1, hk2, hc0, hc1, hr⟩
  · subst hb
    have hat := S_at l
    have za := S_size a
    have b1 := bt_34 hb34
    have hv := LEN_valid ha1
    have b2 := (at_drop hd).2.1
    rw [show (34 : UInt8).toNat = 34 from rfl] at b2
    have HR := Lib.hid hr
    have HV := Lib.hid hv
    clear hr hv ha1 hd hb34
    go_enter Tryd.func7, Tryd.ntmps7
    go_wp2_with fail
    refine (awake_any _ hT).mono ?_; rintro e w1 ⟨rfl, h1⟩
    go_wp2_with fail
    refine (Read_at h1 hT l _ (by omega) HR.out).mono ?_; rintro e w2 ⟨rfl, h2⟩
    go_wp2_with fail
    refine (Valid_at h2 a (by omega) HV.out).mono ?_; rintro e w3 ⟨rfl, h3⟩
    go_wp2_with fail
    go_ret
    exact ⟨rfl, h3⟩
  · have HR := Lib.hid hr
    have e0 : (S []).toList = [] := S_toList []
    clear hr
    rcases hk with hk | hk
    all_goals
      go_enter Tryd.func7, Tryd.ntmps7
      go_wp2_with fail
      refine (awake_any _ hT).mono ?_; rintro e w1 ⟨rfl, h1⟩
      go_wp2_with fail
      refine (Read_at h1 hT l _ (by omega) HR.out).mono ?_; rintro e w2 ⟨rfl, h2⟩
      go_wp2_with fail
      go_ret
      exact ⟨rfl, h2⟩
  · have HR := Lib.hid hr
    have e0 : (S []).toList = [] := S_toList []
    have n0 : ((c : Int) != 0) = true := by rw [bne_iff_ne]; omega
    have n1 : ((c : Int) == 1) = false := by rw [beq_eq_false_iff_ne]; omega
    have d1 : decide (k < 0) = false := by rw [decide_eq_false_iff_not]; omega
    have d2 : decide ((l.length : Int) < k) = false := by rw [decide_eq_false_iff_not]; omega
    clear hr hc0 hc1
    go_enter Tryd.func7, Tryd.ntmps7
    go_wp2_with fail
    refine (awake_any _ hT).mono ?_; rintro e w1 ⟨rfl, h1⟩
    go_wp2_with fail
    refine (Read_at h1 hT l _ (by omega) HR.out).mono ?_; rintro e w2 ⟨rfl, h2⟩
    go_wp2_with fail
    go_ret
    exact ⟨rfl, h2⟩
set_option maxRecDepth 100000 in
set_option maxHeartbeats 1600000 in
theorem law_QuoteCut (s : ByteArray) (k j : Int) (w : World) (hs : s.size ≤ maxLen) (hT : Tab w) :
    Calls Tryd.prog 8 #[.string s, .int .i64 k, .int .i64 j] w fun e w' => e = .returned (.bool true) ∧ Below w.heap.size w w' := by
  unfold maxLen at hs
  obtain ⟨l, rfl⟩ := as_S s
  by_cases h1 : (5000 : Int) < ((S l).size : Int)
  · go_enter Tryd.func8, Tryd.ntmps8
    go_wp2_with fail
    refine (awake_any _ hT).mono ?_; rintro e w3 ⟨rfl, h3⟩
    go_wp2_with fail
    go_ret
    exact ⟨rfl, h3⟩
  have z1 := S_size l
  have hl : l.length ≤ 5000 := by omega
  have err : ∀ c, c ≠ 0 → Qm.RD l k = ([], 0, c) → Calls Tryd.prog 8 #[.string (S l), .int .i64 k, .int .i64 j] w fun e w' => e = .returned (.bool true) ∧ Below w.heap.size w w' := fun c hc hr => by
    have HR := Lib.hid hr
    have n0 : ((c : Int) != 0) = true := by rw [bne_iff_ne]; omega
    clear hr hc
    go_enter Tryd.func8, Tryd.ntmps8
    go_wp2_with fail
    refine (awake_any _ hT).mono ?_; rintro e w1 ⟨rfl, h1⟩
    go_wp2_with fail
    refine (Read_at h1 hT l _ (by omega) HR.out).mono ?_; rintro e w2 ⟨rfl, h2⟩
    go_wp2_with fail
    go_ret
    exact ⟨rfl, h2⟩
  rcases Qm.RD_ways l k with ⟨p, b, m, a, rfl, hr, hrd, hb, hd, ha1, ha2, hm, hbl, ham, hb34⟩ | ⟨hk, hr⟩ | ⟨c, hk1, hk2, hc0, hc1, hr⟩
  · subst hb
    have HR := Lib.hid hr
    have HC : Hid (∀ q, q ≤ m → Qm.RD (l.take (p + q)) (p : Int) = ([], 0, 4)) := fun q hq => Qm.RD_cut l p m q a hrd hd hq hbl
    have hq : ∃ q : Nat, q ≤ m ∧ (IntKind.u64.wrap j).tmod ((p : Int) + (m : Int) + 1 - (p : Int)) = (q : Int) := by
      obtain ⟨x, hx⟩ : ∃ x, x = IntKind.u64.wrap j := ⟨_, rfl⟩
      have hx0 : 0 ≤ x := by rw [hx, IntKind.wrap_u64]; omega
      rw [← hx, show (p : Int) + (m : Int) + 1 - (p : Int) = (m : Int) + 1 by omega, Int.tmod_eq_emod_of_nonneg hx0]
      have h1 := Int.emod_nonneg x (show (m : Int) + 1 ≠ 0 by omega)
      have h2 := Int.emod_lt_of_pos x (show 0 < (m : Int) + 1 by omega)
      exact ⟨(x % ((m : Int) + 1)).toNat, by omega, by omega⟩
    obtain ⟨q, hqm, hq⟩ := hq
    obtain ⟨n, hn⟩ : ∃ n : Nat, (p : Int) + (q : Int) = (n : Int) := ⟨p + q, by omega⟩
    have hnl : n ≤ l.length := by omega
    have HC2 : Hid (Qm.RD (l.take n) (p : Int) = ([], 0, 4)) := by
      have := HC.out q hqm
      rw [show p + q = n by omega] at this
      exact this
    have hsl := slice_upto l n hnl
    have zt : Hid ((l.take n).length ≤ 100000000) := by unfold Hid; rw [List.length_take]; omega
    clear err hr hrd hd ha1 hb34 HC
    go_enter Tryd.func8, Tryd.ntmps8
    go_wp2_with fail
    refine (awake_any _ hT).mono ?_; rintro e w1 ⟨rfl, h1⟩
    go_wp2_with fail
    refine (Read_at h1 hT l _ (by omega) HR.out).mono ?_; rintro e w2 ⟨rfl, h2⟩
    go_wp2_with fail
    refine (Read_at h2 hT (l.take n) _ zt.out HC2.out).mono ?_; rintro e w3 ⟨rfl, h3⟩
    go_wp2_with fail
    go_ret
    exact ⟨rfl, h3⟩
  · exact err 1 (by decide) hr
  · exact err c hc0 hr
end Go.Proofs.YtbeliommhligcaaDoor
