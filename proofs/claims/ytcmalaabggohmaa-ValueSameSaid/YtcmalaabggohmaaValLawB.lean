/-
  The walk of ValueSame: it comes to true.
-/
import Derived.Test.YtcmalaabggohmaaValAwake
import Derived.Test.YtcmalaabggohmaaValSamG
namespace Go.Proofs.Ytcmalaabggohmaa
open Go.RowKit

/-- if a bit stands so, this holds (in a form of its own, which no walk rewrites) -/
def Bt (c b : Bool) (P : Prop) : Prop := c = b → P
set_option maxHeartbeats 16000000 in
set_option maxRecDepth 10000 in
theorem law_ValueSame (x : JV) (v : Value) (y : JV) (u : Value) (w : World) (hv : HV w v x) (hu : HV w u y) :
    Calls Try.prog 6 #[v, u] w fun e w' => e = .returned (.bool true) ∧ Below w.heap.size w w' := by
  obtain ⟨a, b, ca, cb, rfl, hV, hI, hN, hB⟩ := hv.open
  obtain ⟨a', b', ca', cb', rfl, hV', hI', hN', hB'⟩ := hu.open
  obtain ⟨m, hm⟩ : ∃ m, x.is.length = m := ⟨_, rfl⟩
  obtain ⟨m', hm'⟩ : ∃ m, y.is.length = m := ⟨_, rfl⟩
  obtain ⟨r, hr⟩ : ∃ m, x.ns.length = m := ⟨_, rfl⟩
  obtain ⟨r', hr'⟩ : ∃ m, y.ns.length = m := ⟨_, rfl⟩
  have hm2 : (m : Int) ≤ 9223372036854775807 := by have := hB.2.2.2.2.1; unfold maxLen at this; omega
  have hr2 : (r : Int) ≤ 9223372036854775807 := by have := hB.2.2.2.1; unfold maxLen at this; omega
  rw [hm, hr] at hV
  rw [hm', hr'] at hV'
  rw [hm, hm', hr, hr']
  obtain ⟨kI, hk⟩ : ∃ z : Int, z = (x.k : Int) := ⟨_, rfl⟩
  obtain ⟨kI', hk'⟩ : ∃ z : Int, z = (y.k : Int) := ⟨_, rfl⟩
  obtain ⟨nI, hn⟩ : ∃ z : Int, z = x.n := ⟨_, rfl⟩
  obtain ⟨nI', hn'⟩ : ∃ z : Int, z = y.n := ⟨_, rfl⟩
  obtain ⟨t, ht⟩ : ∃ z, z = x.t := ⟨_, rfl⟩
  obtain ⟨t', ht'⟩ : ∃ z, z = y.t := ⟨_, rfl⟩
  rw [← hk, ← hn, ← ht] at hV
  rw [← hk', ← hn', ← ht'] at hV'
  rw [← hk, ← hk', ← hn, ← hn', ← ht, ← ht']
  have HM := Lib.hid hm
  have HM' := Lib.hid hm'
  have HR := Lib.hid hr
  have HR' := Lib.hid hr'
  have HK := Lib.hid hk
  have HK' := Lib.hid hk'
  have HNn := Lib.hid hn
  have HNn' := Lib.hid hn'
  have HTt := Lib.hid ht
  have HTt' := Lib.hid ht'
  clear hm hm' hr hr' hk hk' hn hn' ht ht' hv hu hB hB'
  obtain ⟨W1, hW1⟩ : ∃ W, W = w.alloc (.cells #[.int .u8 kI, .int .i64 nI, .string (S t), .slice a r ca, .slice b m cb] 25) := ⟨_, rfl⟩
  obtain ⟨W2, hW2⟩ : ∃ W, W = W1.alloc (.cells #[.int .u8 kI', .int .i64 nI', .string (S t'), .slice a' r' ca', .slice b' m' cb'] 25) := ⟨_, rfl⟩
  obtain ⟨W3, hW3⟩ : ∃ W, W = W2.alloc (.cells #[.int .u8 kI, .int .i64 nI, .string (S t), .slice a r ca, .slice b m cb, .int .u8 kI', .int .i64 nI', .string (S t'), .slice a' r' ca', .slice b' m' cb'] 25) := ⟨_, rfl⟩
  have b1 : Below w.heap.size w W1 := by rw [hW1]; exact (Below.refl _ _).alloc (Nat.le_refl _) _
  have b12 : Below W1.heap.size W1 W2 := by rw [hW2]; exact (Below.refl _ _).alloc (Nat.le_refl _) _
  have b23 : Below W2.heap.size W2 W3 := by rw [hW3]; exact (Below.refl _ _).alloc (Nat.le_refl _) _
  have V1 : VAt w.heap.size W1 (.int .u8 kI) (.int .i64 nI) (.string (S t)) (.slice a r ca) (.slice b m cb) := by rw [hW1]; exact VAt.new ..
  have V2 : VAt W1.heap.size W2 (.int .u8 kI') (.int .i64 nI') (.string (S t')) (.slice a' r' ca') (.slice b' m' cb') := by rw [hW2]; exact VAt.new ..
  have e1 : W1.heap.size = w.heap.size + 1 := by rw [hW1]; simp
  have e2 : W2.heap.size = w.heap.size + 1 + 1 := by rw [hW2]; simp [e1]
  have c2 := b1.trans (b12.mono b1.size)
  have c3 := c2.trans (b23.mono c2.size)
  have V1 := (V1.below b12).below b23
  have V2 := V2.below b23
  have i3 : W3.heap[W2.heap.size]? = some (.cells (([.int .u8 kI, .int .i64 nI, .string (S t), .slice a r ca, .slice b m cb] : List Value) ++ ([.int .u8 kI', .int .i64 nI', .string (S t'), .slice a' r' ca', .slice b' m' cb'] : List Value)).toArray 25 (0, 0)) := by rw [hW3]; exact heap_alloc_new W2 _
  obtain ⟨cs, hcs, hc⟩ := hV W3 c3
  obtain rfl : cs = [.int .u8 kI, .int .i64 nI, .string (S t), .slice a r ca, .slice b m cb] := by simpa using hcs.symm
  obtain ⟨cs', hcs', hc'⟩ := hV' W3 c3
  obtain rfl : cs' = [.int .u8 kI', .int .i64 nI', .string (S t'), .slice a' r' ca', .slice b' m' cb'] := by simpa using hcs'.symm
  have cL := long_any ([x] ++ [y]) W3 (some ⟨W2.heap.size, 0, none⟩) 2 (by show 2 ≤ maxLen; unfold maxLen; omega) (.inr ⟨W2.heap.size, 0, rfl, HI.of_block i3 (HCS.snoc hc' (HCS.one hc))⟩)
  rw [e2, show ([x] ++ [y]).length = 2 from rfl] at cL
  rw [e1] at V2
  have HV1 : Hid (∀ W, Below W3.heap.size W3 W → VAt w.heap.size W (.int .u8 kI) (.int .i64 nI) (.string (S t)) (.slice a r ca) (.slice b m cb)) := fun W h => V1.below h
  have HV2 : Hid (∀ W, Below W3.heap.size W3 W → VAt (w.heap.size + 1) W (.int .u8 kI') (.int .i64 nI') (.string (S t')) (.slice a' r' ca') (.slice b' m' cb')) := fun W h => V2.below h
  have HX : Hid (∀ W, Below W3.heap.size W3 W → HV W (.agg #[.int .u8 kI, .int .i64 nI, .string (S t), .slice a r ca, .slice b m cb]) x) := fun W h => ⟨_, rfl, HC.below h x _ hc⟩
  have HY : Hid (∀ W, Below W3.heap.size W3 W → HV W (.agg #[.int .u8 kI', .int .i64 nI', .string (S t'), .slice a' r' ca', .slice b' m' cb']) y) := fun W h => ⟨_, rfl, HC.below h y _ hc'⟩
  have HII : Hid (x.is = [] ∨ ∃ blk off, b = some ⟨blk, off, none⟩ ∧ HI W3 blk off x.is) := hI.imp id fun ⟨blk, off, h1, h2⟩ => ⟨blk, off, h1, HI.below c3 _ _ _ h2⟩
  have HII' : Hid (y.is = [] ∨ ∃ blk off, b' = some ⟨blk, off, none⟩ ∧ HI W3 blk off y.is) := hI'.imp id fun ⟨blk, off, h1, h2⟩ => ⟨blk, off, h1, HI.below c3 _ _ _ h2⟩
  have HNS : Hid (NS W3 a x.ns) := hN.below c3
  have HNS' : Hid (NS W3 a' y.ns) := hN'.below c3
  have CS : Hid (∀ W c, Below W3.heap.size W3 W → x.same y = c → Calls Try.prog 17 #[.agg #[.int .u8 kI, .int .i64 nI, .string (S t), .slice a r ca, .slice b m cb], .agg #[.int .u8 kI', .int .i64 nI', .string (S t'), .slice a' r' ca', .slice b' m' cb']] W fun e w' => e = .returned (.bool c) ∧ Below W.heap.size W w') := fun W c h hc2 => by
    have h2 := same_any _ x y (Nat.le_refl _) W _ _ (HX.out W h) (HY.out W h)
    rw [hc2] at h2
    exact h2
  have C3 := Lib.hid c3
  clear b1 b12 b23 V1 V2 i3 hc hc' hcs hcs' hI hI' hN hN' hV hV' c2 c3 e1 e2
  go_enter Try.func6, Try.ntmps6
  go_wp2_with fail
  rw [← hW1, ← hW2, ← hW3]
  clear hW1 hW2 hW3
  refine cL.mono ?_; rintro e w4 ⟨⟨B, rfl, hB⟩, rfl⟩
  cases B with
  | true =>
    go_wp2_with fail
    refine (awake_any _).mono ?_; rintro e w5 ⟨rfl, b5⟩
    go_wp2_with fail
    go_ret
    exact ⟨rfl, C3.out.trans (b5.mono C3.out.size)⟩
  | false =>
  have hwt : x.wt ≤ 90000 := by
    have := hB rfl
    simp only [JV.wts, List.cons_append, List.nil_append] at this
    omega
  have HW := Lib.hid hwt
  clear hB cL hwt
  go_wp2_with fail
  refine (awake_any _).mono ?_; rintro e w5 ⟨rfl, b5⟩
  have B5 := Lib.hid b5
  clear b5
  obtain ⟨SB, hsb⟩ : ∃ c, x.same y = c := ⟨_, rfl⟩
  have HSB := Lib.hid hsb
  clear hsb
  go_wp2_with fail
  refine region_sm (X := x) (Y := y) (B := SB) (by kernel_rfl) (by kernel_rfl) (by simp) rfl rfl (HV1.out _ B5.out) (HV2.out _ B5.out) (HX.out _ B5.out) (HY.out _ B5.out) HW.out HSB.out ((same_eq ⟨fun h => JV.same_iff.2 (JV.same_iff.1 h).symm, fun h => JV.same_iff.2 (JV.same_iff.1 h).symm⟩).trans HSB.out) (fun f w6 f0 b6 => ?_)
  have f0 : f 36 = .bool false := f0
  rw [putR_lit]
  simp only [putL, show ∀ i, psm i = (Ssm.contains i) from fun _ => rfl, Ssm]
  simp
  rw [f0]
  have B6 := Lib.hid (B5.out.trans (b6.mono B5.out.size))
  clear b6 f0
  obtain ⟨⟨p0, p1, p2, p3, p4⟩, _⟩ := (HV1.out _ B6.out).cells
  obtain ⟨⟨q0, q1, q2, q3, q4⟩, _⟩ := (HV2.out _ B6.out).cells
  have s1 := S_toList t
  have s2 := S_toList t'
  by_cases h1 : kI = kI'
  · subst h1
    by_cases h2 : nI = nI'
    · subst h2
      by_cases h3 : t = t'
      · subst h3
        by_cases h4 : r = r'
        · subst h4
          by_cases h5 : m = m'
          · subst h5
            have he : Hid (x.is.length = y.is.length) := by rw [Hid, HM.out, HM'.out]
            go_wp2_with fail
            clear p0 p1 p2 p3 p4 q0 q1 q2 q3 q4
            go_loopw [5, 6] (fun cv iv wr => ∃ (c : Bool) (i : Nat), cv = .bool c ∧ iv = .int .i64 (i : Int) ∧ i ≤ r ∧ Bt c true (∀ (j : Nat) (p : List UInt8), j < i → x.ns[j]? = some p → y.ns[j]? = some p) ∧ Bt c false (x.same y = false) ∧ Below W3.heap.size W3 wr) (fun _ iv _ => r - (intOf iv).toNat)
            case atStart => exact ⟨true, 0, rfl, rfl, Nat.zero_le _, fun _ j p h => by omega, fun h => (by cases h), B6.out⟩
            case round =>
              obtain ⟨c, i, rfl, rfl, hi, HS, HF, hW⟩ := hrel
              have BW := Lib.hid hW
              obtain ⟨⟨p0, p1, p2, p3, p4⟩, _⟩ := (HV1.out _ hW).cells
              obtain ⟨⟨q0, q1, q2, q3, q4⟩, _⟩ := (HV2.out _ hW).cells
              by_cases hgo : (i : Int) < (r : Int) ∧ c = true
              · obtain ⟨hlt, rfl⟩ := hgo
                obtain ⟨p, hp⟩ : ∃ p, x.ns[i]? = some p := ⟨x.ns[i]'(by have := HR.out; omega), List.getElem?_eq_getElem _⟩
                obtain ⟨q, hq⟩ : ∃ p, y.ns[i]? = some p := ⟨y.ns[i]'(by have := HR'.out; omega), List.getElem?_eq_getElem _⟩
                obtain ⟨bb, oo, rfl, g0⟩ := (HNS.out.below hW) i p hp
                obtain ⟨bb', oo', rfl, g1⟩ := (HNS'.out.below hW) i q hq
                have a9 : ∀ n, Below wr.heap.size wr (wr.drewN n) := fun n => ⟨rfl, rfl, rfl, Nat.le_refl _, fun _ _ => rfl⟩
                have u1 := S_toList p
                have u2 := S_toList q
                have HP := Lib.hid hp
                have HQ := Lib.hid hq
                clear hp hq
                by_cases hpq : p = q
                · subst hpq
                  go_wp2_with fail
                  go_quiet (fail)
                  go_wp2_with fail
                  go_roundw
                  case rel =>
                    refine ⟨true, i + 1, rfl, by go_num, by omega, fun _ j z hj hz => ?_, fun h => (by cases h), hW.trans ((a9 _).mono hW.size)⟩
                    by_cases hji : j < i
                    · exact HS rfl j z hji hz
                    · obtain rfl : j = i := by omega
                      rw [HP.out] at hz
                      rw [HQ.out]
                      exact hz
                  case measure => simp [intOf]; omega
                · have hb : ((S p).toList == (S q).toList) = false := by rw [u1, u2]; exact beq_eq_false_iff_ne.2 hpq
                  have hb' : (p == q) = false := beq_eq_false_iff_ne.2 hpq
                  have HN : Hid (x.same y = false) := JV.same_no fun h => by
                    have h1 := HP.out
                    rw [h, HQ.out] at h1
                    exact hpq (by simpa using h1.symm)
                  clear hpq
                  go_wp2_with fail
                  go_quiet (fail)
                  go_wp2_with fail
                  go_roundw
                  case rel => exact ⟨false, i + 1, rfl, by go_num, by omega, fun h => (by cases h), fun _ => HN.out, hW.trans ((a9 _).mono hW.size)⟩
                  case measure => simp [intOf]; omega
              · have H2 : Bt c true (x.ns = y.ns) := fun hc => lists_eq (by rw [HR.out, HR'.out]) fun j z hz => HS hc j z (by
                  have h1 := (List.getElem?_eq_some_iff.1 hz).1
                  have h2 := HR.out
                  have h3 : ¬ (i : Int) < (r : Int) := fun h => hgo ⟨h, hc⟩
                  omega) hz
                have hcs : ((i : Int) < (r : Int) ∧ c = false) ∨ (¬ (i : Int) < (r : Int) ∧ c = false) ∨ (¬ (i : Int) < (r : Int) ∧ c = true) := by
                  by_cases hl : (i : Int) < (r : Int)
                  · cases c
                    · exact .inl ⟨hl, rfl⟩
                    · exact absurd ⟨hl, rfl⟩ hgo
                  · cases c
                    · exact .inr (.inl ⟨hl, rfl⟩)
                    · exact .inr (.inr ⟨hl, rfl⟩)
                clear hgo HS
                rcases hcs with ⟨hlt, rfl⟩ | ⟨hlt, rfl⟩ | ⟨hlt, rfl⟩
                all_goals
                  go_wp2_with fail
                  clear p0 p1 p2 p3 p4 q0 q1 q2 q3 q4
                  go_loopw [5, 7] (fun cv iv w3 => ∃ (c : Bool) (i : Nat), cv = .bool c ∧ iv = .int .i64 (i : Int) ∧ i ≤ m ∧ Bt c true (x.ns = y.ns ∧ ∀ (j : Nat) (p : JV), j < i → x.is[j]? = some p → y.is[j]? = some p) ∧ Bt c false (x.same y = false) ∧ Below W3.heap.size W3 w3) (fun _ iv _ => m - (intOf iv).toNat)
                  case atStart => exact ⟨_, 0, rfl, rfl, Nat.zero_le _, fun hc => ⟨H2 hc, fun j p h => by omega⟩, HF, BW.out⟩
                  case round =>
                    clear hlt hi HF H2 hW BW
                    obtain ⟨c, i, rfl, rfl, hi, HS, HF, hW⟩ := hrel
                    have BW := Lib.hid hW
                    obtain ⟨⟨p0, p1, p2, p3, p4⟩, _⟩ := (HV1.out _ hW).cells
                    obtain ⟨⟨q0, q1, q2, q3, q4⟩, _⟩ := (HV2.out _ hW).cells
                    by_cases hgo : (i : Int) < (m : Int) ∧ c = true
                    · obtain ⟨hlt, rfl⟩ := hgo
                      obtain ⟨p, hp⟩ : ∃ p, x.is[i]? = some p := ⟨x.is[i]'(by have := HM.out; omega), List.getElem?_eq_getElem _⟩
                      obtain ⟨q, hq⟩ : ∃ p, y.is[i]? = some p := ⟨y.is[i]'(by have := HM'.out; omega), List.getElem?_eq_getElem _⟩
                      obtain ⟨blk, off, rfl, hIb⟩ := items_at HII.out hp
                      obtain ⟨blk', off', rfl, hIb'⟩ := items_at HII'.out hq
                      obtain ⟨c0, c1, c2, c3, c4, g0, g1, g2, g3, g4, hcp⟩ := (HI.below hW _ _ _ hIb).get hp
                      obtain ⟨d0, d1, d2, d3, d4, f0, f1, f2, f3, f4, hcq⟩ := (HI.below hW _ _ _ hIb').get hq
                      have cQ : ∀ dd os, Calls Try.prog 17 #[.agg #[c0, c1, c2, c3, c4], .agg #[d0, d1, d2, d3, d4]] (Go.Sort.grow (redrawn wr dd) os) fun e w'' => e = .returned (.bool (p.same q)) ∧ ∃ z : Regrown, w'' = Go.Sort.grow (redrawn wr z.d) z.os :=
                        fun dd os => Calls.regrown_of (same_any _ p q (Nat.le_refl _) _ _ _ ⟨_, rfl, HC.below (below_regrown wr dd os) p _ hcp⟩ ⟨_, rfl, HC.below (below_regrown wr dd os) q _ hcq⟩)
                      have G0 := fun dd os => cell_regrown g0 dd os
                      have G1 := fun dd os => cell_regrown g1 dd os
                      have G2 := fun dd os => cell_regrown g2 dd os
                      have G3 := fun dd os => cell_regrown g3 dd os
                      have G4 := fun dd os => cell_regrown g4 dd os
                      have F0 := fun dd os => cell_regrown f0 dd os
                      have F1 := fun dd os => cell_regrown f1 dd os
                      have F2 := fun dd os => cell_regrown f2 dd os
                      have F3 := fun dd os => cell_regrown f3 dd os
                      have F4 := fun dd os => cell_regrown f4 dd os
                      have P4 := fun dd os => cell_regrown p4 dd os
                      have Q4 := fun dd os => cell_regrown q4 dd os
                      have HP := Lib.hid hp
                      have HQ := Lib.hid hq
                      clear hp hq hIb hIb' hcp hcq
                      by_cases hpq : p = q
                      · subst hpq
                        have HT := JV.same_yes p
                        go_wp2_with fail
                        refine wp_region_quiet_below (by kernel_rfl) (by kernel_rfl) ?_
                        repeat (quiet_step (exact cQ _ _))
                        refine wpQuiet_nil ?_
                        intro _ hw'
                        obtain ⟨⟨dq, osq⟩, hw''⟩ := hw'
                        subst hw''
                        go_wp2_with fail
                        go_roundw
                        case rel =>
                          refine ⟨true, i + 1, by first | rfl | rw [HT], by go_num, by omega, fun _ => ⟨(HS rfl).1, fun j z hj hz => ?_⟩, fun h => (by cases h), hW.trans ((below_regrown wr dq osq).mono hW.size)⟩
                          by_cases hji : j < i
                          · exact (HS rfl).2 j z hji hz
                          · obtain rfl : j = i := by omega
                            rw [HP.out] at hz
                            rw [HQ.out]
                            exact hz
                        case measure => simp [intOf]; omega
                      · have HT := JV.same_no hpq
                        have HN : Hid (x.same y = false) := JV.same_no fun h => by
                          have h1 := HP.out
                          rw [h, HQ.out] at h1
                          exact hpq (by simpa using h1.symm)
                        clear hpq
                        go_wp2_with fail
                        refine wp_region_quiet_below (by kernel_rfl) (by kernel_rfl) ?_
                        repeat (quiet_step (exact cQ _ _))
                        refine wpQuiet_nil ?_
                        intro _ hw'
                        obtain ⟨⟨dq, osq⟩, hw''⟩ := hw'
                        subst hw''
                        go_wp2_with fail
                        go_roundw
                        case rel => exact ⟨false, i + 1, by first | rfl | rw [HT], by go_num, by omega, fun h => (by cases h), fun _ => HN.out, hW.trans ((below_regrown wr dq osq).mono hW.size)⟩
                        case measure => simp [intOf]; omega
                    · have H2 : Bt c true (x.same y = true) := fun hc => JV.same_iff.2 (JV.ext (by have := HK.out; have := HK'.out; omega) (by rw [← HNn.out, ← HNn'.out]) (by rw [← HTt.out, ← HTt'.out]) (HS hc).1
                        (lists_eq (by rw [HM.out, HM'.out]) fun j z hz => (HS hc).2 j z (by
                          have h1 := (List.getElem?_eq_some_iff.1 hz).1
                          have h2 := HM.out
                          have h3 : ¬ (i : Int) < (m : Int) := fun h => hgo ⟨h, hc⟩
                          omega) hz))
                      have hcs : ((i : Int) < (m : Int) ∧ c = false) ∨ (¬ (i : Int) < (m : Int) ∧ c = false) ∨ (¬ (i : Int) < (m : Int) ∧ c = true) := by
                        by_cases hl : (i : Int) < (m : Int)
                        · cases c
                          · exact .inl ⟨hl, rfl⟩
                          · exact absurd ⟨hl, rfl⟩ hgo
                        · cases c
                          · exact .inr (.inl ⟨hl, rfl⟩)
                          · exact .inr (.inr ⟨hl, rfl⟩)
                      clear hgo HS
                      rcases hcs with ⟨hlt, rfl⟩ | ⟨hlt, rfl⟩ | ⟨hlt, rfl⟩
                      all_goals
                        first | (have hres := HF rfl) | (have hres := H2 rfl)
                        have HRes := Lib.hid hres
                        clear hres H2 HF
                        go_wp2_with fail
                        refine (CS.out wr _ BW.out HRes.out).mono ?_; rintro e w9 ⟨rfl, b9⟩
                        go_wp2_with fail
                        go_ret
                        exact ⟨rfl, C3.out.trans ((BW.out.trans (b9.mono BW.out.size)).mono C3.out.size)⟩
          · have hb : ((m : Int) == (m' : Int)) = false := beq_eq_false_iff_ne.2 (by omega)
            have HF : Hid (x.same y = false) := JV.same_no fun h => h5 (by rw [← HM.out, ← HM'.out, h])
            clear s1 s2
            go_wp2_with fail
            clear p0 p1 p2 p3 p4 q0 q1 q2 q3 q4
            go_loopw [5, 6] (fun cv iv wr => cv = .bool false ∧ iv = .int .i64 0 ∧ Below W3.heap.size W3 wr) (fun _ _ _ => 0)
            case atStart => exact ⟨rfl, rfl, B6.out⟩
            case round =>
              obtain ⟨rfl, rfl, hW⟩ := hrel
              have BW := Lib.hid hW
              obtain ⟨⟨p0, p1, p2, p3, p4⟩, _⟩ := (HV1.out _ hW).cells
              obtain ⟨⟨q0, q1, q2, q3, q4⟩, _⟩ := (HV2.out _ hW).cells
              by_cases hlt : (0 : Int) < (r : Int)
              all_goals
                go_wp2_with fail
                clear p0 p1 p2 p3 p4 q0 q1 q2 q3 q4
                go_loopw [5, 7] (fun cv iv w3 => cv = .bool false ∧ iv = .int .i64 0 ∧ Below W3.heap.size W3 w3) (fun _ _ _ => 0)
                case atStart => exact ⟨rfl, rfl, BW.out⟩
                case round =>
                  clear hlt hW BW
                  obtain ⟨rfl, rfl, hW⟩ := hrel
                  have BW := Lib.hid hW
                  obtain ⟨⟨p0, p1, p2, p3, p4⟩, _⟩ := (HV1.out _ hW).cells
                  obtain ⟨⟨q0, q1, q2, q3, q4⟩, _⟩ := (HV2.out _ hW).cells
                  by_cases hlt : (0 : Int) < (m : Int)
                  all_goals
                    go_wp2_with fail
                    refine (CS.out wr _ BW.out HF.out).mono ?_; rintro e w9 ⟨rfl, b9⟩
                    go_wp2_with fail
                    go_ret
                    exact ⟨rfl, C3.out.trans ((BW.out.trans (b9.mono BW.out.size)).mono C3.out.size)⟩
        · have hb : ((r : Int) == (r' : Int)) = false := beq_eq_false_iff_ne.2 (by omega)
          have HF : Hid (x.same y = false) := JV.same_no fun h => h4 (by rw [← HR.out, ← HR'.out, h])
          clear s1 s2
          go_wp2_with fail
          clear p0 p1 p2 p3 p4 q0 q1 q2 q3 q4
          go_loopw [5, 6] (fun cv iv wr => cv = .bool false ∧ iv = .int .i64 0 ∧ Below W3.heap.size W3 wr) (fun _ _ _ => 0)
          case atStart => exact ⟨rfl, rfl, B6.out⟩
          case round =>
            obtain ⟨rfl, rfl, hW⟩ := hrel
            have BW := Lib.hid hW
            obtain ⟨⟨p0, p1, p2, p3, p4⟩, _⟩ := (HV1.out _ hW).cells
            obtain ⟨⟨q0, q1, q2, q3, q4⟩, _⟩ := (HV2.out _ hW).cells
            by_cases hlt : (0 : Int) < (r : Int)
            all_goals
              go_wp2_with fail
              clear p0 p1 p2 p3 p4 q0 q1 q2 q3 q4
              go_loopw [5, 7] (fun cv iv w3 => cv = .bool false ∧ iv = .int .i64 0 ∧ Below W3.heap.size W3 w3) (fun _ _ _ => 0)
              case atStart => exact ⟨rfl, rfl, BW.out⟩
              case round =>
                clear hlt hW BW
                obtain ⟨rfl, rfl, hW⟩ := hrel
                have BW := Lib.hid hW
                obtain ⟨⟨p0, p1, p2, p3, p4⟩, _⟩ := (HV1.out _ hW).cells
                obtain ⟨⟨q0, q1, q2, q3, q4⟩, _⟩ := (HV2.out _ hW).cells
                by_cases hlt : (0 : Int) < (m : Int)
                all_goals
                  go_wp2_with fail
                  refine (CS.out wr _ BW.out HF.out).mono ?_; rintro e w9 ⟨rfl, b9⟩
                  go_wp2_with fail
                  go_ret
                  exact ⟨rfl, C3.out.trans ((BW.out.trans (b9.mono BW.out.size)).mono C3.out.size)⟩
      · have hb : ((S t).toList == (S t').toList) = false := by rw [s1, s2]; exact beq_eq_false_iff_ne.2 h3
        have HF : Hid (x.same y = false) := JV.same_no fun h => h3 (by rw [HTt.out, HTt'.out, h])
        clear s1 s2
        go_wp2_with fail
        clear p0 p1 p2 p3 p4 q0 q1 q2 q3 q4
        go_loopw [5, 6] (fun cv iv wr => cv = .bool false ∧ iv = .int .i64 0 ∧ Below W3.heap.size W3 wr) (fun _ _ _ => 0)
        case atStart => exact ⟨rfl, rfl, B6.out⟩
        case round =>
          obtain ⟨rfl, rfl, hW⟩ := hrel
          have BW := Lib.hid hW
          obtain ⟨⟨p0, p1, p2, p3, p4⟩, _⟩ := (HV1.out _ hW).cells
          obtain ⟨⟨q0, q1, q2, q3, q4⟩, _⟩ := (HV2.out _ hW).cells
          by_cases hlt : (0 : Int) < (r : Int)
          all_goals
            go_wp2_with fail
            clear p0 p1 p2 p3 p4 q0 q1 q2 q3 q4
            go_loopw [5, 7] (fun cv iv w3 => cv = .bool false ∧ iv = .int .i64 0 ∧ Below W3.heap.size W3 w3) (fun _ _ _ => 0)
            case atStart => exact ⟨rfl, rfl, BW.out⟩
            case round =>
              clear hlt hW BW
              obtain ⟨rfl, rfl, hW⟩ := hrel
              have BW := Lib.hid hW
              obtain ⟨⟨p0, p1, p2, p3, p4⟩, _⟩ := (HV1.out _ hW).cells
              obtain ⟨⟨q0, q1, q2, q3, q4⟩, _⟩ := (HV2.out _ hW).cells
              by_cases hlt : (0 : Int) < (m : Int)
              all_goals
                go_wp2_with fail
                refine (CS.out wr _ BW.out HF.out).mono ?_; rintro e w9 ⟨rfl, b9⟩
                go_wp2_with fail
                go_ret
                exact ⟨rfl, C3.out.trans ((BW.out.trans (b9.mono BW.out.size)).mono C3.out.size)⟩
    · have hb : (nI == nI') = false := beq_eq_false_iff_ne.2 h2
      have HF : Hid (x.same y = false) := JV.same_no fun h => h2 (by rw [HNn.out, HNn'.out, h])
      clear s1 s2
      go_wp2_with fail
      clear p0 p1 p2 p3 p4 q0 q1 q2 q3 q4
      go_loopw [5, 6] (fun cv iv wr => cv = .bool false ∧ iv = .int .i64 0 ∧ Below W3.heap.size W3 wr) (fun _ _ _ => 0)
      case atStart => exact ⟨rfl, rfl, B6.out⟩
      case round =>
        obtain ⟨rfl, rfl, hW⟩ := hrel
        have BW := Lib.hid hW
        obtain ⟨⟨p0, p1, p2, p3, p4⟩, _⟩ := (HV1.out _ hW).cells
        obtain ⟨⟨q0, q1, q2, q3, q4⟩, _⟩ := (HV2.out _ hW).cells
        by_cases hlt : (0 : Int) < (r : Int)
        all_goals
          go_wp2_with fail
          clear p0 p1 p2 p3 p4 q0 q1 q2 q3 q4
          go_loopw [5, 7] (fun cv iv w3 => cv = .bool false ∧ iv = .int .i64 0 ∧ Below W3.heap.size W3 w3) (fun _ _ _ => 0)
          case atStart => exact ⟨rfl, rfl, BW.out⟩
          case round =>
            clear hlt hW BW
            obtain ⟨rfl, rfl, hW⟩ := hrel
            have BW := Lib.hid hW
            obtain ⟨⟨p0, p1, p2, p3, p4⟩, _⟩ := (HV1.out _ hW).cells
            obtain ⟨⟨q0, q1, q2, q3, q4⟩, _⟩ := (HV2.out _ hW).cells
            by_cases hlt : (0 : Int) < (m : Int)
            all_goals
              go_wp2_with fail
              refine (CS.out wr _ BW.out HF.out).mono ?_; rintro e w9 ⟨rfl, b9⟩
              go_wp2_with fail
              go_ret
              exact ⟨rfl, C3.out.trans ((BW.out.trans (b9.mono BW.out.size)).mono C3.out.size)⟩
  · have hb : (kI == kI') = false := beq_eq_false_iff_ne.2 h1
    have HF : Hid (x.same y = false) := JV.same_no fun h => h1 (by rw [HK.out, HK'.out, h])
    clear s1 s2
    go_wp2_with fail
    clear p0 p1 p2 p3 p4 q0 q1 q2 q3 q4
    go_loopw [5, 6] (fun cv iv wr => cv = .bool false ∧ iv = .int .i64 0 ∧ Below W3.heap.size W3 wr) (fun _ _ _ => 0)
    case atStart => exact ⟨rfl, rfl, B6.out⟩
    case round =>
      obtain ⟨rfl, rfl, hW⟩ := hrel
      have BW := Lib.hid hW
      obtain ⟨⟨p0, p1, p2, p3, p4⟩, _⟩ := (HV1.out _ hW).cells
      obtain ⟨⟨q0, q1, q2, q3, q4⟩, _⟩ := (HV2.out _ hW).cells
      by_cases hlt : (0 : Int) < (r : Int)
      all_goals
        go_wp2_with fail
        clear p0 p1 p2 p3 p4 q0 q1 q2 q3 q4
        go_loopw [5, 7] (fun cv iv w3 => cv = .bool false ∧ iv = .int .i64 0 ∧ Below W3.heap.size W3 w3) (fun _ _ _ => 0)
        case atStart => exact ⟨rfl, rfl, BW.out⟩
        case round =>
          clear hlt hW BW
          obtain ⟨rfl, rfl, hW⟩ := hrel
          have BW := Lib.hid hW
          obtain ⟨⟨p0, p1, p2, p3, p4⟩, _⟩ := (HV1.out _ hW).cells
          obtain ⟨⟨q0, q1, q2, q3, q4⟩, _⟩ := (HV2.out _ hW).cells
          by_cases hlt : (0 : Int) < (m : Int)
          all_goals
            go_wp2_with fail
            refine (CS.out wr _ BW.out HF.out).mono ?_; rintro e w9 ⟨rfl, b9⟩
            go_wp2_with fail
            go_ret
            exact ⟨rfl, C3.out.trans ((BW.out.trans (b9.mono BW.out.size)).mono C3.out.size)⟩
end Go.Proofs.Ytcmalaabggohmaa
