/-
  What the document's Same comes to: are two values equal?
-/
import Derived.Test.YtpifbmcgadjhbaaDoorValRefCnt
import Derived.BigQuiet
import Derived.Deep.QuietTactic
import Derived.Lib.QuietBelow
namespace Go.Proofs.YtpifbmcgadjhbaaDoor
open Go.RowKit

/-- are two values equal? -/
noncomputable def JV.same (x y : JV) : Bool := @decide (x = y) (Classical.propDecidable _)
theorem JV.same_iff {x y : JV} : x.same y = true ↔ x = y := @decide_eq_true_iff (x = y) (Classical.propDecidable _)
theorem JV.same_no {x y : JV} (h : x ≠ y) : x.same y = false := by
  cases hc : x.same y with
  | false => rfl
  | true => exact absurd (JV.same_iff.1 hc) h
theorem JV.same_yes (x : JV) : x.same x = true := JV.same_iff.2 rfl
theorem JV.ext {x y : JV} (h1 : x.k = y.k) (h2 : x.n = y.n) (h3 : x.t = y.t) (h4 : x.ns = y.ns) (h5 : x.is = y.is) : x = y := by
  match x, y with
  | .mk k n t ns is, .mk k' n' t' ns' is' =>
    have h1 : k = k' := h1
    have h2 : n = n' := h2
    have h3 : t = t' := h3
    have h4 : ns = ns' := h4
    have h5 : is = is' := h5
    rw [h1, h2, h3, h4, h5]
theorem lists_eq {α : Type} {xs ys : List α} (hl : xs.length = ys.length) (h : ∀ (j : Nat) (x : α), xs[j]? = some x → ys[j]? = some x) : xs = ys := by
  apply List.ext_getElem?
  intro j
  by_cases hj : j < xs.length
  · rw [List.getElem?_eq_getElem hj, h j _ (List.getElem?_eq_getElem hj)]
  · rw [List.getElem?_eq_none (by omega), List.getElem?_eq_none (by omega)]
theorem same_eq {A B : Bool} (h : A = true ↔ B = true) : A = B := by cases A <;> cases B <;> simp_all
theorem bnot_ret {b c : Bool} (h : b = c) : Ending.returned (.bool b) = .returned (.bool c) := by rw [h]
set_option maxHeartbeats 8000000 in
set_option maxRecDepth 3000 in
theorem refSame_any : ∀ (K : Nat) (x y : JV), x.cnt ≤ K → ∀ (w : World) (v u : Value), HV w v x → HV w u y →
    Calls Tryd.prog 12 #[v, u] w fun e w' => e = .returned (.bool (x.same y)) ∧ Below w.heap.size w w' := by
  intro K
  induction K with
  | zero => intro x y h; have := x.cnt_pos; omega
  | succ K ih =>
  intro x y hK w v u hv hu
  obtain ⟨cs, rfl, hc⟩ := hv
  obtain ⟨a, b, ca, cb, rfl, hB, hN, hI⟩ := hc.form
  obtain ⟨cs, rfl, hc'⟩ := hu
  obtain ⟨a', b', ca', cb', rfl, hB', hN', hI'⟩ := hc'.form
  obtain ⟨m, hm⟩ : ∃ m, x.is.length = m := ⟨_, rfl⟩
  obtain ⟨m', hm'⟩ : ∃ m, y.is.length = m := ⟨_, rfl⟩
  obtain ⟨r, hr⟩ : ∃ m, x.ns.length = m := ⟨_, rfl⟩
  obtain ⟨r', hr'⟩ : ∃ m, y.ns.length = m := ⟨_, rfl⟩
  have hm2 : (m : Int) ≤ 9223372036854775807 := by have := hB.2.2.2.2.1; unfold maxLen at this; omega
  have hr2 : (r : Int) ≤ 9223372036854775807 := by have := hB.2.2.2.1; unfold maxLen at this; omega
  rw [hm, hm', hr, hr']
  obtain ⟨kI, hk⟩ : ∃ z : Int, z = (x.k : Int) := ⟨_, rfl⟩
  obtain ⟨kI', hk'⟩ : ∃ z : Int, z = (y.k : Int) := ⟨_, rfl⟩
  obtain ⟨nI, hn⟩ : ∃ z : Int, z = x.n := ⟨_, rfl⟩
  obtain ⟨nI', hn'⟩ : ∃ z : Int, z = y.n := ⟨_, rfl⟩
  obtain ⟨t, ht⟩ : ∃ z, z = x.t := ⟨_, rfl⟩
  obtain ⟨t', ht'⟩ : ∃ z, z = y.t := ⟨_, rfl⟩
  rw [← hk, ← hk', ← hn, ← hn', ← ht, ← ht']
  have HM := Lib.hid hm
  have HM' := Lib.hid hm'
  have HR := Lib.hid hr
  have HR' := Lib.hid hr'
  have HK := Lib.hid hk
  have HK' := Lib.hid hk'
  have HNn := Lib.hid hn
  have HNn' := Lib.hid hn'
  have HTt := Lib.hid ht
  have HTt' := Lib.hid ht'
  have s1 := S_toList t
  have s2 := S_toList t'
  clear hm hm' hr hr' hk hk' hn hn' ht ht' hc hc' hB hB'
  obtain ⟨W1, hW1⟩ : ∃ W, W = w.alloc (.cells #[.int .u8 kI, .int .i64 nI, .string (S t), .slice a r ca, .slice b m cb] 25) := ⟨_, rfl⟩
  obtain ⟨W2, hW2⟩ : ∃ W, W = W1.alloc (.cells #[.int .u8 kI', .int .i64 nI', .string (S t'), .slice a' r' ca', .slice b' m' cb'] 25) := ⟨_, rfl⟩
  have b1 : Below w.heap.size w W1 := by rw [hW1]; exact (Below.refl _ _).alloc (Nat.le_refl _) _
  have b12 : Below W1.heap.size W1 W2 := by rw [hW2]; exact (Below.refl _ _).alloc (Nat.le_refl _) _
  have V1 : VAt w.heap.size W1 (.int .u8 kI) (.int .i64 nI) (.string (S t)) (.slice a r ca) (.slice b m cb) := by rw [hW1]; exact VAt.new ..
  have V2 : VAt W1.heap.size W2 (.int .u8 kI') (.int .i64 nI') (.string (S t')) (.slice a' r' ca') (.slice b' m' cb') := by rw [hW2]; exact VAt.new ..
  have V1 := V1.below b12
  have c2 := b1.trans (b12.mono b1.size)
  have e1 : W1.heap.size = w.heap.size + 1 := by rw [hW1]; simp
  rw [e1] at V2
  clear b1 b12 e1
  by_cases h1 : kI ≠ kI'
  · have hb : (kI != kI') = true := bne_iff_ne.2 h1
    have HF : Hid (x.same y = false) := JV.same_no fun h => h1 (by rw [HK.out, HK'.out, h])
    go_enter Tryd.func12, Tryd.ntmps12
    go_wp2_with fail
    rw [← hW1, ← hW2]
    go_ret
    exact ⟨ret_bool HF.out.symm, c2⟩
  obtain rfl : kI = kI' := Classical.not_not.1 h1
  clear h1
  by_cases h2 : nI ≠ nI'
  · have hb : (nI != nI') = true := bne_iff_ne.2 h2
    have HF : Hid (x.same y = false) := JV.same_no fun h => h2 (by rw [HNn.out, HNn'.out, h])
    go_enter Tryd.func12, Tryd.ntmps12
    go_wp2_with fail
    rw [← hW1, ← hW2]
    go_ret
    exact ⟨ret_bool HF.out.symm, c2⟩
  obtain rfl : nI = nI' := Classical.not_not.1 h2
  clear h2
  by_cases h3 : t ≠ t'
  · have hb : ((S t).toList == (S t').toList) = false := by rw [s1, s2]; exact beq_eq_false_iff_ne.2 h3
    have HF : Hid (x.same y = false) := JV.same_no fun h => h3 (by rw [HTt.out, HTt'.out, h])
    go_enter Tryd.func12, Tryd.ntmps12
    go_wp2_with fail
    rw [← hW1, ← hW2]
    go_ret
    exact ⟨ret_bool HF.out.symm, c2⟩
  obtain rfl : t = t' := Classical.not_not.1 h3
  clear h3
  by_cases h4 : r ≠ r'
  · have hb : ((r : Int) != (r' : Int)) = true := bne_iff_ne.2 (by omega)
    have HF : Hid (x.same y = false) := JV.same_no fun h => h4 (by rw [← HR.out, ← HR'.out, h])
    go_enter Tryd.func12, Tryd.ntmps12
    go_wp2_with fail
    rw [← hW1, ← hW2]
    go_ret
    exact ⟨ret_bool HF.out.symm, c2⟩
  obtain rfl : r = r' := Classical.not_not.1 h4
  clear h4
  by_cases h5 : m ≠ m'
  · have hb : ((m : Int) != (m' : Int)) = true := bne_iff_ne.2 (by omega)
    have HF : Hid (x.same y = false) := JV.same_no fun h => h5 (by rw [← HM.out, ← HM'.out, h])
    go_enter Tryd.func12, Tryd.ntmps12
    go_wp2_with fail
    rw [← hW1, ← hW2]
    go_ret
    exact ⟨ret_bool HF.out.symm, c2⟩
  obtain rfl : m = m' := Classical.not_not.1 h5
  clear h5
  go_enter Tryd.func12, Tryd.ntmps12
  go_wp2_with fail
  rw [← hW1, ← hW2]
  clear hW1 hW2
  go_loopw [5] (fun iv wr => ∃ i : Nat, iv = .int .i64 (i : Int) ∧ i ≤ r ∧ Hid (∀ (j : Nat) (p : List UInt8), j < i → x.ns[j]? = some p → y.ns[j]? = some p) ∧ Below W2.heap.size W2 wr) (fun iv _ => r - (intOf iv).toNat)
  case atStart => exact ⟨0, rfl, Nat.zero_le _, fun j p h => by omega, Below.refl _ _⟩
  case round =>
    obtain ⟨i, rfl, hi, HS, hW⟩ := hrel
    have hbr : Hid (Below w.heap.size w wr) := c2.trans (hW.mono c2.size)
    obtain ⟨⟨p0, p1, p2, p3, p4⟩, _⟩ := (V1.below hW).cells
    obtain ⟨⟨q0, q1, q2, q3, q4⟩, _⟩ := (V2.below hW).cells
    have a9 : ∀ n, Below wr.heap.size wr (wr.drewN n) := fun n => ⟨rfl, rfl, rfl, Nat.le_refl _, fun _ _ => rfl⟩
    by_cases hlt : (i : Int) < (r : Int)
    · obtain ⟨p, hp⟩ : ∃ p, x.ns[i]? = some p := ⟨x.ns[i]'(by have := HR.out; omega), List.getElem?_eq_getElem _⟩
      obtain ⟨q, hq⟩ : ∃ p, y.ns[i]? = some p := ⟨y.ns[i]'(by have := HR'.out; omega), List.getElem?_eq_getElem _⟩
      obtain ⟨bb, oo, rfl, g0⟩ := (hN.below hbr.out) i p hp
      obtain ⟨bb', oo', rfl, g1⟩ := (hN'.below hbr.out) i q hq
      have u1 := S_toList p
      have u2 := S_toList q
      have HP := Lib.hid hp
      have HQ := Lib.hid hq
      clear hp hq
      by_cases hpq : p = q
      · subst hpq
        go_wp2_with fail
        go_quiet (fail)
        go_wp2_with fail
        go_roundw
        case rel =>
          refine ⟨i + 1, by go_num, by omega, fun j z hj hz => ?_, hW.trans ((a9 _).mono hW.size)⟩
          by_cases hji : j < i
          · exact HS.out j z hji hz
          · obtain rfl : j = i := by omega
            rw [HP.out] at hz
            rw [HQ.out]
            exact hz
        case measure => simp [intOf]; omega
      · have hb : ((S p).toList == (S q).toList) = false := by rw [u1, u2]; exact beq_eq_false_iff_ne.2 hpq
        have hb' : (p == q) = false := beq_eq_false_iff_ne.2 hpq
        have HF : Hid (x.same y = false) := JV.same_no fun h => by
          have h1 := HP.out
          rw [h, HQ.out] at h1
          exact hpq (by simpa using h1.symm)
        clear hpq
        go_wp2_with fail
        go_quiet (fail)
        go_wp2_with fail
        go_ret
        exact ⟨ret_bool HF.out.symm, hbr.out.trans ((a9 _).mono hbr.out.size)⟩
    · obtain rfl : i = r := by omega
      have hns : Hid (x.ns = y.ns) := lists_eq (by rw [HR.out, HR'.out]) fun j z hz => HS.out j z (by have := (List.getElem?_eq_some_iff.1 hz).1; have := HR.out; omega) hz
      have V1 := V1.below hW
      have V2 := V2.below hW
      clear HS hlt a9 hi
      go_wp2_with fail
      clear p0 p1 p2 p3 p4 q0 q1 q2 q3 q4
      obtain ⟨W5, rfl⟩ : ∃ W5 : World, W5 = wr := ⟨_, rfl⟩
      go_loopw [6] (fun iv w3 => ∃ i : Nat, iv = .int .i64 (i : Int) ∧ i ≤ m ∧ Hid (∀ (j : Nat) (p : JV), j < i → x.is[j]? = some p → y.is[j]? = some p) ∧ Below W5.heap.size W5 w3) (fun iv _ => m - (intOf iv).toNat)
      case atStart => exact ⟨0, rfl, Nat.zero_le _, fun j p h => by omega, Below.refl _ _⟩
      case round =>
        obtain ⟨i, rfl, hi, HS, hW3⟩ := hrel
        have hb3 : Hid (Below w.heap.size w wr) := hbr.out.trans (hW3.mono hbr.out.size)
        have V1 := V1.below hW3
        have V2 := V2.below hW3
        obtain ⟨⟨p0, p1, p2, p3, p4⟩, _⟩ := V1.cells
        obtain ⟨⟨q0, q1, q2, q3, q4⟩, _⟩ := V2.cells
        by_cases hlt : (i : Int) < (m : Int)
        · obtain ⟨p, hp⟩ : ∃ p, x.is[i]? = some p := ⟨x.is[i]'(by have := HM.out; omega), List.getElem?_eq_getElem _⟩
          obtain ⟨q, hq⟩ : ∃ p, y.is[i]? = some p := ⟨y.is[i]'(by have := HM'.out; omega), List.getElem?_eq_getElem _⟩
          obtain ⟨blk, off, rfl, hII⟩ := items_at hI hp
          obtain ⟨blk', off', rfl, hII'⟩ := items_at hI' hq
          obtain ⟨c0, c1, c2, c3, c4, g0, g1, g2, g3, g4, hcp⟩ := (HI.below hb3.out _ _ _ hII).get hp
          obtain ⟨d0, d1, d2, d3, d4, f0, f1, f2, f3, f4, hcq⟩ := (HI.below hb3.out _ _ _ hII').get hq
          have hpc := JV.cnt_item hp
          have cQ : ∀ dd os, Calls Tryd.prog 12 #[.agg #[c0, c1, c2, c3, c4], .agg #[d0, d1, d2, d3, d4]] (Go.Sort.grow (redrawn wr dd) os) fun e w'' => e = .returned (.bool (p.same q)) ∧ ∃ z : Regrown, w'' = Go.Sort.grow (redrawn wr z.d) z.os :=
            fun dd os => Calls.regrown_of (ih p q (by omega) _ _ _ ⟨_, rfl, HC.below (below_regrown wr dd os) p _ hcp⟩ ⟨_, rfl, HC.below (below_regrown wr dd os) q _ hcq⟩)
          have G0 := fun dd os => cell_regrown g0 dd os
          have G1 := fun dd os => cell_regrown g1 dd os
          have G2 := fun dd os => cell_regrown g2 dd os
          have G3 := fun dd os => cell_regrown g3 dd os
          have G4 := fun dd os => cell_regrown g4 dd os
          have F0 := fun dd os => cell_regrown f0 dd os
          have F1 := fun dd os => cell_regrown f1 dd os
          have F2 := fun dd os => cell_regrown f2 dd os
          have F3 := fun dd os => cell_regrown f3 dd os
          have F4 := fun dd os => cell_regrown f4 dd os
          have P4 := fun dd os => cell_regrown p4 dd os
          have Q4 := fun dd os => cell_regrown q4 dd os
          have HP := Lib.hid hp
          have HQ := Lib.hid hq
          clear hp hq hII hII' hcp hcq hpc
          by_cases hpq : p = q
          · subst hpq
            have HT := JV.same_yes p
            go_wp2_with fail
            refine wp_region_quiet_below (by kernel_rfl) (by kernel_rfl) ?_
            repeat (quiet_step (exact cQ _ _))
            refine wpQuiet_nil ?_
            intro _ hw'
            obtain ⟨⟨dq, osq⟩, hw''⟩ := hw'
            subst hw''
            go_wp2_with fail
            go_roundw
            case rel =>
              refine ⟨i + 1, by go_num, by omega, fun j z hj hz => ?_, hW3.trans ((below_regrown wr dq osq).mono hW3.size)⟩
              by_cases hji : j < i
              · exact HS.out j z hji hz
              · obtain rfl : j = i := by omega
                rw [HP.out] at hz
                rw [HQ.out]
                exact hz
            case measure => simp [intOf]; omega
          · have HT := JV.same_no hpq
            have HF : Hid (x.same y = false) := JV.same_no fun h => by
              have h1 := HP.out
              rw [h, HQ.out] at h1
              exact hpq (by simpa using h1.symm)
            clear hpq
            go_wp2_with fail
            refine wp_region_quiet_below (by kernel_rfl) (by kernel_rfl) ?_
            repeat (quiet_step (exact cQ _ _))
            refine wpQuiet_nil ?_
            intro _ hw'
            obtain ⟨⟨dq, osq⟩, hw''⟩ := hw'
            subst hw''
            go_wp2_with fail
            go_ret
            exact ⟨ret_bool HF.out.symm, hb3.out.trans ((below_regrown wr dq osq).mono hb3.out.size)⟩
        · obtain rfl : i = m := by omega
          have HT : Hid (x.same y = true) := JV.same_iff.2 (JV.ext (by have := HK.out; have := HK'.out; omega) (by rw [← HNn.out, ← HNn'.out]) (by rw [← HTt.out, ← HTt'.out]) hns.out
            (lists_eq (by rw [HM.out, HM'.out]) fun j z hz => HS.out j z (by have := (List.getElem?_eq_some_iff.1 hz).1; have := HM.out; omega) hz))
          go_wp2_with fail
          go_ret
          exact ⟨ret_bool HT.out.symm, hb3.out⟩
end Go.Proofs.YtpifbmcgadjhbaaDoor
