/-
  What the program's Same comes to (slices.Equal, slices.EqualFunc).
-/
import Derived.Test.YtcmalaabggohmaaValRefSame
import Derived.Test.YtcmalaabggohmaaValCnt
import Derived.BigQuiet
import Derived.Deep.QuietTactic
namespace Go.Proofs.Ytcmalaabggohmaa
open Go.RowKit

/-- are two rows of values equal? -/
noncomputable def JV.sames (xs ys : List JV) : Bool := @decide (xs = ys) (Classical.propDecidable _)
theorem JV.sames_iff {xs ys : List JV} : JV.sames xs ys = true ↔ xs = ys := @decide_eq_true_iff (xs = ys) (Classical.propDecidable _)
theorem JV.sames_no {xs ys : List JV} (h : ¬ xs = ys) : JV.sames xs ys = false := by
  cases hc : JV.sames xs ys with
  | false => rfl
  | true => exact absurd (JV.sames_iff.1 hc) h
set_option maxHeartbeats 2000000 in
set_option maxRecDepth 3000 in
theorem equal_any (ns ns' : List (List UInt8)) (a a' : Option Addr) (ca ca' : Nat) (w : World) (hN : NS w a ns) (hN' : NS w a' ns') (hl : ns.length ≤ maxLen) :
    Calls Try.prog 38 #[.slice a ns.length ca, .slice a' ns'.length ca'] w fun e w' => e = .returned (.bool (decide (ns = ns'))) ∧ Below w.heap.size w w' := by
  obtain ⟨r, hr⟩ : ∃ m, ns.length = m := ⟨_, rfl⟩
  obtain ⟨r', hr'⟩ : ∃ m, ns'.length = m := ⟨_, rfl⟩
  have hr2 : (r : Int) ≤ 9223372036854775807 := by unfold maxLen at hl; omega
  rw [hr, hr']
  have HR := Lib.hid hr
  have HR' := Lib.hid hr'
  clear hr hr' hl
  by_cases h4 : r ≠ r'
  · have hb : ((r : Int) != (r' : Int)) = true := bne_iff_ne.2 (by omega)
    have HF : Hid (decide (ns = ns') = false) := decide_eq_false fun h => h4 (by rw [← HR.out, ← HR'.out, h])
    go_enter Try.func38, Try.ntmps38
    go_wp2_with fail
    go_ret
    exact ⟨ret_bool HF.out.symm, Below.refl _ _⟩
  obtain rfl : r = r' := Classical.not_not.1 h4
  clear h4
  go_enter Try.func38, Try.ntmps38
  go_wp2_with fail
  go_loopw [13] (fun iv wr => ∃ i : Nat, iv = .int .i64 (i : Int) ∧ i ≤ r ∧ Hid (∀ (j : Nat) (p : List UInt8), j < i → ns[j]? = some p → ns'[j]? = some p) ∧ Below w.heap.size w wr) (fun iv _ => r - (intOf iv).toNat)
  case atStart => exact ⟨0, rfl, Nat.zero_le _, fun j p h => by omega, Below.refl _ _⟩
  case round =>
    obtain ⟨i, rfl, hi, HS, hbr⟩ := hrel
    have a9 : ∀ n, Below wr.heap.size wr (wr.drewN n) := fun n => ⟨rfl, rfl, rfl, Nat.le_refl _, fun _ _ => rfl⟩
    by_cases hlt : (i : Int) < (r : Int)
    · obtain ⟨p, hp⟩ : ∃ p, ns[i]? = some p := ⟨ns[i]'(by have := HR.out; omega), List.getElem?_eq_getElem _⟩
      obtain ⟨q, hq⟩ : ∃ p, ns'[i]? = some p := ⟨ns'[i]'(by have := HR'.out; omega), List.getElem?_eq_getElem _⟩
      obtain ⟨bb, oo, rfl, g0⟩ := (hN.below hbr) i p hp
      obtain ⟨bb', oo', rfl, g1⟩ := (hN'.below hbr) i q hq
      have u1 := S_toList p
      have u2 := S_toList q
      have HP := Lib.hid hp
      have HQ := Lib.hid hq
      clear hp hq
      by_cases hpq : p = q
      · subst hpq
        go_wp2_with fail
        go_quiet (fail)
        go_wp2_with fail
        go_roundw
        case rel =>
          refine ⟨i + 1, by go_num, by omega, fun j z hj hz => ?_, hbr.trans ((a9 _).mono hbr.size)⟩
          by_cases hji : j < i
          · exact HS.out j z hji hz
          · obtain rfl : j = i := by omega
            rw [HP.out] at hz
            rw [HQ.out]
            exact hz
        case measure => simp [intOf]; omega
      · have hb : ((S p).toList == (S q).toList) = false := by rw [u1, u2]; exact beq_eq_false_iff_ne.2 hpq
        have hb' : (p == q) = false := beq_eq_false_iff_ne.2 hpq
        have HF : Hid (decide (ns = ns') = false) := decide_eq_false fun h => by
          have h1 := HP.out
          rw [h, HQ.out] at h1
          exact hpq (by simpa using h1.symm)
        clear hpq
        go_wp2_with fail
        go_quiet (fail)
        go_wp2_with fail
        go_ret
        exact ⟨ret_bool HF.out.symm, hbr.trans ((a9 _).mono hbr.size)⟩
    · obtain rfl : i = r := by omega
      have HT : Hid (decide (ns = ns') = true) := decide_eq_true (lists_eq (by rw [HR.out, HR'.out]) fun j z hz => HS.out j z (by have := (List.getElem?_eq_some_iff.1 hz).1; have := HR.out; omega) hz)
      go_wp2_with fail
      go_ret
      exact ⟨ret_bool HT.out.symm, hbr⟩
set_option maxHeartbeats 4000000 in
set_option maxRecDepth 3000 in
theorem equalFunc_any (xs ys : List JV) (cS : ∀ x y, x ∈ xs → ∀ (w : World) (v u : Value), HV w v x → HV w u y → Calls Try.prog 17 #[v, u] w fun e w' => e = .returned (.bool (x.same y)) ∧ Below w.heap.size w w')
    (b b' : Option Addr) (cb cb' : Nat) (w : World) (hI : xs = [] ∨ ∃ blk off, b = some ⟨blk, off, none⟩ ∧ HI w blk off xs) (hI' : ys = [] ∨ ∃ blk off, b' = some ⟨blk, off, none⟩ ∧ HI w blk off ys) (hl : xs.length ≤ maxLen) :
    Calls Try.prog 39 #[.slice b xs.length cb, .slice b' ys.length cb', .func (.func 17) #[] #[]] w fun e w' => e = .returned (.bool (JV.sames xs ys)) ∧ Below w.heap.size w w' := by
  obtain ⟨m, hm⟩ : ∃ m, xs.length = m := ⟨_, rfl⟩
  obtain ⟨m', hm'⟩ : ∃ m, ys.length = m := ⟨_, rfl⟩
  have hm2 : (m : Int) ≤ 9223372036854775807 := by unfold maxLen at hl; omega
  rw [hm, hm']
  have HM := Lib.hid hm
  have HM' := Lib.hid hm'
  have CS := Lib.hid cS
  clear hm hm' hl cS
  by_cases h5 : m ≠ m'
  · have hb : ((m : Int) != (m' : Int)) = true := bne_iff_ne.2 (by omega)
    have HF : Hid (JV.sames xs ys = false) := JV.sames_no fun h => h5 (by rw [← HM.out, ← HM'.out, h])
    go_enter Try.func39, Try.ntmps39
    go_wp2_with fail
    go_ret
    exact ⟨ret_bool HF.out.symm, Below.refl _ _⟩
  obtain rfl : m = m' := Classical.not_not.1 h5
  clear h5
  go_enter Try.func39, Try.ntmps39
  go_wp2_with fail
  go_loopw [17] (fun iv wr => ∃ i : Nat, iv = .int .i64 (i : Int) ∧ i ≤ m ∧ Hid (∀ (j : Nat) (p : JV), j < i → xs[j]? = some p → ys[j]? = some p) ∧ Below w.heap.size w wr) (fun iv _ => m - (intOf iv).toNat)
  case atStart => exact ⟨0, rfl, Nat.zero_le _, fun j p h => by omega, Below.refl _ _⟩
  case round =>
    obtain ⟨i, rfl, hi, HS, hbr⟩ := hrel
    by_cases hlt : (i : Int) < (m : Int)
    · obtain ⟨p, hp⟩ : ∃ p, xs[i]? = some p := ⟨xs[i]'(by have := HM.out; omega), List.getElem?_eq_getElem _⟩
      obtain ⟨q, hq⟩ : ∃ p, ys[i]? = some p := ⟨ys[i]'(by have := HM'.out; omega), List.getElem?_eq_getElem _⟩
      obtain ⟨blk, off, rfl, hII⟩ := items_at hI hp
      obtain ⟨blk', off', rfl, hII'⟩ := items_at hI' hq
      obtain ⟨c0, c1, c2, c3, c4, g0, g1, g2, g3, g4, hcp⟩ := (HI.below hbr _ _ _ hII).get hp
      obtain ⟨d0, d1, d2, d3, d4, f0, f1, f2, f3, f4, hcq⟩ := (HI.below hbr _ _ _ hII').get hq
      obtain ⟨ya, yb, yca, ycb, rfl, rfl, rfl, rfl, rfl⟩ := five hcp
      obtain ⟨za, zb, zca, zcb, rfl, rfl, rfl, rfl, rfl⟩ := five hcq
      obtain ⟨W1, hW1⟩ : ∃ W, W = wr.alloc (.cells #[.int .u8 (p.k : Int), .int .i64 p.n, .string (S p.t), .slice ya p.ns.length yca, .slice yb p.is.length ycb] 25) := ⟨_, rfl⟩
      have b1 : Below wr.heap.size wr W1 := by rw [hW1]; exact (Below.refl _ _).alloc (Nat.le_refl _) _
      have hk : ∀ {b o : Nat} {c : Value}, wr.cell? ⟨b, o, none⟩ = some c → W1.cell? ⟨b, o, none⟩ = some c := fun hg => (b1.cell (World.block_lt_of_cell? wr _ hg)).trans hg
      replace f0 := hk f0
      replace f1 := hk f1
      replace f2 := hk f2
      replace f3 := hk f3
      replace f4 := hk f4
      clear hk
      rw [hW1] at f0 f1 f2 f3 f4
      have b2 : Below wr.heap.size wr (W1.alloc (.cells #[.int .u8 (q.k : Int), .int .i64 q.n, .string (S q.t), .slice za q.ns.length zca, .slice zb q.is.length zcb] 25)) := b1.alloc b1.size _
      rw [hW1] at b2
      have hvp : HV ((wr.alloc (.cells #[.int .u8 (p.k : Int), .int .i64 p.n, .string (S p.t), .slice ya p.ns.length yca, .slice yb p.is.length ycb] 25)).alloc (.cells #[.int .u8 (q.k : Int), .int .i64 q.n, .string (S q.t), .slice za q.ns.length zca, .slice zb q.is.length zcb] 25)) (.agg #[.int .u8 (p.k : Int), .int .i64 p.n, .string (S p.t), .slice ya p.ns.length yca, .slice yb p.is.length ycb]) p := ⟨_, rfl, HC.below b2 p _ hcp⟩
      have hvq : HV ((wr.alloc (.cells #[.int .u8 (p.k : Int), .int .i64 p.n, .string (S p.t), .slice ya p.ns.length yca, .slice yb p.is.length ycb] 25)).alloc (.cells #[.int .u8 (q.k : Int), .int .i64 q.n, .string (S q.t), .slice za q.ns.length zca, .slice zb q.is.length zcb] 25)) (.agg #[.int .u8 (q.k : Int), .int .i64 q.n, .string (S q.t), .slice za q.ns.length zca, .slice zb q.is.length zcb]) q := ⟨_, rfl, HC.below b2 q _ hcq⟩
      have cP := CS.out p q (List.mem_of_getElem? hp) _ _ _ hvp hvq
      have HP := Lib.hid hp
      have HQ := Lib.hid hq
      clear hp hq hII hII' hcp hcq hW1 b1 hvp hvq
      by_cases hpq : p = q
      · have HT := JV.same_iff.2 hpq
        rw [HT] at cP
        have HPQ := Lib.hid hpq
        clear hpq HT
        go_wp2_with fail
        refine cP.mono ?_; rintro e w3 ⟨rfl, b3⟩
        go_wp2_with fail
        go_roundw
        case rel =>
          refine ⟨i + 1, by go_num, by omega, fun j z hj hz => ?_, hbr.trans ((b2.trans (b3.mono b2.size)).mono hbr.size)⟩
          by_cases hji : j < i
          · exact HS.out j z hji hz
          · obtain rfl : j = i := by omega
            rw [HP.out] at hz
            rw [HQ.out, ← HPQ.out]
            exact hz
        case measure => simp [intOf]; omega
      · have HT := JV.same_no hpq
        rw [HT] at cP
        have HF : Hid (JV.sames xs ys = false) := JV.sames_no fun h => by
          have h1 := HP.out
          rw [h, HQ.out] at h1
          exact hpq (by simpa using h1.symm)
        clear hpq HT
        go_wp2_with fail
        refine cP.mono ?_; rintro e w3 ⟨rfl, b3⟩
        go_wp2_with fail
        go_ret
        exact ⟨ret_bool HF.out.symm, hbr.trans ((b2.trans (b3.mono b2.size)).mono hbr.size)⟩
    · obtain rfl : i = m := by omega
      have HT : Hid (JV.sames xs ys = true) := JV.sames_iff.2 (lists_eq (by rw [HM.out, HM'.out]) fun j z hz => HS.out j z (by have := (List.getElem?_eq_some_iff.1 hz).1; have := HM.out; omega) hz)
      go_wp2_with fail
      go_ret
      exact ⟨ret_bool HT.out.symm, hbr⟩
theorem and5 {x y : JV} {b1 b2 b3 b4 b5 : Bool} (h1 : b1 = true ↔ x.k = y.k) (h2 : b2 = true ↔ x.n = y.n) (h3 : b3 = true ↔ x.t = y.t) (h4 : b4 = true ↔ x.ns = y.ns) (h5 : b5 = true ↔ x.is = y.is) :
    x.same y = (b1 && (b2 && (b3 && (b4 && b5)))) := by
  apply same_eq
  rw [JV.same_iff]
  simp only [Bool.and_eq_true, h1, h2, h3, h4, h5]
  exact ⟨fun h => by rw [h]; exact ⟨rfl, rfl, rfl, rfl, rfl⟩, fun ⟨a, b, c, d, e⟩ => JV.ext a b c d e⟩
set_option maxHeartbeats 4000000 in
set_option maxRecDepth 3000 in
theorem same_any : ∀ (K : Nat) (x y : JV), x.cnt ≤ K → ∀ (w : World) (v u : Value), HV w v x → HV w u y →
    Calls Try.prog 17 #[v, u] w fun e w' => e = .returned (.bool (x.same y)) ∧ Below w.heap.size w w' := by
  intro K
  induction K with
  | zero => intro x y h; have := x.cnt_pos; omega
  | succ K ih =>
  intro x y hK w v u hv hu
  obtain ⟨cs, rfl, hc⟩ := hv
  obtain ⟨a, b, ca, cb, rfl, hB, hN, hI⟩ := hc.form
  obtain ⟨cs, rfl, hc'⟩ := hu
  obtain ⟨a', b', ca', cb', rfl, hB', hN', hI'⟩ := hc'.form
  have cE := fun w1 (h : Below w.heap.size w w1) => equal_any x.ns y.ns a a' ca ca' w1 (hN.below h) (hN'.below h) hB.2.2.2.1
  have cF := fun w1 (h : Below w.heap.size w w1) => equalFunc_any x.is y.is (fun p q hp => ih p q (by
    obtain ⟨i, hi⟩ := List.getElem?_of_mem hp
    have := JV.cnt_item hi
    omega)) b b' cb cb' w1 (hI.imp id fun ⟨blk, off, h1, h2⟩ => ⟨blk, off, h1, HI.below h _ _ _ h2⟩) (hI'.imp id fun ⟨blk, off, h1, h2⟩ => ⟨blk, off, h1, HI.below h _ _ _ h2⟩) hB.2.2.2.2.1
  obtain ⟨m, hm⟩ : ∃ m, x.is.length = m := ⟨_, rfl⟩
  obtain ⟨m', hm'⟩ : ∃ m, y.is.length = m := ⟨_, rfl⟩
  obtain ⟨r, hr⟩ : ∃ m, x.ns.length = m := ⟨_, rfl⟩
  obtain ⟨r', hr'⟩ : ∃ m, y.ns.length = m := ⟨_, rfl⟩
  rw [hr, hr'] at cE
  rw [hm, hm'] at cF
  rw [hm, hm', hr, hr']
  obtain ⟨kI, hk⟩ : ∃ z : Int, z = (x.k : Int) := ⟨_, rfl⟩
  obtain ⟨kI', hk'⟩ : ∃ z : Int, z = (y.k : Int) := ⟨_, rfl⟩
  obtain ⟨nI, hn⟩ : ∃ z : Int, z = x.n := ⟨_, rfl⟩
  obtain ⟨nI', hn'⟩ : ∃ z : Int, z = y.n := ⟨_, rfl⟩
  obtain ⟨t, ht⟩ : ∃ z, z = x.t := ⟨_, rfl⟩
  obtain ⟨t', ht'⟩ : ∃ z, z = y.t := ⟨_, rfl⟩
  rw [← hk, ← hk', ← hn, ← hn', ← ht, ← ht']
  obtain ⟨B1, hB1⟩ : ∃ B, (kI == kI') = B := ⟨_, rfl⟩
  obtain ⟨B2, hB2⟩ : ∃ B, (nI == nI') = B := ⟨_, rfl⟩
  obtain ⟨B3, hB3⟩ : ∃ B, ((S t).toList == (S t').toList) = B := ⟨_, rfl⟩
  obtain ⟨B4, hB4⟩ : ∃ B, decide (x.ns = y.ns) = B := ⟨_, rfl⟩
  obtain ⟨B5, hB5⟩ : ∃ B, JV.sames x.is y.is = B := ⟨_, rfl⟩
  rw [hB4] at cE
  rw [hB5] at cF
  have HA : Hid (x.same y = (B1 && (B2 && (B3 && (B4 && B5))))) := and5 (by rw [← hB1, beq_iff_eq]; omega) (by rw [← hB2, beq_iff_eq, hn, hn']) (by rw [← hB3, beq_iff_eq, S_toList, S_toList, ht, ht']) (by rw [← hB4, decide_eq_true_iff]) (by rw [← hB5, JV.sames_iff])
  clear hm hm' hr hr' hk hk' hn hn' ht ht' hc hc' hB hB' hB4 hB5 hI hI' hN hN' ih
  have b1 : Below w.heap.size w ((w.alloc (.cells #[.int .u8 kI, .int .i64 nI, .string (S t), .slice a r ca, .slice b m cb] 25)).alloc (.cells #[.int .u8 kI', .int .i64 nI', .string (S t'), .slice a' r' ca', .slice b' m' cb'] 25)) := ((Below.refl _ _).alloc (Nat.le_refl _) _).alloc (by simp) _
  have CE := cE _ b1
  cases B1 with
  | false =>
    go_enter Try.func17, Try.ntmps17
    go_wp2_with fail
    go_ret
    exact ⟨ret_bool HA.out.symm, b1⟩
  | true =>
  cases B2 with
  | false =>
    go_enter Try.func17, Try.ntmps17
    go_wp2_with fail
    go_ret
    exact ⟨ret_bool HA.out.symm, b1⟩
  | true =>
  cases B3 with
  | false =>
    go_enter Try.func17, Try.ntmps17
    go_wp2_with fail
    go_ret
    exact ⟨ret_bool HA.out.symm, b1⟩
  | true =>
  cases B4 with
  | false =>
    go_enter Try.func17, Try.ntmps17
    go_wp2_with fail
    refine CE.mono ?_; rintro e w3 ⟨rfl, b3⟩
    go_wp2_with fail
    go_ret
    exact ⟨ret_bool HA.out.symm, b1.trans (b3.mono b1.size)⟩
  | true =>
    go_enter Try.func17, Try.ntmps17
    go_wp2_with fail
    refine CE.mono ?_; rintro e w3 ⟨rfl, b3⟩
    have b4 := b1.trans (b3.mono b1.size)
    have v1 := (VAt.new w (.int .u8 kI) (.int .i64 nI) (.string (S t)) (.slice a r ca) (.slice b m cb)).below ((Below.refl _ _).alloc (Nat.le_refl _) (.cells #[.int .u8 kI', .int .i64 nI', .string (S t'), .slice a' r' ca', .slice b' m' cb'] 25))
    have v2 := VAt.new (w.alloc (.cells #[.int .u8 kI, .int .i64 nI, .string (S t), .slice a r ca, .slice b m cb] 25)) (.int .u8 kI') (.int .i64 nI') (.string (S t')) (.slice a' r' ca') (.slice b' m' cb')
    rw [show (w.alloc (.cells #[.int .u8 kI, .int .i64 nI, .string (S t), .slice a r ca, .slice b m cb] 25)).heap.size = w.heap.size + 1 by simp] at v2
    have v1 := v1.below b3
    have v2 := v2.below b3
    obtain ⟨⟨p0, p1, p2, p3, p4⟩, _⟩ := v1.cells
    obtain ⟨⟨q0, q1, q2, q3, q4⟩, _⟩ := v2.cells
    have CF := cF _ b4
    go_wp2_with fail
    refine CF.mono ?_; rintro e w5 ⟨rfl, b5⟩
    go_wp2_with fail
    go_ret
    exact ⟨ret_bool (by rw [HA.out]; rfl), b4.trans (b5.mono b4.size)⟩
end Go.Proofs.Ytcmalaabggohmaa
