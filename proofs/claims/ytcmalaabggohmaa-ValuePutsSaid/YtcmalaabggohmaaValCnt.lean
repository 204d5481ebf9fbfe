/-
  What the program's Count, nests and Depth come to.
-/
import Derived.Test.YtcmalaabggohmaaValRefDep
namespace Go.Proofs.Ytcmalaabggohmaa
open Go.RowKit

theorem five {w : World} {c0 c1 c2 c3 c4 : Value} {y : JV} (h : HC w [c0, c1, c2, c3, c4] y) : ∃ a b ca cb, c0 = .int .u8 (y.k : Int) ∧ c1 = .int .i64 y.n ∧ c2 = .string (S y.t) ∧ c3 = .slice a y.ns.length ca ∧ c4 = .slice b y.is.length cb := by
  obtain ⟨a, b, ca, cb, hcs, _⟩ := h.form
  simp only [List.cons.injEq, and_true] at hcs
  exact ⟨a, b, ca, cb, hcs.1, hcs.2.1, hcs.2.2.1, hcs.2.2.2.1, hcs.2.2.2.2⟩
set_option maxHeartbeats 1000000 in
set_option maxRecDepth 3000 in
theorem count_any : ∀ (K : Nat) (x : JV), x.cnt ≤ K → x.cnt ≤ 90000 → ∀ (w : World) (v : Value), HV w v x →
    Calls Try.prog 19 #[v] w fun e w' => e = .returned (.int .i64 (x.cnt : Int)) ∧ Below w.heap.size w w' := by
  intro K
  induction K with
  | zero => intro x h; have := x.cnt_pos; omega
  | succ K ih =>
  intro x hK hx w v hv
  obtain ⟨cs, rfl, hc⟩ := hv
  obtain ⟨a, b, ca, cb, rfl, hB, hN, hI⟩ := hc.form
  obtain ⟨m, hm⟩ : ∃ m, x.is.length = m := ⟨_, rfl⟩
  have hm2 : (m : Int) ≤ 90000 := by have := JV.len_le x.is; have := x.cnt_eq; omega
  rw [hm]
  have HM := Lib.hid hm
  have HCn := Lib.hid x.cnt_eq
  clear hm hc
  obtain ⟨W1, hW1⟩ : ∃ W, W = w.alloc (.cells #[.int .u8 (x.k : Int), .int .i64 x.n, .string (S x.t), .slice a x.ns.length ca, .slice b m cb] 25) := ⟨_, rfl⟩
  have b1 : Below w.heap.size w W1 := by rw [hW1]; exact (Below.refl _ _).alloc (Nat.le_refl _) _
  go_enter Try.func19, Try.ntmps19
  go_wp2_with fail
  rw [← hW1]
  clear hW1
  go_loopw [3, 9] (fun nv iv wr => ∃ i : Nat, iv = .int .i64 (i : Int) ∧ i ≤ m ∧ nv = .int .i64 ((1 + JV.cnts (x.is.take i) : Nat) : Int) ∧ Below W1.heap.size W1 wr) (fun _ iv _ => m - (intOf iv).toNat)
  case atStart => exact ⟨0, rfl, Nat.zero_le _, rfl, Below.refl _ _⟩
  case round =>
    obtain ⟨i, rfl, hi, rfl, hW⟩ := hrel
    have hbr : Hid (Below w.heap.size w wr) := b1.trans (hW.mono b1.size)
    by_cases hlt : (i : Int) < (m : Int)
    · obtain ⟨y, hy⟩ : ∃ y, x.is[i]? = some y := ⟨x.is[i]'(by have := HM.out; omega), List.getElem?_eq_getElem _⟩
      obtain ⟨blk, off, rfl, hII⟩ := items_at hI hy
      obtain ⟨c0, c1, c2, c3, c4, g0, g1, g2, g3, g4, hcy⟩ := (HI.below hbr.out _ _ _ hII).get hy
      obtain ⟨ya, yb, yca, ycb, rfl, rfl, rfl, rfl, rfl⟩ := five hcy
      have hcnt := x.cnt_eq
      have hs := JV.cnts_take_le x.is (i + 1)
      have hsn : Hid (JV.cnts (x.is.take (i + 1)) = JV.cnts (x.is.take i) + y.cnt) := by rw [Hid, JV.take_snoc hy, JV.cnts_snoc]
      have hyc := JV.cnts_get hy
      have cY := fun w v h => ih y (by omega) (by omega) w v h
      have HY0 : Hid (∀ w', Below wr.heap.size wr w' → HV w' (.agg #[.int .u8 (y.k : Int), .int .i64 y.n, .string (S y.t), .slice ya y.ns.length yca, .slice yb y.is.length ycb]) y) := fun w' h => ⟨_, rfl, HC.below h y _ hcy⟩
      obtain ⟨A, hA⟩ : ∃ A : Nat, 1 + JV.cnts (x.is.take i) = A := ⟨_, rfl⟩
      obtain ⟨Y, hY⟩ : ∃ Y : Nat, y.cnt = Y := ⟨_, rfl⟩
      have hAY : (A : Int) + (Y : Int) ≤ 90000 := by have := hsn.out; omega
      rw [hA]
      rw [hY] at cY
      have HA := Lib.hid hA
      have HY := Lib.hid hY
      clear hcnt hs hyc hy hcy hII hA hY
      go_wp2_with fail
      have b9 : Below wr.heap.size wr (wr.alloc (.cells #[.int .u8 (y.k : Int), .int .i64 y.n, .string (S y.t), .slice ya y.ns.length yca, .slice yb y.is.length ycb] 25)) := (Below.refl _ _).alloc (Nat.le_refl _) _
      refine (cY _ _ (HY0.out _ b9)).mono ?_; rintro e w2 ⟨rfl, b2⟩
      have b8 := b9.trans (b2.mono b9.size)
      go_wp2_with fail
      go_roundw
      case rel =>
        refine ⟨i + 1, by go_num, by omega, ?_, hW.trans (b8.mono hW.size)⟩
        rw [hsn.out, ← HA.out, HY.out]
        congr 1
        omega
      case measure => simp [intOf]; omega
    · obtain rfl : i = m := by omega
      have hall : x.is.take i = x.is := by rw [← HM.out]; exact List.take_length
      rw [hall, ← HCn.out]
      go_wp2_with fail
      go_ret
      exact ⟨rfl, hbr.out⟩
theorem nests_any (w : World) (x : JV) (a b : Option Addr) (ca cb : Nat) (l m : Nat) (kI n : Int) (t : List UInt8) (hk : kI = (x.k : Int)) {c : Bool} (hcc : c = decide (x.k = 4 ∨ x.k = 5)) :
    Calls Try.prog 40 #[.agg #[.int .u8 kI, .int .i64 n, .string (S t), .slice a l ca, .slice b m cb]] w fun e w' => e = .returned (.bool c) ∧ Below w.heap.size w w' := by
  have b1 : Below w.heap.size w (w.alloc (.cells #[.int .u8 kI, .int .i64 n, .string (S t), .slice a l ca, .slice b m cb] 25)) := (Below.refl _ _).alloc (Nat.le_refl _) _
  have HK := Lib.hid hk
  have HC := Lib.hid hcc
  clear hk hcc
  by_cases h4 : kI = 4
  · subst h4
    go_enter Try.func40, Try.ntmps40
    go_wp2_with fail
    go_ret
    refine ⟨ret_bool ?_, b1⟩
    rw [HC.out, eq_comm, decide_eq_true_iff]
    have := HK.out
    omega
  · have hb : (kI == 4) = false := beq_eq_false_iff_ne.2 h4
    by_cases h5 : kI = 5
    · subst h5
      clear hb h4
      go_enter Try.func40, Try.ntmps40
      go_wp2_with fail
      go_ret
      refine ⟨ret_bool ?_, b1⟩
      rw [HC.out, eq_comm, decide_eq_true_iff]
      have := HK.out
      omega
    · have hb : (kI == 5) = false := beq_eq_false_iff_ne.2 h5
      go_enter Try.func40, Try.ntmps40
      go_wp2_with fail
      go_ret
      refine ⟨ret_bool ?_, b1⟩
      rw [HC.out, eq_comm, decide_eq_false_iff_not]
      have := HK.out
      omega
set_option maxHeartbeats 2000000 in
set_option maxRecDepth 3000 in
theorem depth_any : ∀ (K : Nat) (x : JV), x.cnt ≤ K → x.cnt ≤ 90000 → ∀ (w : World) (v : Value), HV w v x →
    Calls Try.prog 21 #[v] w fun e w' => e = .returned (.int .i64 (x.dep : Int)) ∧ Below w.heap.size w w' := by
  intro K
  induction K with
  | zero => intro x h; have := x.cnt_pos; omega
  | succ K ih =>
  intro x hK hx w v hv
  obtain ⟨cs, rfl, hc⟩ := hv
  obtain ⟨a, b, ca, cb, rfl, hB, hN, hI⟩ := hc.form
  obtain ⟨m, hm⟩ : ∃ m, x.is.length = m := ⟨_, rfl⟩
  have hm2 : (m : Int) ≤ 90000 := by have := JV.len_le x.is; have := x.cnt_eq; omega
  rw [hm]
  have HM := Lib.hid hm
  have HCn := Lib.hid x.dep_eq
  obtain ⟨kI, hk⟩ : ∃ z : Int, z = (x.k : Int) := ⟨_, rfl⟩
  have cN := fun w c hc => nests_any w x a b ca cb x.ns.length m kI x.n x.t hk (c := c) hc
  rw [← hk]
  have HK := Lib.hid hk
  clear hm hc hk
  obtain ⟨W1, hW1⟩ : ∃ W, W = w.alloc (.cells #[.int .u8 kI, .int .i64 x.n, .string (S x.t), .slice a x.ns.length ca, .slice b m cb] 25) := ⟨_, rfl⟩
  have V1 : VAt w.heap.size W1 (.int .u8 kI) (.int .i64 x.n) (.string (S x.t)) (.slice a x.ns.length ca) (.slice b m cb) := by rw [hW1]; exact VAt.new ..
  have b1 : Below w.heap.size w W1 := by rw [hW1]; exact (Below.refl _ _).alloc (Nat.le_refl _) _
  by_cases hkk : x.k = 4 ∨ x.k = 5
  · have HCn : Hid (x.dep = JV.deps x.is + 1) := by rw [Hid, HCn.out, if_pos hkk]
    replace cN := fun w => cN w true (by rw [eq_comm, decide_eq_true_iff]; exact hkk)
    go_enter Try.func21, Try.ntmps21
    go_wp2_with fail
    rw [← hW1]
    refine (cN _).mono ?_; rintro e W2 ⟨rfl, b12⟩
    have V1 := V1.below b12
    have b2 := b1.trans (b12.mono b1.size)
    obtain ⟨⟨p0, p1, p2, p3, p4⟩, _⟩ := V1.cells
    clear hW1 b1 b12 V1
    go_wp2_with fail
    go_loopw [3, 12] (fun nv iv wr => ∃ i : Nat, iv = .int .i64 (i : Int) ∧ i ≤ m ∧ nv = .int .i64 ((JV.deps (x.is.take i) : Nat) : Int) ∧ Below W2.heap.size W2 wr) (fun _ iv _ => m - (intOf iv).toNat)
    case atStart => exact ⟨0, rfl, Nat.zero_le _, rfl, Below.refl _ _⟩
    case round =>
      obtain ⟨i, rfl, hi, rfl, hW⟩ := hrel
      have hbr : Hid (Below w.heap.size w wr) := b2.trans (hW.mono b2.size)
      by_cases hlt : (i : Int) < (m : Int)
      · obtain ⟨y, hy⟩ : ∃ y, x.is[i]? = some y := ⟨x.is[i]'(by have := HM.out; omega), List.getElem?_eq_getElem _⟩
        obtain ⟨blk, off, rfl, hII⟩ := items_at hI hy
        obtain ⟨c0, c1, c2, c3, c4, g0, g1, g2, g3, g4, hcy⟩ := (HI.below hbr.out _ _ _ hII).get hy
        obtain ⟨ya, yb, yca, ycb, rfl, rfl, rfl, rfl, rfl⟩ := five hcy
        have hcnt := x.cnt_eq
        have hs := JV.deps_take_le x.is i
        have hs2 := JV.deps_le x.is
        have hsn : Hid (JV.deps (x.is.take (i + 1)) = max (JV.deps (x.is.take i)) y.dep) := by rw [Hid, JV.take_snoc hy, JV.deps_snoc]
        have hyc := JV.cnts_get hy
        have hyd := y.dep_le
        have cY := fun w v h => ih y (by omega) (by omega) w v h
        have HY0 : Hid (∀ w', Below wr.heap.size wr w' → HV w' (.agg #[.int .u8 (y.k : Int), .int .i64 y.n, .string (S y.t), .slice ya y.ns.length yca, .slice yb y.is.length ycb]) y) := fun w' h => ⟨_, rfl, HC.below h y _ hcy⟩
        obtain ⟨A, hA⟩ : ∃ A : Nat, JV.deps (x.is.take i) = A := ⟨_, rfl⟩
        obtain ⟨Y, hY⟩ : ∃ Y : Nat, y.dep = Y := ⟨_, rfl⟩
        rw [hA]
        rw [hY] at cY
        have HA := Lib.hid hA
        have HY := Lib.hid hY
        obtain ⟨AI, hAI⟩ : ∃ z : Int, z = (A : Int) := ⟨_, rfl⟩
        obtain ⟨YI, hYI⟩ : ∃ z : Int, z = (Y : Int) := ⟨_, rfl⟩
        rw [← hAI]
        rw [← hYI] at cY
        have HAI := Lib.hid hAI
        have HYI := Lib.hid hYI
        have b9 : Below wr.heap.size wr (wr.alloc (.cells #[.int .u8 (y.k : Int), .int .i64 y.n, .string (S y.t), .slice ya y.ns.length yca, .slice yb y.is.length ycb] 25)) := (Below.refl _ _).alloc (Nat.le_refl _) _
        clear hcnt hs hs2 hyc hyd hy hcy hII hA hY hAI hYI
        by_cases hle : AI ≤ YI
        · go_wp2_with fail
          refine (cY _ _ (HY0.out _ b9)).mono ?_; rintro e w2 ⟨rfl, b2'⟩
          have b8 := b9.trans (b2'.mono b9.size)
          go_wp2_with fail
          go_roundw
          case rel =>
            refine ⟨i + 1, by go_num, by omega, ?_, hW.trans (b8.mono hW.size)⟩
            rw [hsn.out, HA.out, HY.out]
            congr 1
            have := HAI.out
            have := HYI.out
            omega
          case measure => simp [intOf]; omega
        · go_wp2_with fail
          refine (cY _ _ (HY0.out _ b9)).mono ?_; rintro e w2 ⟨rfl, b2'⟩
          have b8 := b9.trans (b2'.mono b9.size)
          go_wp2_with fail
          go_roundw
          case rel =>
            refine ⟨i + 1, by go_num, by omega, ?_, hW.trans (b8.mono hW.size)⟩
            rw [hsn.out, HA.out, HY.out]
            congr 1
            have := HAI.out
            have := HYI.out
            omega
          case measure => simp [intOf]; omega
      · obtain rfl : i = m := by omega
        have hall : x.is.take i = x.is := by rw [← HM.out]; exact List.take_length
        have hdb : (JV.deps x.is : Int) ≤ 90000 := by have := JV.deps_le x.is; have := x.cnt_eq; omega
        rw [hall]
        obtain ⟨D, hD⟩ : ∃ D, JV.deps x.is = D := ⟨_, rfl⟩
        rw [hD] at hdb ⊢
        have HD := Lib.hid hD
        clear hD
        go_wp2_with fail
        go_ret
        exact ⟨ret_int (by rw [HCn.out, HD.out]; omega), hbr.out⟩
  · have HCn : Hid (x.dep = 0) := by rw [Hid, HCn.out, if_neg hkk]
    replace cN := fun w => cN w false (by rw [eq_comm, decide_eq_false_iff_not]; exact hkk)
    go_enter Try.func21, Try.ntmps21
    go_wp2_with fail
    rw [← hW1]
    refine (cN _).mono ?_; rintro e W2 ⟨rfl, b12⟩
    have b2 := b1.trans (b12.mono b1.size)
    go_wp2_with fail
    go_ret
    exact ⟨ret_int (by rw [HCn.out]; rfl), b2⟩
end Go.Proofs.Ytcmalaabggohmaa
