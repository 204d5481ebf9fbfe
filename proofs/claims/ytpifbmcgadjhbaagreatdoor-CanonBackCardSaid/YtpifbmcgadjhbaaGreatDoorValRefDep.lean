/-
  What the document's Depth comes to.
-/
import Derived.Test.YtpifbmcgadjhbaaGreatDoorValRefCnt
namespace Go.Proofs.YtpifbmcgadjhbaaGreatDoor
open Go.RowKit

theorem JV.dep_eq (x : JV) : dep x = if x.k = 4 ∨ x.k = 5 then deps x.is + 1 else 0 := by
  match x with
  | .mk k n t ns is => rw [dep]; rfl
mutual
theorem JV.dep_le : ∀ x : JV, dep x ≤ cnt x
  | .mk k n t ns is => by
    have := JV.deps_le is
    rw [dep, cnt]
    split <;> omega
theorem JV.deps_le : ∀ xs : List JV, deps xs ≤ cnts xs
  | [] => Nat.zero_le _
  | x :: xs => by
    have := JV.dep_le x
    have := JV.deps_le xs
    rw [deps, cnts]
    omega
end
theorem JV.deps_take_le : ∀ (xs : List JV) (i : Nat), deps (xs.take i) ≤ deps xs
  | [], i => by rw [List.take_nil]; exact Nat.le_refl _
  | x :: xs, 0 => by rw [List.take_zero]; unfold deps; omega
  | x :: xs, i + 1 => by
    have := JV.deps_take_le xs i
    rw [List.take_succ_cons, deps, deps]
    omega
set_option maxHeartbeats 2000000 in
set_option maxRecDepth 3000 in
theorem refDepth_any : ∀ (K : Nat) (x : JV), x.cnt ≤ K → x.cnt ≤ 90000 → ∀ (w : World) (v : Value), HV w v x →
    Calls Tryz.prog 34 #[v] w fun e w' => e = .returned (.int .i64 (x.dep : Int)) ∧ Below w.heap.size w w' := by
  intro K
  induction K with
  | zero => intro x h; have := x.cnt_pos; omega
  | succ K ih =>
  intro x hK hx w v hv
  obtain ⟨cs, rfl, hc⟩ := hv
  obtain ⟨a, b, ca, cb, rfl, hB, hN, hI⟩ := hc.form
  obtain ⟨m, hm⟩ : ∃ m, x.is.length = m := ⟨_, rfl⟩
  have hm2 : (m : Int) ≤ 90000 := by have := JV.len_le x.is; have := x.cnt_eq; omega
  rw [hm]
  have HM := Lib.hid hm
  have HCn := Lib.hid x.dep_eq
  obtain ⟨kI, hk⟩ : ∃ z : Int, z = (x.k : Int) := ⟨_, rfl⟩
  rw [← hk]
  have HK := Lib.hid hk
  clear hm hc hk
  obtain ⟨W1, hW1⟩ : ∃ W, W = w.alloc (.cells #[.int .u8 kI, .int .i64 x.n, .string (S x.t), .slice a x.ns.length ca, .slice b m cb] 26) := ⟨_, rfl⟩
  have V1 : VAt w.heap.size W1 (.int .u8 kI) (.int .i64 x.n) (.string (S x.t)) (.slice a x.ns.length ca) (.slice b m cb) := by rw [hW1]; exact VAt.new ..
  have b1 : Below w.heap.size w W1 := by rw [hW1]; exact (Below.refl _ _).alloc (Nat.le_refl _) _
  by_cases hkk : kI = 4 ∨ kI = 5
  · have HCn : Hid (x.dep = JV.deps x.is + 1) := by rw [Hid, HCn.out, if_pos (by have := HK.out; omega)]
    have hb4 : kI = 4 ∧ (kI != 4) = false ∨ kI = 5 ∧ (kI != 4) = true ∧ (kI != 5) = false := by
      rcases hkk with rfl | rfl
      · exact .inl ⟨rfl, rfl⟩
      · exact .inr ⟨rfl, rfl, rfl⟩
    have hb4 : (kI != 4) = false ∨ (kI != 4) = true ∧ (kI != 5) = false := by
      rcases hb4 with ⟨_, h⟩ | ⟨_, h⟩
      · exact .inl h
      · exact .inr h
    clear hkk
    rcases hb4 with h4 | ⟨h4, h5⟩
    all_goals
      go_enter Tryz.func34, Tryz.ntmps34
      go_wp2_with fail
      rw [← hW1]
      clear hW1
      go_loopw [3, 4] (fun nv iv wr => ∃ i : Nat, iv = .int .i64 (i : Int) ∧ i ≤ m ∧ nv = .int .i64 ((JV.deps (x.is.take i) : Nat) : Int) ∧ Below W1.heap.size W1 wr) (fun _ iv _ => m - (intOf iv).toNat)
      case atStart => exact ⟨0, rfl, Nat.zero_le _, rfl, Below.refl _ _⟩
      case round =>
        obtain ⟨i, rfl, hi, rfl, hW⟩ := hrel
        have V2 := V1.below hW
        obtain ⟨⟨p0, p1, p2, p3, p4⟩, _⟩ := V2.cells
        have hbr : Hid (Below w.heap.size w wr) := b1.trans (hW.mono b1.size)
        by_cases hlt : (i : Int) < (m : Int)
        · obtain ⟨y, hy⟩ : ∃ y, x.is[i]? = some y := ⟨x.is[i]'(by have := HM.out; omega), List.getElem?_eq_getElem _⟩
          obtain ⟨blk, off, rfl, hII⟩ := items_at hI hy
          obtain ⟨c0, c1, c2, c3, c4, g0, g1, g2, g3, g4, hcy⟩ := (HI.below hbr.out _ _ _ hII).get hy
          have hcnt := x.cnt_eq
          have hs := JV.deps_take_le x.is i
          have hs2 := JV.deps_le x.is
          have hsn : Hid (JV.deps (x.is.take (i + 1)) = max (JV.deps (x.is.take i)) y.dep) := by rw [Hid, JV.take_snoc hy, JV.deps_snoc]
          have hyc := JV.cnts_get hy
          have hyd := y.dep_le
          have cY := ih y (by omega) (by omega) wr _ ⟨_, rfl, hcy⟩
          obtain ⟨A, hA⟩ : ∃ A : Nat, JV.deps (x.is.take i) = A := ⟨_, rfl⟩
          obtain ⟨Y, hY⟩ : ∃ Y : Nat, y.dep = Y := ⟨_, rfl⟩
          rw [hA]
          rw [hY] at cY
          have HA := Lib.hid hA
          have HY := Lib.hid hY
          obtain ⟨AI, hAI⟩ : ∃ z : Int, z = (A : Int) := ⟨_, rfl⟩
          obtain ⟨YI, hYI⟩ : ∃ z : Int, z = (Y : Int) := ⟨_, rfl⟩
          rw [← hAI]
          rw [← hYI] at cY
          have HAI := Lib.hid hAI
          have HYI := Lib.hid hYI
          clear hcnt hs hs2 hyc hyd hy hcy hII hA hY hAI hYI
          by_cases hle : AI ≤ YI
          · go_wp2_with fail
            refine cY.mono ?_; rintro e w2 ⟨rfl, b2⟩
            go_wp2_with fail
            go_roundw
            case rel =>
              refine ⟨i + 1, by go_num, by omega, ?_, hW.trans (b2.mono hW.size)⟩
              rw [hsn.out, HA.out, HY.out]
              congr 1
              have := HAI.out
              have := HYI.out
              omega
            case measure => simp [intOf]; omega
          · go_wp2_with fail
            refine cY.mono ?_; rintro e w2 ⟨rfl, b2⟩
            go_wp2_with fail
            go_roundw
            case rel =>
              refine ⟨i + 1, by go_num, by omega, ?_, hW.trans (b2.mono hW.size)⟩
              rw [hsn.out, HA.out, HY.out]
              congr 1
              have := HAI.out
              have := HYI.out
              omega
            case measure => simp [intOf]; omega
        · obtain rfl : i = m := by omega
          have hall : x.is.take i = x.is := by rw [← HM.out]; exact List.take_length
          have hdb : (JV.deps x.is : Int) ≤ 90000 := by have := JV.deps_le x.is; have := x.cnt_eq; omega
          rw [hall]
          obtain ⟨D, hD⟩ : ∃ D, JV.deps x.is = D := ⟨_, rfl⟩
          rw [hD] at hdb ⊢
          have HD := Lib.hid hD
          clear hD
          go_wp2_with fail
          go_ret
          exact ⟨ret_int (by rw [HCn.out, HD.out]; rfl), hbr.out⟩
  · have h4 : (kI != 4) = true := bne_iff_ne.2 (fun h => hkk (.inl h))
    have h5 : (kI != 5) = true := bne_iff_ne.2 (fun h => hkk (.inr h))
    have HCn : Hid (x.dep = 0) := by rw [Hid, HCn.out, if_neg (by have := HK.out; omega)]
    clear hkk
    go_enter Tryz.func34, Tryz.ntmps34
    go_wp2_with fail
    rw [← hW1]
    go_ret
    exact ⟨ret_int (by rw [HCn.out]; rfl), b1⟩
end Go.Proofs.YtpifbmcgadjhbaaGreatDoor
