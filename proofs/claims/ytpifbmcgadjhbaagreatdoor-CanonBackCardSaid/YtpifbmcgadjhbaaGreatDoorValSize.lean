/-
  How much a value has; what the laws' size and Long come to.
-/
import Derived.Test.YtpifbmcgadjhbaaGreatDoorValRefCnt
namespace Go.Proofs.YtpifbmcgadjhbaaGreatDoor
open Go.RowKit

namespace JV
def wn : List (List UInt8) → Nat
  | [] => 0
  | x :: r => 2 + x.length + wn r
mutual
/-- how much a value has -/
def wt : JV → Nat
  | .mk _ _ t ns is => 4 + t.length + wn ns + wts is
def wts : List JV → Nat
  | [] => 0
  | x :: xs => wt x + wts xs
end
theorem wn_snoc : ∀ (xs : List (List UInt8)) (x : List UInt8), wn (xs ++ [x]) = wn xs + (2 + x.length)
  | [], x => by simp [wn]
  | y :: ys, x => by
    rw [List.cons_append, wn, wn, wn_snoc ys x]
    omega
theorem wts_snoc : ∀ (xs : List JV) (x : JV), wts (xs ++ [x]) = wts xs + wt x
  | [], x => by simp [wts]
  | y :: ys, x => by
    rw [List.cons_append, wts, wts, wts_snoc ys x]
    omega
theorem wt_eq (x : JV) : wt x = 4 + x.t.length + wn x.ns + wts x.is := by
  match x with
  | .mk k n t ns is => rw [wt]; rfl
theorem wts_get : ∀ {xs : List JV} {i : Nat} {x : JV}, xs[i]? = some x → wt x ≤ wts xs
  | [], i, x, h => by simp at h
  | y :: ys, 0, x, h => by
    obtain rfl : y = x := by simpa using h
    unfold wts
    omega
  | y :: ys, i + 1, x, h => by
    have := wts_get (show ys[i]? = some x by simpa using h)
    unfold wts
    omega
theorem wn_get : ∀ {xs : List (List UInt8)} {i : Nat} {x : List UInt8}, xs[i]? = some x → 2 + x.length ≤ wn xs
  | [], i, x, h => by simp at h
  | y :: ys, 0, x, h => by
    obtain rfl : y = x := by simpa using h
    unfold wn
    omega
  | y :: ys, i + 1, x, h => by
    have := wn_get (show ys[i]? = some x by simpa using h)
    unfold wn
    omega
theorem wn_len : ∀ xs : List (List UInt8), 2 * xs.length ≤ wn xs
  | [] => Nat.zero_le _
  | x :: xs => by
    have := wn_len xs
    rw [List.length_cons, wn]
    omega
mutual
theorem cnt_wt : ∀ x : JV, 4 * cnt x ≤ wt x
  | .mk k n t ns is => by
    have := cnts_wt is
    rw [cnt, wt]
    omega
theorem cnts_wt : ∀ xs : List JV, 4 * cnts xs ≤ wts xs
  | [] => Nat.zero_le _
  | x :: xs => by
    have := cnt_wt x
    have := cnts_wt xs
    rw [cnts, wts]
    omega
end
theorem take_snoc' {α : Type} {xs : List α} {i : Nat} {x : α} (h : xs[i]? = some x) : xs.take (i + 1) = xs.take i ++ [x] := by
  rw [List.take_add_one, h]
  rfl
end JV
set_option maxHeartbeats 4000000 in
set_option maxRecDepth 20000 in
theorem size_any : ∀ (K : Nat) (xs : List JV), JV.cnts xs ≤ K → ∀ (w : World) (b : Option Addr) (cb d : Nat), d ≤ 201 → xs.length ≤ maxLen → (xs = [] ∨ ∃ blk off, b = some ⟨blk, off, none⟩ ∧ HI w blk off xs) →
    Calls Tryz.prog 31 #[.slice b xs.length cb, .int .i64 (d : Int)] w fun e w' => (∃ Z : Nat, e = .returned (.int .i64 (Z : Int)) ∧ (Z < 20000 → Z = JV.wts xs) ∧ Z ≤ 100000 * (203 - d)) ∧ w = w' := by
  intro K
  induction K with
  | zero =>
    intro xs hK w b cb d hd hl hI
    have hx0 : xs = [] := by
      have := JV.len_le xs
      exact List.length_eq_zero_iff.1 (by omega)
    subst hx0
    rw [List.length_nil]
    go_enter Tryz.func31, Tryz.ntmps31
    go_wp2_with fail
    go_loopw [5, 6] (fun nv iv wr => nv = .int .i64 0 ∧ iv = .int .i64 0 ∧ w = wr) (fun _ _ _ => 0)
    case atStart => exact ⟨rfl, rfl, rfl⟩
    case round =>
      obtain ⟨rfl, rfl, rfl⟩ := hrel
      go_wp2_with fail
      go_ret
      exact ⟨⟨0, rfl, fun _ => rfl, Nat.zero_le _⟩, rfl⟩
  | succ K ih =>
  intro xs hK w b cb d hd hl hI
  obtain ⟨m, hm⟩ : ∃ m, xs.length = m := ⟨_, rfl⟩
  have hm2 : (m : Int) ≤ 9223372036854775807 := by unfold maxLen at hl; omega
  rw [hm]
  have HM := Lib.hid hm
  clear hm hl
  go_enter Tryz.func31, Tryz.ntmps31
  go_wp2_with fail
  go_loopw [5, 6] (fun nv iv wr => ∃ i n : Nat, iv = .int .i64 (i : Int) ∧ i ≤ m ∧ nv = .int .i64 (n : Int) ∧ Hid (n < 20000 → n = JV.wts (xs.take i)) ∧ n ≤ 100000 * (203 - d) ∧ w = wr) (fun _ iv _ => m - (intOf iv).toNat)
  case atStart => exact ⟨0, 0, rfl, Nat.zero_le _, rfl, fun _ => by rw [List.take_zero]; rfl, Nat.zero_le _, rfl⟩
  case round =>
    obtain ⟨i, n, rfl, hi, rfl, HN, hn, rfl⟩ := hrel
    by_cases hlt : (i : Int) < (m : Int)
    · by_cases hn2 : (n : Int) < 20000
      · obtain ⟨y, hy⟩ : ∃ y, xs[i]? = some y := ⟨xs[i]'(by have := HM.out; omega), List.getElem?_eq_getElem _⟩
        obtain ⟨blk, off, rfl, hII⟩ := items_at hI hy
        obtain ⟨c0, c1, c2, c3, c4, g0, g1, g2, g3, g4, hcy⟩ := hII.get hy
        obtain ⟨a', b', ca', cb', hcs, hB, hNS, hI'⟩ := hcy.form
        simp only [List.cons.injEq, and_true] at hcs
        obtain ⟨rfl, rfl, rfl, rfl, rfl⟩ := hcs
        obtain ⟨r, hr⟩ : ∃ r, y.ns.length = r := ⟨_, rfl⟩
        have hr2 : (r : Int) ≤ 9223372036854775807 := by have := hB.2.2.2.1; unfold maxLen at this; omega
        obtain ⟨tl, htl⟩ : ∃ tl, y.t.length = tl := ⟨_, rfl⟩
        obtain ⟨tI, htI⟩ : ∃ tI : Int, tI = (tl : Int) := ⟨_, rfl⟩
        have zt : ((S y.t).size : Int) = tI := by rw [S_size, htl, htI]
        have HTI := Lib.hid htI
        have cI : Hid (d ≤ 200 → Calls Tryz.prog 31 #[.slice b' y.is.length cb', .int .i64 ((d : Int) + 1)] w fun e w' => (∃ Z : Nat, e = .returned (.int .i64 (Z : Int)) ∧ (Z < 20000 → Z = JV.wts y.is) ∧ Z ≤ 100000 * (203 - (d + 1))) ∧ w = w') := fun h => by
          have hc1 := JV.cnts_get hy
          have hc2 := y.cnt_eq
          have := ih y.is (by omega) w b' cb' (d + 1) (by omega) hB.2.2.2.2.1 hI'
          rwa [show ((d + 1 : Nat) : Int) = (d : Int) + 1 by omega] at this
        have HW : Hid (JV.wts (xs.take (i + 1)) = JV.wts (xs.take i) + (4 + tl + JV.wn y.ns + JV.wts y.is)) := by rw [Hid, JV.take_snoc' hy, JV.wts_snoc, JV.wt_eq, htl]
        rw [hr] at g3
        have HR := Lib.hid hr
        clear hy hII hI hB hI' hcy hr htl htI
        have hT0 : 0 ≤ tI := by have := HTI.out; omega
        obtain ⟨T, hT⟩ : ∃ T : Nat, (tI < 20000 ∧ T = tl) ∨ (¬ tI < 20000 ∧ T = 20000) := by
          by_cases h : tI < 20000
          · exact ⟨_, .inl ⟨h, rfl⟩⟩
          · exact ⟨_, .inr ⟨h, rfl⟩⟩
        rcases hT with ⟨hT, hTe⟩ | ⟨hT, hTe⟩
        all_goals
          have hTl : T ≤ 20000 := by have := HTI.out; omega
          have HTT : Hid (T < 20000 → T = tl) := fun h => by omega
          have HTE := Lib.hid hTe
          clear hTe
          go_wp2_with fail
          go_loopw [5, 7] (fun nv kv w7 => ∃ k nn : Nat, kv = .int .i64 (k : Int) ∧ k ≤ r ∧ nv = .int .i64 (nn : Int) ∧ Hid (nn < 20000 → nn = JV.wts (xs.take i) + 4 + tl + JV.wn (y.ns.take k)) ∧ nn ≤ 60100 ∧ w = w7) (fun _ kv _ => r - (intOf kv).toNat)
          case atStart => exact ⟨0, n + 4 + T, rfl, Nat.zero_le _, by congr 1; have := HTI.out; have := HTE.out; omega, fun h => by have := HN.out (by omega); have := HTT.out; rw [List.take_zero, JV.wn]; omega, by omega, rfl⟩
          case round =>
            obtain ⟨k, nn, rfl, hk, rfl, HK, hnn, rfl⟩ := hrel
            by_cases hkl : (k : Int) < (r : Int) ∧ (nn : Int) < 20000
            · obtain ⟨hkl, hnl⟩ := hkl
              obtain ⟨z, hz⟩ : ∃ z, y.ns[k]? = some z := ⟨y.ns[k]'(by have := HR.out; omega), List.getElem?_eq_getElem _⟩
              obtain ⟨bb, oo, rfl, gz⟩ := hNS k z hz
              obtain ⟨zI, hzI⟩ : ∃ zI : Int, zI = (z.length : Int) := ⟨_, rfl⟩
              have zz : ((S z).size : Int) = zI := by rw [S_size, hzI]
              have HZI := Lib.hid hzI
              have hz0 : 0 ≤ zI := by omega
              clear hzI
              have hzn : Hid (JV.wn (y.ns.take (k + 1)) = JV.wn (y.ns.take k) + (2 + z.length)) := by rw [Hid, JV.take_snoc' hz, JV.wn_snoc]
              clear hz
              by_cases hzl : zI < 20000
              · go_wp2_with fail
                go_roundw
                case rel => exact ⟨k + 1, nn + 2 + z.length, by go_num, by omega, by congr 1; have := HZI.out; omega, fun h => by have := HK.out (by omega); rw [hzn.out]; omega, by have := HZI.out; omega, by first | trivial | rfl⟩
                case measure => simp [intOf]; omega
              · go_wp2_with fail
                go_roundw
                case rel => exact ⟨k + 1, nn + 2 + 20000, by go_num, by omega, by go_num, fun h => by omega, by have := HZI.out; omega, by first | trivial | rfl⟩
                case measure => simp [intOf]; omega
            · have hx : ¬ (k : Int) < (r : Int) ∨ ((k : Int) < (r : Int) ∧ ¬ (nn : Int) < 20000) := by omega
              have HE : Hid (nn < 20000 → nn = JV.wts (xs.take i) + 4 + tl + JV.wn y.ns) := fun h => by
                have h1 := HK.out h
                have hkr : k = r := by omega
                have hall : y.ns.take k = y.ns := by rw [hkr, ← HR.out]; exact List.take_length
                rwa [hall] at h1
              clear hkl HK
              by_cases hd2 : (200 : Int) < (d : Int)
              · rcases hx with hx | ⟨hx, hx2⟩
                all_goals
                  go_wp2_with fail
                  go_ret
                  exact ⟨⟨20000, rfl, fun h => by omega, by omega⟩, rfl⟩
              · have cY := cI.out (by omega)
                rcases hx with hx | ⟨hx, hx2⟩
                all_goals
                  go_wp2_with fail
                  refine cY.mono ?_; rintro e w9 ⟨⟨Z, rfl, hZ, hZ2⟩, rfl⟩
                  have HZ := Lib.hid hZ
                  clear hZ
                  go_wp2_with fail
                  go_roundw
                  case rel =>
                    refine ⟨i + 1, nn + Z, by go_num, by omega, by go_num, fun h => ?_, by omega, by first | trivial | rfl⟩
                    have h1 := HE.out (by omega)
                    have h2 := HZ.out (by omega)
                    rw [HW.out]
                    omega
                  case measure => simp [intOf]; omega
      · go_wp2_with fail
        go_ret
        exact ⟨⟨n, rfl, fun h => by omega, hn⟩, rfl⟩
    · obtain rfl : i = m := by omega
      have hall : xs.take i = xs := by rw [← HM.out]; exact List.take_length
      go_wp2_with fail
      go_ret
      exact ⟨⟨n, rfl, fun h => by have := HN.out h; rwa [hall] at this, hn⟩, rfl⟩
end Go.Proofs.YtpifbmcgadjhbaaGreatDoor
