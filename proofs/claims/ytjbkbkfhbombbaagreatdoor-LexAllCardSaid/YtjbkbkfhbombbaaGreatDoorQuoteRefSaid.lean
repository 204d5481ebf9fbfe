/-
  What the document's said comes to: the number behind \u, or two of them.
-/
import Derived.Test.YtjbkbkfhbombbaaGreatDoorQuoteRefNum
import Derived.Test.YtjbkbkfhbombbaaGreatDoorQuoteNum
import Derived.BigRegion
namespace Go.Proofs.YtjbkbkfhbombbaaGreatDoor
open Go.RowKit

/-- what is still to be seen of a pair: j of the two bytes have come -/
def Qm.sndJ (n : Nat) : Nat → List UInt8 → Nat × Nat × Nat
  | 0 => Qm.snd0 n
  | 1 => Qm.snd1 n
  | _ => Qm.snd2 n
def Qm.bj (j : Nat) : Nat := if j = 0 then 92 else 117
theorem Qm.sndJ_end (n : Nat) {j : Nat} (h : j < 2) : Qm.sndJ n j [] = (0, 0, 4) := by
  rcases j with _ | _ | j
  · rfl
  · rfl
  · omega
theorem Qm.sndJ_no (n : Nat) {j : Nat} (h : j < 2) {c : UInt8} (t : List UInt8) (hc : c.toNat ≠ Qm.bj j) : Qm.sndJ n j (c :: t) = (0, 0, 12) := by
  rcases j with _ | _ | j
  · show (if c = 92 then _ else _) = _
    rw [if_neg (fun e => hc (by rw [e]; rfl))]
  · show (if c = 117 then _ else _) = _
    rw [if_neg (fun e => hc (by rw [e]; rfl))]
  · omega
theorem Qm.sndJ_yes (n : Nat) {j : Nat} (h : j < 2) {c : UInt8} (t : List UInt8) (hc : c.toNat = Qm.bj j) : Qm.sndJ n j (c :: t) = Qm.sndJ n (j + 1) t := by
  rcases j with _ | _ | j
  · have : c = 92 := UInt8.toNat.inj hc
    rw [this]
    rfl
  · have : c = 117 := UInt8.toNat.inj hc
    rw [this]
    rfl
  · omega
set_option maxHeartbeats 2000000 in
set_option maxRecDepth 20000 in
theorem said_any (l : List UInt8) (p : Nat) (w : World) (hp : p ≤ l.length) (hl : l.length ≤ 100000000) :
    Calls Tryz.prog 31 #[.string (S l), .int .i64 (p : Int)] w fun e w' => Tells Qm.num l p e ∧ Below w.heap.size w w' := by
  have z1 := S_size l
  have c1 := fun w => refNumber_any l p w (by omega) hl
  have hcs := Qm.hexs_cases 4 (l.drop p) 0
  obtain ⟨n, e, hf⟩ : ∃ n e, Qm.f4 (l.drop p) = (n, e) := ⟨_, _, rfl⟩
  have hf2 : Qm.hexs 4 (l.drop p) 0 = (n, e) := hf
  rw [hf] at c1
  rw [hf2] at hcs
  by_cases he : e = 0
  · subst he
    have hn : n ≤ 65535 ∧ 4 ≤ (l.drop p).length := by
      rcases hcs with ⟨_, h1, h2⟩ | h | h
      · have e4 : (0 + 1) * 16 ^ 4 = 65536 := by decide
        exact ⟨by omega, h1⟩
      · simp at h
      · simp at h
    obtain ⟨hn1, hn2⟩ := hn
    rw [List.length_drop] at hn2
    obtain ⟨q, hq⟩ : ∃ q, q = p + 4 := ⟨_, rfl⟩
    have hqi : (p : Int) + 4 = (q : Int) := by omega
    have hql : q ≤ l.length := by omega
    have hnum : Qm.num (l.drop p) = (if Qm.isS n then (0, 0, 12) else if Qm.isF n then Qm.snd0 n (l.drop q) else (n, 4, 0)) := by
      unfold Qm.num
      rw [hf, if_pos rfl, List.drop_drop, ← hq]
    have HQ := Lib.hid hq
    clear hcs hf hf2 hn2 hq
    obtain ⟨N, hN⟩ : ∃ N : Int, N = (n : Int) := ⟨_, rfl⟩
    have c1 : ∀ w, Calls Tryz.prog 41 #[.string (S l), .int .i64 (p : Int)] w fun e w' => e = .returned (.tuple #[.int .i64 N, .int .i64 0]) ∧ Below w.heap.size w w' := fun w => by rw [hN]; exact c1 w
    have hN0 : 0 ≤ N ∧ N ≤ 65535 := by omega
    have HN : Hid (N = (n : Int)) := hN
    by_cases hlo : N < 55296
    · have HR : Hid (Qm.num (l.drop p) = (n, 4, 0)) := by
        rw [Hid, hnum, show Qm.isS n = false by unfold Qm.isS; simp; omega, show Qm.isF n = false by unfold Qm.isF; simp; omega]
        rfl
      clear hnum hN hn1
      go_enter Tryz.func31, Tryz.ntmps31
      go_wp2_with fail
      refine (c1 _).mono ?_; rintro e w1 ⟨rfl, b1⟩
      go_wp2_with fail
      go_ret3
      exact ⟨Tells.yes HR.out HN.out (by rw [HQ.out]), b1⟩
    by_cases hhi : 57343 < N
    · have HR : Hid (Qm.num (l.drop p) = (n, 4, 0)) := by
        rw [Hid, hnum, show Qm.isS n = false by unfold Qm.isS; simp; omega, show Qm.isF n = false by unfold Qm.isF; simp; omega]
        rfl
      clear hnum hN hn1
      go_enter Tryz.func31, Tryz.ntmps31
      go_wp2_with fail
      refine (c1 _).mono ?_; rintro e w1 ⟨rfl, b1⟩
      go_wp2_with fail
      go_ret3
      exact ⟨Tells.yes HR.out HN.out (by rw [HQ.out]), b1⟩
    by_cases hse : 56320 ≤ N
    · have HR : Hid (Qm.num (l.drop p) = (0, 0, 12)) := by
        rw [Hid, hnum, show Qm.isS n = true by unfold Qm.isS; simp; omega]
        rfl
      clear hnum hN hn1
      go_enter Tryz.func31, Tryz.ntmps31
      go_wp2_with fail
      refine (c1 _).mono ?_; rintro e w1 ⟨rfl, b1⟩
      go_wp2_with fail
      go_ret3
      exact ⟨Tells.no HR.out (by decide) _ _, b1⟩
    have HS : Hid (Qm.num (l.drop p) = Qm.sndJ n 0 (l.drop q)) := by
      rw [Hid, hnum, show Qm.isS n = false by unfold Qm.isS; simp; omega, show Qm.isF n = true by unfold Qm.isF; simp; omega]
      rfl
    clear hnum hN hn1
    have HP : Hid (∀ z, q + z = p + (z + 4)) := fun z => by rw [HQ.out]; omega
    clear HQ
    have hat := Tx_at l
    go_enter Tryz.func31, Tryz.ntmps31
    go_wp2_with fail
    refine (c1 _).mono ?_; rintro e w1 ⟨rfl, b1⟩
    go_wp2_with fail
    go_loopw [9] (fun iv wr => ∃ j : Nat, iv = .int .i64 (j : Int) ∧ j ≤ 2 ∧ q + j ≤ l.length ∧ Hid (Qm.num (l.drop p) = Qm.sndJ n j (l.drop (q + j))) ∧ Below w.heap.size w wr) (fun iv _ => 2 - (intOf iv).toNat)
    case atStart => exact ⟨0, rfl, by omega, by omega, HS, b1⟩
    case round =>
      obtain ⟨j, rfl, hj, hjl, HX, hbel⟩ := hrel
      by_cases h2 : (j : Int) < 2
      · by_cases hend : (l.length : Int) ≤ (q : Int) + (j : Int)
        · have HR : Hid (Qm.num (l.drop p) = (0, 0, 4)) := by
            rw [Hid, HX.out, List.drop_of_length_le (by omega)]
            exact Qm.sndJ_end n (by omega)
          go_wp2_with fail
          go_ret3
          exact ⟨Tells.no HR.out (by decide) _ _, hbel⟩
        · obtain ⟨k, hk⟩ : ∃ k, k = q + j := ⟨_, rfl⟩
          obtain ⟨c, hc, hdr⟩ := Tx.drop_cons (show k < l.length by omega)
          have hk2 : (q : Int) + (j : Int) = (k : Int) := by omega
          have hkl : k < l.length := by omega
          have hkl' : (k : Int) < (l.length : Int) := by omega
          have hsz := hbel.size
          have hj2 : j < 2 := by omega
          have HNO : Hid (c.toNat ≠ Qm.bj j → Qm.num (l.drop p) = (0, 0, 12)) := fun h => by
            rw [HX.out, ← hk, hdr]
            exact Qm.sndJ_no n hj2 _ h
          have HYES : Hid (c.toNat = Qm.bj j → Qm.num (l.drop p) = Qm.sndJ n (j + 1) (l.drop (q + (j + 1)))) := fun h => by
            rw [HX.out, ← hk, hdr, Qm.sndJ_yes n hj2 _ h, show q + (j + 1) = k + 1 by omega]
          clear hdr HX
          rcases (show j = 0 ∨ j = 1 by omega) with rfl | rfl
          · have hkq : k = q := hk
            clear hk hk2
            subst hkq
            by_cases hm : (Tx.bt l k : Int) = 92
            · have HR := Lib.hid (HYES.out (by rw [hc]; show Tx.bt l k = 92; omega))
              clear hc HNO HYES
              go_wp2_with fail
              go_region
              all_goals
                go_wp2_with fail
                go_roundw
                case rel => exact ⟨1, rfl, by omega, by omega, HR, (hbel.alloc hsz _).drew⟩
                case measure => simp [intOf]
            · have hmb : ((Tx.bt l k : Int) == 92) = false := beq_eq_false_iff_ne.2 hm
              have HR := Lib.hid (HNO.out (by rw [hc]; show ¬ Tx.bt l k = 92; omega))
              clear hc HNO HYES hm
              go_wp2_with fail
              go_region
              all_goals
                go_wp2_with fail
                go_ret3
                exact ⟨Tells.no HR.out (by decide) _ _, (hbel.alloc hsz _).drew⟩
          · clear hk2
            subst hk
            by_cases hm : (Tx.bt l (q + 1) : Int) = 117
            · have HR := Lib.hid (HYES.out (by rw [hc]; show Tx.bt l (q + 1) = 117; omega))
              clear hc HNO HYES
              go_wp2_with fail
              go_region
              all_goals
                go_wp2_with fail
                go_roundw
                case rel => exact ⟨2, rfl, by omega, by omega, HR, (hbel.alloc hsz _).drew⟩
                case measure => simp [intOf]
            · have hmb : ((Tx.bt l (q + 1) : Int) == 117) = false := beq_eq_false_iff_ne.2 hm
              have HR := Lib.hid (HNO.out (by rw [hc]; show ¬ Tx.bt l (q + 1) = 117; omega))
              clear hc HNO HYES hm
              go_wp2_with fail
              go_region
              all_goals
                go_wp2_with fail
                go_ret3
                exact ⟨Tells.no HR.out (by decide) _ _, (hbel.alloc hsz _).drew⟩
      · obtain rfl : j = 2 := by omega
        have hq2 : (q : Int) + 2 = ((q + 2 : Nat) : Int) := by omega
        have c2 := fun w => refNumber_any l (q + 2) w (by omega) hl
        have hcs := Qm.hexs_cases 4 (l.drop (q + 2)) 0
        obtain ⟨m, e2, hf⟩ : ∃ m e, Qm.f4 (l.drop (q + 2)) = (m, e) := ⟨_, _, rfl⟩
        have hf2 : Qm.hexs 4 (l.drop (q + 2)) 0 = (m, e2) := hf
        rw [hf] at c2
        rw [hf2] at hcs
        have hX : Qm.num (l.drop p) = if e2 = 0 then (if Qm.isS m then (Qm.pair n m, 10, 0) else (0, 0, 12)) else (0, 0, e2) := by
          rw [HX.out]
          show Qm.snd2 n (l.drop (q + 2)) = _
          unfold Qm.snd2
          rw [hf]
        rw [← hq2] at c2
        clear hf hf2 HX HS hq2
        by_cases he : e2 = 0
        · subst he
          have hm1 : m ≤ 65535 := by
            rcases hcs with ⟨_, h1, h2⟩ | h | h
            · have e4 : (0 + 1) * 16 ^ 4 = 65536 := by decide
              omega
            · simp at h
            · simp at h
          obtain ⟨M, hM⟩ : ∃ M : Int, M = (m : Int) := ⟨_, rfl⟩
          have c2 : ∀ w, Calls Tryz.prog 41 #[.string (S l), .int .i64 ((q : Int) + 2)] w fun e w' => e = .returned (.tuple #[.int .i64 M, .int .i64 0]) ∧ Below w.heap.size w w' := fun w => by rw [hM]; exact c2 w
          have hM0 : 0 ≤ M ∧ M ≤ 65535 := by omega
          rw [if_pos rfl] at hX
          by_cases hm2 : M < 56320
          · have HR : Hid (Qm.num (l.drop p) = (0, 0, 12)) := by
              rw [Hid, hX, show Qm.isS m = false by unfold Qm.isS; simp; omega]
              rfl
            clear hX hM hm1 hcs
            go_wp2_with fail
            refine (c2 _).mono ?_; rintro e w2 ⟨rfl, b2⟩
            go_wp2_with fail
            go_ret3
            exact ⟨Tells.no HR.out (by decide) _ _, hbel.trans (b2.mono hbel.size)⟩
          by_cases hm3 : 57343 < M
          · have HR : Hid (Qm.num (l.drop p) = (0, 0, 12)) := by
              rw [Hid, hX, show Qm.isS m = false by unfold Qm.isS; simp; omega]
              rfl
            clear hX hM hm1 hcs
            go_wp2_with fail
            refine (c2 _).mono ?_; rintro e w2 ⟨rfl, b2⟩
            go_wp2_with fail
            go_ret3
            exact ⟨Tells.no HR.out (by decide) _ _, hbel.trans (b2.mono hbel.size)⟩
          have HR : Hid (Qm.num (l.drop p) = (Qm.pair n m, 10, 0)) := by
            rw [Hid, hX, show Qm.isS m = true by unfold Qm.isS; simp; omega]
            rfl
          have HM : Hid (M = (m : Int)) := hM
          clear hX hM hm1 hcs
          go_wp2_with fail
          refine (c2 _).mono ?_; rintro e w2 ⟨rfl, b2⟩
          go_wp2_with fail
          go_ret3
          refine ⟨Tells.yes HR.out ?_ ?_, hbel.trans (b2.mono hbel.size)⟩
          · have h1 := HN.out
            have h2 := HM.out
            unfold Qm.pair
            omega
          · have := HP.out 6
            omega
        · have heb : ((e2 : Int) != 0) = true := bne_iff_ne.2 (by omega)
          have HE : Hid (e2 ≠ 0 ∧ m = 0) := by
            refine ⟨he, ?_⟩
            rcases hcs with ⟨h, _, _⟩ | h | h
            · exact absurd h he
            · simp at h; exact h.1
            · simp at h; exact h.1
          have HR : Hid (Qm.num (l.drop p) = (0, 0, e2)) := by rw [Hid, hX, if_neg he]
          clear hX he hcs
          go_wp2_with fail
          refine (c2 _).mono ?_; rintro e w2 ⟨rfl, b2⟩
          go_wp2_with fail
          go_ret3
          exact ⟨Tells.no HR.out HE.out.1 _ _, hbel.trans (b2.mono hbel.size)⟩
  · have heb : ((e : Int) != 0) = true := bne_iff_ne.2 (by omega)
    have HR : Hid (Qm.num (l.drop p) = (0, 0, e)) := by
      rw [Hid]
      unfold Qm.num
      rw [hf, if_neg he]
    have HE := Lib.hid he
    clear hf hf2 hcs he
    go_enter Tryz.func31, Tryz.ntmps31
    go_wp2_with fail
    refine (c1 _).mono ?_; rintro e w1 ⟨rfl, b1⟩
    go_wp2_with fail
    go_ret3
    exact ⟨Tells.no HR.out HE.out _ _, b1⟩
end Go.Proofs.YtjbkbkfhbombbaaGreatDoor
