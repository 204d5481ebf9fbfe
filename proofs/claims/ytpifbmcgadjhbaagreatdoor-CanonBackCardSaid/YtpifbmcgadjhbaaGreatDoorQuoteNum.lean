/-
  What numbered comes to: the rune behind \u.
-/
import Derived.Test.YtpifbmcgadjhbaaGreatDoorQuoteFour
namespace Go.Proofs.YtpifbmcgadjhbaaGreatDoor
open Go.RowKit

namespace Qm
theorem num_e {l : List UInt8} {c : Nat} (h : f4 l = (0, c)) (hc : c ≠ 0) : num l = (0, 0, c) := by unfold num; rw [h]; simp [hc]
theorem num_S {l : List UInt8} {n : Nat} (h : f4 l = (n, 0)) (hs : isS n = true) : num l = (0, 0, 12) := by unfold num; rw [h]; simp [hs]
theorem num_p {l : List UInt8} {n : Nat} (h : f4 l = (n, 0)) (hs : isS n = false) (hf : isF n = false) : num l = (n, 4, 0) := by unfold num; rw [h]; simp [hs, hf]
theorem num_F {l : List UInt8} {n : Nat} (h : f4 l = (n, 0)) (hs : isS n = false) (hf : isF n = true) : num l = snd0 n (l.drop 4) := by unfold num; rw [h]; simp [hs, hf]
end Qm
/-- what a function that decodes at a place tells: as F does of what stands there -/
def Tells (F : List UInt8 → Nat × Nat × Nat) (l : List UInt8) (p : Nat) (e : Ending) : Prop :=
  (∃ r q z : Nat, F (l.drop p) = (r, z, 0) ∧ q = p + z ∧ e = .returned (.tuple #[.int .i64 (r : Int), .int .i64 (q : Int), .int .i64 0]))
  ∨ (∃ (c : Nat) (a b : Int), c ≠ 0 ∧ (F (l.drop p)).2.2 = c ∧ e = .returned (.tuple #[.int .i64 a, .int .i64 b, .int .i64 (c : Int)]))
theorem Tells.no {F : List UInt8 → Nat × Nat × Nat} {l : List UInt8} {p : Nat} {c : Nat} (h : F (l.drop p) = (0, 0, c)) (hc : c ≠ 0) (a b : Int) : Tells F l p (.returned (.tuple #[.int .i64 a, .int .i64 b, .int .i64 (c : Int)])) :=
  .inr ⟨c, a, b, hc, by rw [h], rfl⟩
theorem Tells.yes {F : List UInt8 → Nat × Nat × Nat} {l : List UInt8} {p r z : Nat} (h : F (l.drop p) = (r, z, 0)) {a b : Int} (ha : a = (r : Int)) (hb : b = ((p + z : Nat) : Int)) : Tells F l p (.returned (.tuple #[.int .i64 a, .int .i64 b, .int .i64 0])) := by
  subst ha hb
  exact .inl ⟨r, p + z, z, h, rfl, rfl⟩
theorem idx_two8 (w : World) (a b : Value) : (Instr.index 205 (.agg #[a, b]) (.int .i64 0)).run Tryz.prog w = .ok a w ∧ (Instr.index 205 (.agg #[a, b]) (.int .i64 1)).run Tryz.prog w = .ok b w := by
  constructor <;> kernel_rfl
theorem four_at {w0 w : World} (h : Below w0.heap.size w0 w) (l : List UInt8) (p : Nat) (hp : p ≤ l.length) (hl : l.length ≤ 100000000) (hT : Tab w) {p' : Int} (hp' : p' = (p : Int)) :
    Calls Tryz.prog 196 #[.string (S l), .int .i64 p'] w fun e w' =>
      (∃ n q : Nat, Qm.f4 (l.drop p) = (n, 0) ∧ q = p + 4 ∧ q ≤ l.length ∧ n < 65536 ∧ e = .returned (.tuple #[.int .i64 (n : Int), .int .i64 (q : Int), .int .i64 0]) ∧ Below w0.heap.size w0 w')
      ∨ (∃ c : Nat, ((c : Int) != 0) = true ∧ c ≠ 0 ∧ Qm.f4 (l.drop p) = (0, c) ∧ e = .returned (.tuple #[.int .i64 0, .int .i64 0, .int .i64 (c : Int)]) ∧ Below w0.heap.size w0 w') := by
  subst hp'
  refine (four_any l p w hp hl hT).mono ?_
  rintro e w' (⟨n, h1, h2, h3⟩ | ⟨c, hc, h1, h2, h3⟩)
  · refine .inl ⟨n, p + 4, h1, rfl, ?_, ?_, h2, h.trans (h3.mono h.size)⟩
    all_goals
      rcases Qm.f4_cases (l.drop p) with ⟨m, a, b, d⟩ | a | a
    · rw [List.length_drop] at b; omega
    · rw [h1] at a; simp at a
    · rw [h1] at a; simp at a
    · rw [h1] at a; simp only [Prod.mk.injEq, and_true] at a; omega
    · rw [h1] at a; simp at a
    · rw [h1] at a; simp at a
  · exact .inr ⟨c, by rw [bne_iff_ne]; omega, hc, h1, h2, h.trans (h3.mono h.size)⟩
set_option maxRecDepth 100000 in
set_option maxHeartbeats 1600000 in
theorem numbered_any (l : List UInt8) (p : Nat) (w : World) (hp : p ≤ l.length) (hl : l.length ≤ 100000000) (hT : Tab w) :
    Calls Tryz.prog 185 #[.string (S l), .int .i64 (p : Int)] w fun e w' => Tells Qm.num l p e ∧ Below w.heap.size w w' := by
  have hB := hT.lt
  have i1 := fun w => (idx_two8 w (.int .u8 92) (.int .u8 117)).1
  have i2 := fun w => (idx_two8 w (.int .u8 92) (.int .u8 117)).2
  go_enter Tryz.func185, Tryz.ntmps185
  go_wp2_with fail
  refine (four_at (Below.refl _ _) l p hp hl hT rfl).mono ?_; rintro e w1 (⟨n, q, hn, hq, hql, hnb, rfl, h1⟩ | ⟨c, hcb, hc, hn, rfl, h1⟩)
  · have HN := Lib.hid hn
    have HQ := Lib.hid hq
    clear hn hq
    cases hs : Qm.isS n
    · have HS := Lib.hid hs
      clear hs
      cases hf : Qm.isF n
      · have HR : Hid (Qm.num (l.drop p) = (n, 4, 0)) := Qm.num_p HN.out HS.out hf
        have HF := Lib.hid hf
        clear hf
        go_wp2_with fail
        refine (isS_at n _ HS.out).mono ?_; rintro e w2 ⟨rfl, rfl⟩
        go_wp2_with fail
        refine (isF_at n _ HF.out).mono ?_; rintro e w2 ⟨rfl, rfl⟩
        go_wp2_with fail
        go_ret3
        exact ⟨Tells.yes HR.out rfl (by rw [HQ.out]), h1⟩
      · have HR : Hid (Qm.num (l.drop p) = Qm.snd0 n (l.drop q)) := by
          unfold Hid
          rw [Qm.num_F HN.out HS.out hf, List.drop_drop, HQ.out]
        have HF := Lib.hid hf
        clear hf
        have hT1 := hT.below h1 hB
        go_wp2_with fail
        refine (isS_at n _ HS.out).mono ?_; rintro e w2 ⟨rfl, rfl⟩
        go_wp2_with fail
        refine (isF_at n _ HF.out).mono ?_; rintro e w2 ⟨rfl, rfl⟩
        go_wp2_with fail
        refine wp_loop_rounds 3 ?_
        rw [rounds_succ]
        go_wp2_with fail
        rcases hd : l.drop q with _ | ⟨c, t⟩
        · have HR2 : Hid (Qm.num (l.drop p) = (0, 0, 4)) := by unfold Hid; rw [HR.out, hd]; rfl
          have HE : Hid (EXP (l.drop q) 92 12 = 4) := by unfold Hid; rw [hd]; rfl
          clear hd HR
          refine (expect_at l q 92 12 _ hql HE.out rfl rfl rfl).mono ?_; rintro e w2 ⟨rfl, rfl⟩
          go_wp2_with fail
          go_ret3
          exact ⟨Tells.no HR2.out (by decide) _ _, h1⟩
        obtain ⟨hq1, _, hd1⟩ := at_drop hd
        by_cases hc : c = 92
        · have HE : Hid (EXP (l.drop q) 92 12 = 0) := by unfold Hid; rw [hd, hc]; rfl
          have HR2 : Hid (Qm.num (l.drop p) = Qm.snd1 n (l.drop (q + 1))) := by unfold Hid; rw [HR.out, hd, Qm.snd0, if_pos hc, hd1]
          clear hd HR hd1 hc
          refine (expect_at l q 92 12 _ hql HE.out rfl rfl rfl).mono ?_; rintro e w2 ⟨rfl, rfl⟩
          go_wp2_with fail
          rw [rounds_succ]
          go_wp2_with fail
          rcases hd : l.drop (q + 1) with _ | ⟨d, u⟩
          · have HR3 : Hid (Qm.num (l.drop p) = (0, 0, 4)) := by unfold Hid; rw [HR2.out, hd]; rfl
            have HE2 : Hid (EXP (l.drop (q + 1)) 117 12 = 4) := by unfold Hid; rw [hd]; rfl
            clear hd HR2
            refine (expect_at l (q + 1) 117 12 _ (by omega) HE2.out (by go_num) rfl rfl).mono ?_; rintro e w2 ⟨rfl, rfl⟩
            go_wp2_with fail
            go_ret3
            exact ⟨Tells.no HR3.out (by decide) _ _, h1⟩
          obtain ⟨hq2, _, hd2⟩ := at_drop hd
          by_cases hdd : d = 117
          · have HE2 : Hid (EXP (l.drop (q + 1)) 117 12 = 0) := by unfold Hid; rw [hd, hdd]; rfl
            have HR3 : Hid (Qm.num (l.drop p) = Qm.snd2 n (l.drop (q + 2))) := by unfold Hid; rw [HR2.out, hd, Qm.snd1, if_pos hdd, ← hd2]
            clear hd HR2 hd2 hdd
            refine (expect_at l (q + 1) 117 12 _ (by omega) HE2.out (by go_num) rfl rfl).mono ?_; rintro e w2 ⟨rfl, rfl⟩
            go_wp2_with fail
            rw [rounds_succ]
            go_wp2_with fail
            refine (four_at h1 l (q + 2) (by omega) hl hT1 (by go_num)).mono ?_; rintro e w2 (⟨m, q2, hm, hq3, hq3l, hmb, rfl, h2⟩ | ⟨c, hcb, hc, hm, rfl, h2⟩)
            · cases hms : Qm.isS m
              · have HR4 : Hid (Qm.num (l.drop p) = (0, 0, 12)) := by unfold Hid; rw [HR3.out, Qm.snd2_of hm, hms]; rfl
                have HMS := Lib.hid hms
                clear hms hm hq3 HR3
                go_wp2_with fail
                refine (isS_at m _ HMS.out).mono ?_; rintro e w3 ⟨rfl, rfl⟩
                go_wp2_with fail
                go_ret3
                exact ⟨Tells.no HR4.out (by decide) _ _, h2⟩
              · have HR4 : Hid (Qm.num (l.drop p) = (Qm.pair n m, 10, 0)) := by unfold Hid; rw [HR3.out, Qm.snd2_of hm, hms]; rfl
                have b1 := (Qm.isS_iff m).1 hms
                have b2 := (Qm.isF_iff n).1 HF.out
                have HP : Hid ((65536 : Int) + ((n : Int) - 55296) * 1024 + (m : Int) - 56320 = ((Qm.pair n m : Nat) : Int)) := by unfold Hid Qm.pair; omega
                have HQ2 : Hid ((q2 : Int) = ((p + 10 : Nat) : Int)) := by have := HQ.out; unfold Hid; omega
                have HMS := Lib.hid hms
                clear hms hm hq3 HR3
                go_wp2_with fail
                refine (isS_at m _ HMS.out).mono ?_; rintro e w3 ⟨rfl, rfl⟩
                go_wp2_with fail
                go_ret3
                exact ⟨Tells.yes HR4.out HP.out HQ2.out, h2⟩
            · have HR4 : Hid (Qm.num (l.drop p) = (0, 0, c)) := by unfold Hid; rw [HR3.out, Qm.snd2_no hm hc]
              have HC := Lib.hid hc
              clear hc hm HR3
              go_wp2_with fail
              go_ret3
              exact ⟨Tells.no HR4.out HC.out _ _, h2⟩
          · have HR3 : Hid (Qm.num (l.drop p) = (0, 0, 12)) := by unfold Hid; rw [HR2.out, hd, Qm.snd1, if_neg hdd]
            have HE2 : Hid (EXP (l.drop (q + 1)) 117 12 = 12) := by
              unfold Hid
              rw [hd, EXP]
              exact if_neg fun e => hdd (UInt8.toNat_inj.1 e)
            clear hd HR2 hdd hd2
            refine (expect_at l (q + 1) 117 12 _ (by omega) HE2.out (by go_num) rfl rfl).mono ?_; rintro e w2 ⟨rfl, rfl⟩
            go_wp2_with fail
            go_ret3
            exact ⟨Tells.no HR3.out (by decide) _ _, h1⟩
        · have HR2 : Hid (Qm.num (l.drop p) = (0, 0, 12)) := by unfold Hid; rw [HR.out, hd, Qm.snd0, if_neg hc]
          have HE : Hid (EXP (l.drop q) 92 12 = 12) := by
            unfold Hid
            rw [hd, EXP]
            exact if_neg fun e => hc (UInt8.toNat_inj.1 e)
          clear hd HR hc hd1
          refine (expect_at l q 92 12 _ hql HE.out rfl rfl rfl).mono ?_; rintro e w2 ⟨rfl, rfl⟩
          go_wp2_with fail
          go_ret3
          exact ⟨Tells.no HR2.out (by decide) _ _, h1⟩
    · have HR : Hid (Qm.num (l.drop p) = (0, 0, 12)) := Qm.num_S HN.out hs
      have HS := Lib.hid hs
      clear hs
      go_wp2_with fail
      refine (isS_at n _ HS.out).mono ?_; rintro e w2 ⟨rfl, rfl⟩
      go_wp2_with fail
      go_ret3
      exact ⟨Tells.no HR.out (by decide) _ _, h1⟩
  · have HR : Hid (Qm.num (l.drop p) = (0, 0, c)) := Qm.num_e hn hc
    have HC := Lib.hid hc
    clear hc hn
    go_wp2_with fail
    go_ret3
    exact ⟨Tells.no HR.out HC.out _ _, h1⟩
end Go.Proofs.YtpifbmcgadjhbaaGreatDoor
