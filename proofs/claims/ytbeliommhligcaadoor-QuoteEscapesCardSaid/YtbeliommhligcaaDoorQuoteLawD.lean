/-
  The walk of QuoteEscapes: it comes to true.
-/
import Derived.Test.YtbeliommhligcaaDoorQuoteHex
import Derived.Test.YtbeliommhligcaaDoorQuoteLawC
namespace Go.Proofs.YtbeliommhligcaaDoor
open Go.RowKit

namespace Qm
theorem RD_all (l t X : List UInt8) (n k : Nat) (hl : l.length ≤ 1500) (ht : t.length ≤ 1500) (hv : Um.cnt l ≠ none) (hu : Um.cnt t ≠ none) (h1 : lowB l = false) (h2 : lowB t = false) (hk : k < 8)
    (hX : ∀ r, one (X ++ r) = (n, X.length, 0)) (hh : ∃ Z, X = 92 :: Z) : RD ((34 :: esc l) ++ (X ++ ([92, YS.getD k 0] ++ (esc t ++ [34])))) 0 = (l ++ (Um.enc n ++ ([ZS.getD k 0] ++ t)), ((34 :: esc l) ++ (X ++ ([92, YS.getD k 0] ++ (esc t ++ [34])))).length, 0) := by
  have hd : ((34 :: esc l) ++ (X ++ ([92, YS.getD k 0] ++ (esc t ++ [34])))).drop 0 = 34 :: (esc l ++ (X ++ ([92, YS.getD k 0] ++ (esc t ++ [34])))) := rfl
  have hR := RD_in _ 0 _ _ hd
  rw [if_pos rfl] at hR
  have hel := Um.enc_length n
  obtain ⟨y1, y2⟩ := one_y k hk (esc t ++ [34])
  have hy : ([92, YS.getD k 0] ++ (esc t ++ [34])) = 92 :: YS.getD k 0 :: (esc t ++ [34]) := rfl
  have hyl : (Um.enc (ZS.getD k 0).toNat).length = 1 := by rw [y2]; rfl
  obtain ⟨Z, hZ⟩ := hh
  have e1 := RDF_esc (l.length + 1) l (X ++ ([92, YS.getD k 0] ++ (esc t ++ [34]))) 0 (by omega) hv h1 (by omega)
  have e2 := RDF_ok (l := X ++ ([92, YS.getD k 0] ++ (esc t ++ [34]))) (0 + l.length) (by rw [hZ]; simp) (hX _) (by omega)
  rw [List.drop_left, hy] at e2
  have e3 := RDF_ok (l := 92 :: YS.getD k 0 :: (esc t ++ [34])) (0 + l.length + (Um.enc n).length) (by simp) y1 (by omega)
  have e4 := RDF_esc (t.length + 1) t [34] (0 + l.length + (Um.enc n).length + (Um.enc (ZS.getD k 0).toNat).length) (by omega) hu h2 (by omega)
  have e5 := RDF_end [] (0 + l.length + (Um.enc n).length + (Um.enc (ZS.getD k 0).toNat).length + t.length)
  rw [e5, cons_ok] at e4
  rw [show (92 :: YS.getD k 0 :: (esc t ++ [34])).drop 2 = esc t ++ [34] from rfl, e4, cons_ok] at e3
  rw [e3, cons_ok] at e2
  rw [hy] at e1 hR ⊢
  rw [e2, cons_ok] at e1
  rw [e1, cons_ok] at hR
  rw [show ((0 : Nat) : Int) = 0 from rfl] at hR
  rw [hR, y2]
  simp only [List.nil_append, List.append_nil, List.length_append, List.length_cons, List.length_nil]
  congr 2
  omega
end Qm
theorem slice_Y (k : Nat) (h : k < 8) (w : World) : (Instr.slice 9 (.string ⟨#[34, 92, 47, 98, 102, 110, 114, 116]⟩) (some (.int .i64 (k : Int))) (some (.int .i64 ((k : Int) + 1))) none).run Tryd.prog w = .ok (.string (S [Qm.YS.getD k 0])) w := by
  obtain rfl | rfl | rfl | rfl | rfl | rfl | rfl | rfl : k = 0 ∨ k = 1 ∨ k = 2 ∨ k = 3 ∨ k = 4 ∨ k = 5 ∨ k = 6 ∨ k = 7 := by omega
  all_goals kernel_rfl
theorem slice_Z (k : Nat) (h : k < 8) (w : World) : (Instr.slice 9 (.string ⟨#[34, 92, 47, 8, 12, 10, 13, 9]⟩) (some (.int .i64 (k : Int))) (some (.int .i64 ((k : Int) + 1))) none).run Tryd.prog w = .ok (.string (S [Qm.ZS.getD k 0])) w := by
  obtain rfl | rfl | rfl | rfl | rfl | rfl | rfl | rfl : k = 0 ∨ k = 1 ∨ k = 2 ∨ k = 3 ∨ k = 4 ∨ k = 5 ∨ k = 6 ∨ k = 7 := by omega
  all_goals kernel_rfl
theorem and1023 (n : Nat) (h : n < 100000000) : bits .and .i64 (n : Int) 1023 = ((n % 1024 : Nat) : Int) := by
  show IntKind.i64.wrap ((BitVec.ofInt 64 (n : Int) &&& BitVec.ofInt 64 ((1023 : Nat) : Int)).toNat : Int) = _
  rw [BitVec.toNat_and, ofInt_u64 _ (by omega), ofInt_u64 _ (by omega), show (1023 : Nat) = 2 ^ 10 - 1 from rfl, Nat.and_two_pow_sub_one_eq_mod n 10]
  exact IntWalk.i64_in _ (by omega)
theorem digits_at {w0 w : World} (h : Below w0.heap.size w0 w) (n : Nat) (big : Bool) (hn : n ≤ 1114111) {m : Int} (hm : m = (n : Int)) {R : List UInt8} (hR : Qm.h4 big n = R) :
    Calls Tryd.prog 16 #[.int .i64 m, .bool big] w fun e w' => e = .returned (.string (S R)) ∧ Below w0.heap.size w0 w' := by
  subst hm
  subst hR
  exact from_ h (digits_any n big w hn)
theorem c92u : (⟨#[92, 117]⟩ : ByteArray) = S [92, 117] := rfl
section
variable (l t : List UInt8) (n : Int) (big : Bool) (x : UInt8) (w : World)
/-- what ends early -/
theorem esc_early (hl : l.length ≤ 9223372036854775807) (ht : t.length ≤ 9223372036854775807) (hT : Tab w) (h : (1500 : Int) < (l.length : Int) ∨ (1500 : Int) < (t.length : Int) ∨ Qm.lowB l = true ∨ Qm.lowB t = true) :
    Calls Tryd.prog 6 #[.string (S l), .string (S t), .int .i64 n, .bool big, .int .u8 (x.toNat : Int)] w fun e w' => e = .returned (.bool true) ∧ Below w.heap.size w w' := by
  have z1 := S_size l
  have z2 := S_size t
  by_cases h1 : (1500 : Int) < (l.length : Int)
  · go_enter Tryd.func6, Tryd.ntmps6
    go_wp2_with fail
    refine (awake_any _ hT).mono ?_; rintro e w3 ⟨rfl, h3⟩
    go_wp2_with fail
    go_ret
    exact ⟨rfl, h3⟩
  by_cases h2 : (1500 : Int) < (t.length : Int)
  · go_enter Tryd.func6, Tryd.ntmps6
    go_wp2_with fail
    refine (awake_any _ hT).mono ?_; rintro e w3 ⟨rfl, h3⟩
    go_wp2_with fail
    go_ret
    exact ⟨rfl, h3⟩
  cases h3 : Qm.lowB l
  · have h4 : Qm.lowB t = true := by
      rcases h with h | h | h | h
      · omega
      · omega
      · rw [h3] at h; simp at h
      · exact h
    have H3 := Lib.hid h3
    have H4 := Lib.hid h4
    clear h h3 h4
    go_enter Tryd.func6, Tryd.ntmps6
    go_wp2_with fail
    refine (low_at l _ (by omega) H3.out).mono ?_; rintro e w3 ⟨rfl, rfl⟩
    go_wp2_with fail
    refine (low_at t _ (by omega) H4.out).mono ?_; rintro e w3 ⟨rfl, rfl⟩
    go_wp2_with fail
    refine (awake_any _ hT).mono ?_; rintro e w3 ⟨rfl, h3⟩
    go_wp2_with fail
    go_ret
    exact ⟨rfl, h3⟩
  · have H3 := Lib.hid h3
    clear h h3
    go_enter Tryd.func6, Tryd.ntmps6
    go_wp2_with fail
    refine (low_at l _ (by omega) H3.out).mono ?_; rintro e w3 ⟨rfl, rfl⟩
    go_wp2_with fail
    refine (awake_any _ hT).mono ?_; rintro e w3 ⟨rfl, h3⟩
    go_wp2_with fail
    go_ret
    exact ⟨rfl, h3⟩
/-- what is refused -/
theorem esc_no (hl : l.length ≤ 1500) (ht : t.length ≤ 1500) (hT : Tab w) (h3 : Qm.lowB l = false) (h4 : Qm.lowB t = false) (a b r : List UInt8) (e f : Nat) (g : Int) (ha : QUO l = (a, e)) (hb : QUO t = (b, f)) (hp : PUT n = (r, g)) (h : e ≠ 0 ∨ f ≠ 0 ∨ g ≠ 0) :
    Calls Tryd.prog 6 #[.string (S l), .string (S t), .int .i64 n, .bool big, .int .u8 (x.toNat : Int)] w fun e w' => e = .returned (.bool true) ∧ Below w.heap.size w w' := by
  have z1 := S_size l
  have z2 := S_size t
  have H3 := Lib.hid h3
  have H4 := Lib.hid h4
  have HP := Lib.hid hp
  clear h3 h4 hp
  by_cases he : e = 0
  · subst he
    by_cases hf : f = 0
    · subst hf
      have hg : (g != 0) = true := by rw [bne_iff_ne]; omega
      have HA := Lib.hid ha
      have HB := Lib.hid hb
      clear h ha hb
      go_enter Tryd.func6, Tryd.ntmps6
      go_wp2_with fail
      refine (low_at l _ (by omega) H3.out).mono ?_; rintro e w3 ⟨rfl, rfl⟩
      go_wp2_with fail
      refine (low_at t _ (by omega) H4.out).mono ?_; rintro e w3 ⟨rfl, rfl⟩
      go_wp2_with fail
      refine (awake_any _ hT).mono ?_; rintro e w1 ⟨rfl, h1⟩
      go_wp2_with fail
      refine (Quote_at h1 l (by omega) HA.out).mono ?_; rintro e w2 ⟨rfl, h2⟩
      go_wp2_with fail
      refine (Quote_at h2 t (by omega) HB.out).mono ?_; rintro e w3 ⟨rfl, h3⟩
      go_wp2_with fail
      refine (Put_at _ n HP.out).mono ?_; rintro e w4 ⟨rfl, rfl⟩
      go_wp2_with fail
      go_ret
      exact ⟨rfl, h3⟩
    · have hf' : ((f : Int) != 0) = true := by rw [bne_iff_ne]; omega
      have HA := Lib.hid ha
      have HB := Lib.hid hb
      clear h ha hb hf
      go_enter Tryd.func6, Tryd.ntmps6
      go_wp2_with fail
      refine (low_at l _ (by omega) H3.out).mono ?_; rintro e w3 ⟨rfl, rfl⟩
      go_wp2_with fail
      refine (low_at t _ (by omega) H4.out).mono ?_; rintro e w3 ⟨rfl, rfl⟩
      go_wp2_with fail
      refine (awake_any _ hT).mono ?_; rintro e w1 ⟨rfl, h1⟩
      go_wp2_with fail
      refine (Quote_at h1 l (by omega) HA.out).mono ?_; rintro e w2 ⟨rfl, h2⟩
      go_wp2_with fail
      refine (Quote_at h2 t (by omega) HB.out).mono ?_; rintro e w3 ⟨rfl, h3⟩
      go_wp2_with fail
      refine (Put_at _ n HP.out).mono ?_; rintro e w4 ⟨rfl, rfl⟩
      go_wp2_with fail
      go_ret
      exact ⟨rfl, h3⟩
  · have he' : ((e : Int) != 0) = true := by rw [bne_iff_ne]; omega
    have HA := Lib.hid ha
    have HB := Lib.hid hb
    clear h ha hb he
    go_enter Tryd.func6, Tryd.ntmps6
    go_wp2_with fail
    refine (low_at l _ (by omega) H3.out).mono ?_; rintro e w3 ⟨rfl, rfl⟩
    go_wp2_with fail
    refine (low_at t _ (by omega) H4.out).mono ?_; rintro e w3 ⟨rfl, rfl⟩
    go_wp2_with fail
    refine (awake_any _ hT).mono ?_; rintro e w1 ⟨rfl, h1⟩
    go_wp2_with fail
    refine (Quote_at h1 l (by omega) HA.out).mono ?_; rintro e w2 ⟨rfl, h2⟩
    go_wp2_with fail
    refine (Quote_at h2 t (by omega) HB.out).mono ?_; rintro e w3 ⟨rfl, h3⟩
    go_wp2_with fail
    refine (Put_at _ n HP.out).mono ?_; rintro e w4 ⟨rfl, rfl⟩
    go_wp2_with fail
    go_ret
    exact ⟨rfl, h3⟩
set_option maxRecDepth 100000 in
set_option maxHeartbeats 3200000 in
/-- what is read -/
theorem esc_main (N : Int) (n : Nat) (hN : N = (n : Int)) (hn : Um.rn n) (hl : l.length ≤ 1500) (ht : t.length ≤ 1500) (hT : Tab w) (h3 : Qm.lowB l = false) (h4 : Qm.lowB t = false) (hv : (LEN l).2 = true) (hu : (LEN t).2 = true) :
    Calls Tryd.prog 6 #[.string (S l), .string (S t), .int .i64 N, .bool big, .int .u8 (x.toNat : Int)] w fun e w' => e = .returned (.bool true) ∧ Below w.heap.size w w' := by
  have z1 := S_size l
  have z2 := S_size t
  have hnr : n ≤ 1114111 := by unfold Um.rn at hn; omega
  -- the byte behind a \
  obtain ⟨k, hk⟩ : ∃ k, k = x.toNat % 8 := ⟨_, rfl⟩
  obtain ⟨y, hy⟩ : ∃ y : Int, y = (x.toNat : Int) := ⟨_, rfl⟩
  have hy0 : 0 ≤ y ∧ y ≤ 255 := by have := x.toNat_lt; omega
  have hk8 : k < 8 := by omega
  have hyk : y % 8 = (k : Int) := by omega
  have hRD := fun X h1 h2 => Qm.RD_all l t X n k hl ht (cnt_valid hv) (cnt_valid hu) h3 h4 hk8 h1 h2
  have sY := slice_Y k hk8
  have sZ := slice_Z k hk8
  have hY := add_S [92] [Qm.YS.getD k 0] (by simp only [List.length_cons, List.length_nil]; omega)
  rw [← c92] at hY
  obtain ⟨YL, hYL⟩ : ∃ YL, YL = [92] ++ [Qm.YS.getD k 0] := ⟨_, rfl⟩
  obtain ⟨ZL, hZL⟩ : ∃ ZL, ZL = [Qm.ZS.getD k 0] := ⟨_, rfl⟩
  rw [← hYL] at hY
  rw [← hZL] at sZ
  have hRD2 : ∀ X, (∀ r, Qm.one (X ++ r) = (n, X.length, 0)) → (∃ Z, X = 92 :: Z) → Qm.RD ((34 :: Qm.esc l) ++ (X ++ (YL ++ (Qm.esc t ++ [34])))) 0 = (l ++ (Um.enc n ++ (ZL ++ t)), ((34 :: Qm.esc l) ++ (X ++ (YL ++ (Qm.esc t ++ [34])))).length, 0) := by
    rw [hYL, hZL]
    exact hRD
  have lY : YL.length = 2 := by rw [hYL]; rfl
  have lZ : ZL.length = 1 := by rw [hZL]; rfl
  generalize Qm.YS.getD k 0 = cy at *
  rw [← hy]
  -- the forms
  have qa := QUO_ok (l := l) (by omega) hv
  have qb := QUO_ok (l := t) (by omega) hu
  obtain ⟨P1, hP1⟩ : ∃ P1, P1 = 34 :: Qm.esc l := ⟨_, rfl⟩
  obtain ⟨R2, hR2⟩ : ∃ R2, R2 = Qm.esc t ++ [34] := ⟨_, rfl⟩
  have ha : Qm.quo l = P1 ++ [34] := by rw [hP1]; rfl
  have hb : Qm.quo t = [34] ++ R2 := by rw [hR2]; rfl
  have le1 := (Qm.esc_len l).2
  have le2 := (Qm.esc_len t).2
  have lP : P1.length ≤ 3001 := by rw [hP1, List.length_cons]; omega
  have lR : R2.length ≤ 3001 := by rw [hR2, List.length_append, List.length_singleton]; omega
  rw [← hP1, ← hR2] at hRD2
  have sa := slice_upto (Qm.quo l) P1.length (by rw [ha, List.length_append]; omega)
  rw [show (Qm.quo l).take P1.length = P1 by rw [ha, List.take_left]] at sa
  have sb := slice_from (Qm.quo t) 1 (by rw [hb, List.length_append]; simp)
  rw [show (Qm.quo t).drop 1 = R2 by rw [hb]; rfl, show ((1 : Nat) : Int) = 1 from rfl] at sb
  have za : (S (Qm.quo l)).size = P1.length + 1 := by rw [S_size, ha, List.length_append]; rfl
  generalize Qm.quo l = Q1 at *
  generalize Qm.quo t = Q2 at *
  obtain ⟨E, hE⟩ : ∃ E, E = Um.enc n := ⟨_, rfl⟩
  have lE : E.length ≤ 4 := by rw [hE]; exact (Um.enc_length n).2
  rw [← hE] at hRD2
  have hput : PUT N = (E, 0) := by rw [hN]; exact PUT_nat hn hE.symm
  have hN0 : 0 ≤ N ∧ N ≤ 1114111 := by omega
  obtain ⟨u1, hu1⟩ : ∃ u1, u1 = l ++ E := ⟨_, rfl⟩
  obtain ⟨u2, hu2⟩ : ∃ u2, u2 = u1 ++ ZL := ⟨_, rfl⟩
  obtain ⟨u3, hu3⟩ : ∃ u3, u3 = u2 ++ t := ⟨_, rfl⟩
  have lu1 : u1.length ≤ 1504 := by rw [hu1, List.length_append]; omega
  have lu2 : u2.length ≤ 1505 := by rw [hu2, List.length_append]; omega
  have au1 := add_S l E (by omega)
  have au2 := add_S u1 ZL (by omega)
  have au3 := add_S u2 t (by omega)
  rw [← hu1] at au1
  rw [← hu2] at au2
  rw [← hu3] at au3
  have hu4 : l ++ (E ++ (ZL ++ t)) = u3 := by rw [hu3, hu2, hu1, List.append_assoc, List.append_assoc]
  rw [hu4] at hRD2
  have H3 := Lib.hid h3
  have H4 := Lib.hid h4
  have HA := Lib.hid qa
  have HB := Lib.hid qb
  have HP := Lib.hid hput
  have HRD := Lib.hid hRD2
  have HN := Lib.hid hN
  have HNR := Lib.hid (And.intro hn hnr)
  clear hN hn hnr h3 h4 qa qb hput hRD2 hRD hu4 hu1 hu2 hu3 hE hP1 hR2 hYL hZL hk hy ha hb hv hu
  by_cases hbig : (65535 : Int) < N
  · obtain ⟨M, hM⟩ : ∃ M : Nat, M = n - 65536 := ⟨_, rfl⟩
    have hM2 : M ≤ 1048575 ∧ N - 65536 = (M : Int) ∧ 65536 ≤ n ∧ n ≤ 1114111 := by have := HN.out; have := HNR.out.2; omega
    obtain ⟨r, hr⟩ : ∃ r, r = M % 1024 := ⟨_, rfl⟩
    have hand := and1023 M (by omega)
    rw [← hr, ← hM2.2.1] at hand
    have hr8 : r < 1024 := by omega
    obtain ⟨D, hD⟩ : ∃ D, Qm.h4 big n = D := ⟨_, rfl⟩
    obtain ⟨DA, hDA⟩ : ∃ DA, Qm.h4 big (55296 + M / 1024) = DA := ⟨_, rfl⟩
    obtain ⟨DB, hDB⟩ : ∃ DB, Qm.h4 big (56320 + r) = DB := ⟨_, rfl⟩
    have lD : D.length = 4 := by rw [← hD]; rfl
    have lDA : DA.length = 4 := by rw [← hDA]; rfl
    have lDB : DB.length = 4 := by rw [← hDB]; rfl
    have l2 : ([92, 117] : List UInt8).length = 2 := rfl
    obtain ⟨X0, hX0⟩ : ∃ X0, X0 = [92, 117] ++ D := ⟨_, rfl⟩
    obtain ⟨UA, hUA⟩ : ∃ UA, UA = [92, 117] ++ DA := ⟨_, rfl⟩
    obtain ⟨UU, hUU⟩ : ∃ UU, UU = UA ++ [92, 117] := ⟨_, rfl⟩
    obtain ⟨X, hX'⟩ : ∃ X, X = UU ++ DB := ⟨_, rfl⟩
    have lUA : UA.length = 6 := by rw [hUA, List.length_append]; omega
    have lUU : UU.length = 8 := by rw [hUU, List.length_append]; omega
    have lX' : X.length = 12 := by rw [hX', List.length_append]; omega
    have lX : X.length ≤ 12 := by omega
    have hX : X = Qm.un big (55296 + M / 1024) ++ Qm.un big (56320 + r) := by
      rw [hX', hUU, hUA, ← hDA, ← hDB, List.append_assoc]
      rfl
    have hrd := HRD.out X (fun s => by
      rw [lX', hX, List.append_assoc, hr, hM]
      exact Qm.one_two big n hM2.2.2.1 hM2.2.2.2 s) ⟨_, by rw [hX]; rfl⟩
    have ax0 := add_S [92, 117] D (by omega)
    have ax1 := add_S [92, 117] DA (by omega)
    have ax2 := add_S UA [92, 117] (by omega)
    have ax3 := add_S UU DB (by omega)
    rw [← hX0, ← c92u] at ax0
    rw [← hUA, ← c92u] at ax1
    rw [← hUU, ← c92u] at ax2
    rw [← hX'] at ax3
    have HM2 := Lib.hid hM2
    have HD := Lib.hid hD
    have HDA := Lib.hid hDA
    have HDB := Lib.hid hDB
    clear hD hDA hDB hX0 hUA hUU hX' hr hM hM2 lD lDA lDB l2 lUA lUU lX'
    obtain ⟨C1, hC1⟩ : ∃ C1, C1 = P1 ++ X := ⟨_, rfl⟩
    obtain ⟨C2, hC2⟩ : ∃ C2, C2 = C1 ++ YL := ⟨_, rfl⟩
    obtain ⟨C3, hC3⟩ : ∃ C3, C3 = C2 ++ R2 := ⟨_, rfl⟩
    have lC1 : C1.length ≤ 3020 := by rw [hC1, List.length_append]; omega
    have lC2 : C2.length ≤ 3030 := by rw [hC2, List.length_append]; omega
    have lC3 : Hid (C3.length ≤ 100000000) := by unfold Hid; rw [hC3, List.length_append]; omega
    have ac1 := add_S P1 X (by omega)
    have ac2 := add_S C1 YL (by omega)
    have ac3 := add_S C2 R2 (by omega)
    rw [← hC1] at ac1
    rw [← hC2] at ac2
    rw [← hC3] at ac3
    rw [show P1 ++ (X ++ (YL ++ R2)) = C3 by rw [hC3, hC2, hC1, List.append_assoc, List.append_assoc]] at hrd
    have zC := S_size C3
    have HR := Lib.hid hrd
    clear hrd hC1 hC2 hC3 HRD hX
    go_enter Tryd.func6, Tryd.ntmps6
    go_wp2_with fail
    refine (low_at l _ (by omega) H3.out).mono ?_; rintro e w3 ⟨rfl, rfl⟩
    go_wp2_with fail
    refine (low_at t _ (by omega) H4.out).mono ?_; rintro e w3 ⟨rfl, rfl⟩
    go_wp2_with fail
    refine (awake_any _ hT).mono ?_; rintro e w1 ⟨rfl, h1⟩
    go_wp2_with fail
    refine (Quote_at h1 l (by omega) HA.out).mono ?_; rintro e w2 ⟨rfl, h2⟩
    go_wp2_with fail
    refine (Quote_at h2 t (by omega) HB.out).mono ?_; rintro e w3 ⟨rfl, h3⟩
    go_wp2_with fail
    refine (Put_at _ _ HP.out).mono ?_; rintro e w4 ⟨rfl, rfl⟩
    go_wp2_with fail
    refine (digits_at h3 n big HNR.out.2 HN.out HD.out).mono ?_; rintro e w5 ⟨rfl, h5⟩
    go_wp2_with fail
    refine (digits_at h5 (55296 + M / 1024) big (by have := HM2.out; omega) (by have := HM2.out; omega) HDA.out).mono ?_; rintro e w6 ⟨rfl, h6⟩
    go_wp2_with fail
    refine (digits_at h6 (56320 + r) big (by omega) (by omega) HDB.out).mono ?_; rintro e w7 ⟨rfl, h7⟩
    go_wp2_with fail
    go_region
    all_goals
      go_wp2_with fail
      refine (Read_at h7.drew hT C3 _ lC3.out HR.out).mono ?_; rintro e w9 ⟨rfl, h9⟩
      go_wp2_with fail
      go_ret
      exact ⟨rfl, h9⟩
  · obtain ⟨D, hD⟩ : ∃ D, Qm.h4 big n = D := ⟨_, rfl⟩
    obtain ⟨X, hX⟩ : ∃ X, X = Qm.un big n := ⟨_, rfl⟩
    have lX : X.length ≤ 12 := by rw [hX]; exact (by decide : 6 ≤ 12)
    have hrd := HRD.out X (fun r => by rw [hX]; exact Qm.one_un big n HNR.out.1 (by have := HN.out; omega) r) ⟨_, hX⟩
    have ax := add_S [92, 117] D (by rw [← hD]; exact (by decide : 2 + 4 ≤ 9223372036854775807))
    rw [← hD, show [92, 117] ++ Qm.h4 big n = Qm.un big n from rfl, ← hX, hD, ← c92u] at ax
    have HD := Lib.hid hD
    clear hD
    obtain ⟨C1, hC1⟩ : ∃ C1, C1 = P1 ++ X := ⟨_, rfl⟩
    obtain ⟨C2, hC2⟩ : ∃ C2, C2 = C1 ++ YL := ⟨_, rfl⟩
    obtain ⟨C3, hC3⟩ : ∃ C3, C3 = C2 ++ R2 := ⟨_, rfl⟩
    have lC1 : C1.length ≤ 3020 := by rw [hC1, List.length_append]; omega
    have lC2 : C2.length ≤ 3030 := by rw [hC2, List.length_append]; omega
    have lC3 : Hid (C3.length ≤ 100000000) := by unfold Hid; rw [hC3, List.length_append]; omega
    have ac1 := add_S P1 X (by omega)
    have ac2 := add_S C1 YL (by omega)
    have ac3 := add_S C2 R2 (by omega)
    rw [← hC1] at ac1
    rw [← hC2] at ac2
    rw [← hC3] at ac3
    rw [show P1 ++ (X ++ (YL ++ R2)) = C3 by rw [hC3, hC2, hC1, List.append_assoc, List.append_assoc]] at hrd
    have zC := S_size C3
    have HR := Lib.hid hrd
    clear hrd hC1 hC2 hC3 HRD hX
    go_enter Tryd.func6, Tryd.ntmps6
    go_wp2_with fail
    refine (low_at l _ (by omega) H3.out).mono ?_; rintro e w3 ⟨rfl, rfl⟩
    go_wp2_with fail
    refine (low_at t _ (by omega) H4.out).mono ?_; rintro e w3 ⟨rfl, rfl⟩
    go_wp2_with fail
    refine (awake_any _ hT).mono ?_; rintro e w1 ⟨rfl, h1⟩
    go_wp2_with fail
    refine (Quote_at h1 l (by omega) HA.out).mono ?_; rintro e w2 ⟨rfl, h2⟩
    go_wp2_with fail
    refine (Quote_at h2 t (by omega) HB.out).mono ?_; rintro e w3 ⟨rfl, h3⟩
    go_wp2_with fail
    refine (Put_at _ _ HP.out).mono ?_; rintro e w4 ⟨rfl, rfl⟩
    go_wp2_with fail
    refine (digits_at h3 n big HNR.out.2 HN.out HD.out).mono ?_; rintro e w5 ⟨rfl, h5⟩
    go_wp2_with fail
    go_region
    all_goals
      go_wp2_with fail
      refine (Read_at h5.drew hT C3 _ lC3.out HR.out).mono ?_; rintro e w9 ⟨rfl, h9⟩
      go_wp2_with fail
      go_ret
      exact ⟨rfl, h9⟩
end
theorem law_QuoteEscapes (s t : ByteArray) (n : Int) (big : Bool) (x : UInt8) (w : World) (hs : s.size ≤ maxLen) (ht : t.size ≤ maxLen) (hT : Tab w) :
    Calls Tryd.prog 6 #[.string s, .string t, .int .i64 n, .bool big, .int .u8 (x.toNat : Int)] w fun e w' => e = .returned (.bool true) ∧ Below w.heap.size w w' := by
  unfold maxLen at hs ht
  obtain ⟨l, rfl⟩ := as_S s
  obtain ⟨t, rfl⟩ := as_S t
  have z1 := S_size l
  have z2 := S_size t
  by_cases h : (1500 : Int) < (l.length : Int) ∨ (1500 : Int) < (t.length : Int) ∨ Qm.lowB l = true ∨ Qm.lowB t = true
  · exact esc_early l t n big x w (by omega) (by omega) hT h
  have h1 : l.length ≤ 1500 := by
    apply Nat.le_of_not_lt
    intro e
    exact h (.inl (by omega))
  have h2 : t.length ≤ 1500 := by
    apply Nat.le_of_not_lt
    intro e
    exact h (.inr (.inl (by omega)))
  have h3 : Qm.lowB l = false := by
    rw [Bool.eq_false_iff]
    exact fun e => h (.inr (.inr (.inl e)))
  have h4 : Qm.lowB t = false := by
    rw [Bool.eq_false_iff]
    exact fun e => h (.inr (.inr (.inr e)))
  obtain ⟨b, f, hb⟩ : ∃ b f, QUO t = (b, f) := ⟨_, _, rfl⟩
  obtain ⟨r, g, hp⟩ : ∃ r g, PUT n = (r, g) := ⟨_, _, rfl⟩
  cases hv : (LEN l).2
  · exact esc_no l t n big x w h1 h2 hT h3 h4 _ b r 12 f g (QUO_no (by omega) hv) hb hp (.inl (by decide))
  cases hu : (LEN t).2
  · exact esc_no l t n big x w h1 h2 hT h3 h4 _ _ r 0 12 g (QUO_ok (by omega) hv) (QUO_no (by omega) hu) hp (.inr (.inl (by decide)))
  by_cases hr : rune n
  · refine esc_main l t big x w n n.toNat (by unfold rune at hr; omega) (by unfold rune at hr; unfold Um.rn; omega) h1 h2 hT h3 h4 hv hu
  · exact esc_no l t n big x w h1 h2 hT h3 h4 _ _ _ 0 0 1 (QUO_ok (by omega) hv) (QUO_ok (by omega) hu) (PUT_no hr) (.inr (.inr (by decide)))
end Go.Proofs.YtbeliommhligcaaDoor
