/-
  What quote.Read comes to.
-/
import Derived.Test.YtpifbmcgadjhbaaGreatDoorQuoteRune
import Derived.Lib.AppendStr
namespace Go.Proofs.YtpifbmcgadjhbaaGreatDoor
open Go.RowKit

def RR (x : List UInt8 × Nat × Nat) : Value := .tuple #[.string (S x.1), .int .i64 (x.2.1 : Int), .int .i64 (x.2.2 : Int)]
theorem own_shape {w : World} {B : Nat} {v : Value} {n : Nat} {xs : List Value} (h : w.ownsRow B 5 1 v n xs) : ∃ p c, v = .slice p n c := by
  rcases h.2 with ⟨rfl, rfl⟩ | ⟨g, c, cur, rfl, _⟩
  · exact ⟨none, 0, rfl⟩
  · exact ⟨_, c, rfl⟩
theorem own_below {w w' : World} {B : Nat} {v : Value} {n : Nat} {xs : List Value} (h : w.ownsRow B 5 1 v n xs) (hb : Below w.heap.size w w') : w'.ownsRow B 5 1 v n xs := by
  refine ⟨h.1, ?_⟩
  rcases h.2 with hn | ⟨g, cap, cur, rfl, hbg, hg, rest⟩
  · exact .inl hn
  · exact .inr ⟨g, cap, cur, rfl, hbg, (hb.block _ (Array.getElem?_eq_some_iff.1 hg).1).trans hg, rest⟩
theorem V_append (a b : List UInt8) : V (a ++ b) = V a ++ V b := by simp [V]
theorem strCells_S (u : List UInt8) : Lib.strCells (S u) = V u := by unfold Lib.strCells V; rw [S_data]
/-- (not kept among a walk's facts) -/
theorem PUT_nat {q : Nat} {u : List UInt8} (h : Um.rn q) (e : Um.enc q = u) : PUT (q : Int) = (u, 0) := by
  rw [PUT_ok (by unfold Um.rn at h; unfold rune; omega), Int.toNat_natCast, e]
theorem Put_at (w : World) (k : Int) {x : List UInt8 × Int} (hx : PUT k = x) :
    Calls Tryz.prog 140 #[.int .i64 k] w fun e w' => e = .returned (.tuple #[.string (S x.1), .int .i64 x.2]) ∧ w = w' := by
  subst hx
  exact Put_any k w
theorem one_at (w : World) (l : List UInt8) (p : Nat) (hp : p < l.length) (hl : l.length ≤ 100000000) (hT : Tab w) :
    Calls Tryz.prog 139 #[.string (S l), .int .i64 (p : Int)] w fun e w' => Tells Qm.one l p e ∧ Below w.heap.size w w' := one_any l p w hp hl hT
theorem ret_read {x : List UInt8 × Nat × Nat} {a : List UInt8} {b c : Nat} (h : x = (a, b, c)) : Ending.returned (.tuple #[.string (S a), .int .i64 (b : Int), .int .i64 (c : Int)]) = .returned (RR x) := by rw [h]; rfl
theorem head_drop {l : List UInt8} {p : Nat} {c : UInt8} {t : List UInt8} (h : l.drop p = c :: t) (hc : c ≠ 34) : (l.drop p).head? ≠ some 34 := by
  rw [h]
  intro e
  exact hc (by simpa using e)
set_option maxRecDepth 100000 in
set_option maxHeartbeats 1600000 in
theorem Read_any (l : List UInt8) (k : Int) (w : World) (hl : l.length ≤ 100000000) (hT : Tab w) :
    Calls Tryz.prog 126 #[.string (S l), .int .i64 k] w fun e w' => e = .returned (RR (Qm.RD l k)) ∧ Below w.heap.size w w' := by
  have z1 := S_size l
  have hat := S_at l
  have hB := hT.lt
  by_cases h1 : k < 0
  · have HR : Hid (Qm.RD l k = ([], 0, 1)) := by unfold Qm.RD Hid; rw [if_pos (Or.inl h1)]
    go_enter Tryz.func126, Tryz.ntmps126
    go_wp2_with fail
    go_ret3
    exact ⟨ret_read HR.out, Below.refl _ _⟩
  by_cases h2 : (l.length : Int) < k
  · have HR : Hid (Qm.RD l k = ([], 0, 1)) := by unfold Qm.RD Hid; rw [if_pos (Or.inr h2)]
    go_enter Tryz.func126, Tryz.ntmps126
    go_wp2_with fail
    go_ret3
    exact ⟨ret_read HR.out, Below.refl _ _⟩
  obtain ⟨p, rfl⟩ : ∃ p : Nat, k = (p : Int) := ⟨k.toNat, by omega⟩
  have hp : p ≤ l.length := by omega
  clear h1 h2
  by_cases hin : p < l.length
  · obtain ⟨c, t, hc⟩ := drop_at hin
    obtain ⟨_, _, ht⟩ := at_drop hc
    have hr := Qm.RD_in l p c t hc
    by_cases h34 : c = 34
    · rw [if_pos h34, ← ht] at hr
      have HE : Hid (EXP (l.drop p) 34 3 = 0) := by unfold Hid; rw [hc, h34]; rfl
      have HR := Lib.hid hr
      obtain ⟨i0, hi0, hz0, hz1, hz2⟩ := info_parts info5
      clear hr hc ht h34
      go_enter Tryz.func126, Tryz.ntmps126
      go_wp2_with fail
      refine (expect_at l p 34 3 w hp HE.out rfl rfl rfl).mono ?_; rintro e w1 ⟨rfl, rfl⟩
      go_wp2_with fail
      go_loopw [1, 8, 9, 10, 11, 12, 13] (fun at' out _ _ _ _ _ wr => ∃ (q : Nat) (o : List UInt8), at' = .int .i64 (q : Int) ∧ q ≤ l.length ∧ o.length ≤ 4096 ∧ wr.ownsRow w.heap.size 5 1 out o.length (V o)
          ∧ Hid (Qm.RD l (p : Int) = Qm.cons o q (Qm.RDF (l.drop q) o.length)) ∧ Below w.heap.size w wr) (fun at' _ _ _ _ _ _ _ => l.length - (intOf at').toNat)
      case atStart => exact ⟨p + 1, [], by go_num, by omega, by simp, World.ownsRow_nil w _ _ _, HR.out, Below.refl _ _⟩
      case round =>
        clear HR HE
        obtain ⟨q, o, rfl, hq, ho, hown, HR, hbel⟩ := hrel
        have hsz := hbel.size
        have hT' := hT.below hbel hB
        by_cases hlt : q < l.length
        · obtain ⟨d, u, hd⟩ := drop_at hlt
          obtain ⟨_, hbd, _⟩ := at_drop hd
          by_cases h34 : d = 34
          · have hx : (d.toNat : Int) = 34 := by rw [h34]; rfl
            have HR2 : Hid (Qm.RD l (p : Int) = (o, q + 1, 0)) := by unfold Hid; rw [HR.out, hd, h34, Qm.RDF_end, Qm.cons_ok, List.append_nil]
            have hcv := conv_own wr w.heap.size _ o hown
            clear HR hd h34 hown
            go_wp2_with fail
            go_ret3
            exact ⟨ret_read HR2.out, hbel⟩
          · have hx : ((d.toNat : Int) != 34) = true := by
              rw [bne_iff_ne]
              intro e
              exact h34 (UInt8.toNat_inj.1 (show d.toNat = 34 by omega))
            have HH := Lib.hid (head_drop hd h34)
            clear hd h34
            go_wp2_with fail
            refine (one_at _ l q hlt hl hT').mono ?_; rintro e w1 ⟨ht, hb1⟩
            rcases ht with ⟨r, q2, z, hr, hq2, rfl⟩ | ⟨c, a, b, hc, he, rfl⟩
            · obtain ⟨hg, hz0'⟩ := Qm.one_good hr
              have hzl := hg.len
              rw [List.length_drop] at hzl
              have hel := Um.enc_length r
              have hf := hg.few
              obtain ⟨v, hv⟩ : ∃ v, Um.enc r = v := ⟨_, rfl⟩
              rw [hv] at hel hf
              have z2 := S_size v
              have hrp : r ≤ 1114111 := by have := hg.rn; unfold Um.rn at this; omega
              have HRN := Lib.hid hg.rn
              have HV := Lib.hid hv
              have hb2 := hbel.trans (hb1.mono hsz)
              have hown1 := own_below hown hb1
              have hsz2 := hb2.size
              have HQ2 := Lib.hid hq2
              have HOL := Lib.hid (show (o ++ v).length = o.length + v.length from List.length_append)
              have HR2 : Hid (Qm.one (l.drop q) = (r, z, 0)) := hr
              clear hown hb1 hbel hg hr hv hq2
              by_cases hlong : (4096 : Int) < (o.length : Int) + (v.length : Int)
              · have HR3 : Hid (Qm.RD l (p : Int) = ([], 0, 5)) := by
                  unfold Hid
                  rw [HR.out, Qm.RDF_long _ HH.out HR2.out (by rw [HV.out]; omega), Qm.cons_no _ _ (by decide)]
                clear HR HH HR2
                go_wp2_with fail
                refine (Put_at _ _ (PUT_nat HRN.out HV.out)).mono ?_; rintro e w2 ⟨rfl, rfl⟩
                go_wp2_with (at_builtin; refine Lib.wpList_append_own_string _ rfl _ _ 36 9 rfl w.heap.size 5 i0 Tryz.underlying36 Tryz.underlying9 hi0 hz0 hz1 hz2 _ o.length (V o) rfl hown1 (S v) rfl (by unfold maxLen; omega) (by omega) hsz2 ?_; intro v' w3 hown2 hgrow _; obtain ⟨pp, cc, rfl⟩ := own_shape hown2)
                have hb3 := hb2.grown hgrow hsz2 (fun g e => (hown1.lt _ e).1)
                go_ret3
                exact ⟨ret_read HR3.out, hb3⟩
              · have HR3 : Hid (Qm.RD l (p : Int) = Qm.cons (o ++ v) q2 (Qm.RDF (l.drop q2) (o ++ v).length)) := by
                  unfold Hid
                  rw [HR.out, Qm.RDF_ok _ HH.out HR2.out (by rw [HV.out]; omega), Qm.cons_cons, List.drop_drop, HV.out, HOL.out, HQ2.out]
                clear HR HH HR2
                go_wp2_with fail
                refine (Put_at _ _ (PUT_nat HRN.out HV.out)).mono ?_; rintro e w2 ⟨rfl, rfl⟩
                go_wp2_with (at_builtin; refine Lib.wpList_append_own_string _ rfl _ _ 36 9 rfl w.heap.size 5 i0 Tryz.underlying36 Tryz.underlying9 hi0 hz0 hz1 hz2 _ o.length (V o) rfl hown1 (S v) rfl (by unfold maxLen; omega) (by omega) hsz2 ?_; intro v' w3 hown2 hgrow _; obtain ⟨pp, cc, rfl⟩ := own_shape hown2)
                have hb3 := hb2.grown hgrow hsz2 (fun g e => (hown1.lt _ e).1)
                rw [strCells_S, z2] at hown2
                have hown3 : w3.ownsRow w.heap.size 5 1 (.slice pp (o.length + v.length) cc) (o ++ v).length (V (o ++ v)) := by
                  rw [HOL.out, V_append]
                  exact hown2
                go_roundw
                case rel => exact ⟨q2, o ++ v, rfl, by have := HQ2.out; omega, by have := HOL.out; omega, hown3, HR3, hb3⟩
                case measure => have := HQ2.out; simp [intOf]; omega
            · have HR2 : Hid (Qm.RD l (p : Int) = ([], 0, c)) := by unfold Hid; rw [HR.out, Qm.RDF_bad _ HH.out he hc, Qm.cons_no _ _ hc]
              have hcb : ((c : Int) != 0) = true := by rw [bne_iff_ne]; omega
              have hb2 := hbel.trans (hb1.mono hsz)
              clear HR HH hc he hown
              go_wp2_with fail
              go_ret3
              exact ⟨ret_read HR2.out, hb2⟩
        · have HR2 : Hid (Qm.RD l (p : Int) = ([], 0, 4)) := by unfold Hid; rw [HR.out, bt_nil l q (by omega), Qm.RDF_nil, Qm.cons_no _ _ (by decide)]
          obtain rfl : q = l.length := by omega
          clear HR hown
          go_wp2_with fail
          go_ret3
          exact ⟨ret_read HR2.out, hbel⟩
    · rw [if_neg h34] at hr
      have HE : Hid (EXP (l.drop p) 34 3 = 3) := by
        unfold Hid
        rw [hc, EXP]
        exact if_neg fun e => h34 (UInt8.toNat_inj.1 e)
      have HR := Lib.hid hr
      clear hr hc ht h34
      go_enter Tryz.func126, Tryz.ntmps126
      go_wp2_with fail
      refine (expect_at l p 34 3 w hp HE.out rfl rfl rfl).mono ?_; rintro e w1 ⟨rfl, rfl⟩
      go_wp2_with fail
      go_ret3
      exact ⟨ret_read HR.out, Below.refl _ _⟩
  · have HR : Hid (Qm.RD l (p : Int) = ([], 0, 4)) := by
      unfold Qm.RD Hid
      rw [if_neg (by omega), Int.toNat_natCast, bt_nil l p (by omega)]
    have HE : Hid (EXP (l.drop p) 34 3 = 4) := by unfold Hid; rw [bt_nil l p (by omega)]; rfl
    go_enter Tryz.func126, Tryz.ntmps126
    go_wp2_with fail
    refine (expect_at l p 34 3 w hp HE.out rfl rfl rfl).mono ?_; rintro e w1 ⟨rfl, rfl⟩
    go_wp2_with fail
    go_ret3
    exact ⟨ret_read HR.out, Below.refl _ _⟩
end Go.Proofs.YtpifbmcgadjhbaaGreatDoor
