/-
  What the document's Read of a string comes to.
-/
import Derived.Test.YtjbkbkfhbombbaaGreatDoorQuoteRefEsc
import Derived.Test.YtjbkbkfhbombbaaGreatDoorQuoteProg
namespace Go.Proofs.YtjbkbkfhbombbaaGreatDoor
open Go.RowKit

theorem Qm.one_esc' {l : List UInt8} {q : Nat} {d : UInt8} (hd : l.drop q = d :: l.drop (q + 1)) (h92 : d = 92) : Qm.one (l.drop q) = Qm.shift 1 (Qm.escd (l.drop (q + 1))) := by
  rw [hd, h92]
  rfl
theorem Qm.one_low {l : List UInt8} {q : Nat} {d : UInt8} (hd : l.drop q = d :: l.drop (q + 1)) (h : d.toNat < 32) : Qm.one (l.drop q) = (0, 0, 3) := by
  rw [hd]
  show (if d < 32 then _ else _) = _
  rw [if_pos (UInt8.lt_iff_toNat_lt.2 h)]
theorem Qm.one_nx {l : List UInt8} {q : Nat} {d : UInt8} (hd : l.drop q = d :: l.drop (q + 1)) (h : ¬ d.toNat < 32) (h92 : d ≠ 92) : Qm.one (l.drop q) = Um.nx (l.drop q) := by
  rw [hd]
  show (if d < 32 then _ else if d = 92 then _ else _) = _
  rw [if_neg (fun h' => h (UInt8.lt_iff_toNat_lt.1 h')), if_neg h92]
set_option maxHeartbeats 4000000 in
set_option maxRecDepth 3000 in
theorem refQuoteRead_any (l : List UInt8) (k : Int) (w : World) (hl : l.length ≤ 100000000) :
    Calls Tryz.prog 13 #[.string (S l), .int .i64 k] w fun e w' => e = .returned (RR (Qm.RD l k)) ∧ Below w.heap.size w w' := by
  have z1 := S_size l
  have hat := Tx_at l
  by_cases h1 : k < 0
  · have HR : Hid (Qm.RD l k = ([], 0, 1)) := by unfold Qm.RD Hid; rw [if_pos (Or.inl h1)]
    go_enter Tryz.func13, Tryz.ntmps13
    go_wp2_with fail
    go_ret3
    exact ⟨ret_read HR.out, Below.refl _ _⟩
  by_cases h2 : (l.length : Int) < k
  · have HR : Hid (Qm.RD l k = ([], 0, 1)) := by unfold Qm.RD Hid; rw [if_pos (Or.inr h2)]
    go_enter Tryz.func13, Tryz.ntmps13
    go_wp2_with fail
    go_ret3
    exact ⟨ret_read HR.out, Below.refl _ _⟩
  obtain ⟨p, rfl⟩ : ∃ p : Nat, k = (p : Int) := ⟨k.toNat, by omega⟩
  have hp : p ≤ l.length := by omega
  by_cases hend : (p : Int) = (l.length : Int)
  · have HR : Hid (Qm.RD l (p : Int) = ([], 0, 4)) := by
      unfold Qm.RD Hid
      rw [if_neg (by omega), Int.toNat_natCast, List.drop_of_length_le (by omega)]
    have hpl : p = l.length := by omega
    have hee : ((p : Int) == (l.length : Int)) = true := beq_iff_eq.2 hend
    clear hend hpl
    go_enter Tryz.func13, Tryz.ntmps13
    go_wp2_with fail
    go_ret3
    exact ⟨ret_read HR.out, Below.refl _ _⟩
  have hee : ((p : Int) == (l.length : Int)) = false := beq_eq_false_iff_ne.2 hend
  obtain ⟨c, hc, hdr⟩ := Tx.drop_cons (show p < l.length by omega)
  have hr := Qm.RD_in l p c _ hdr
  have hpl : p < l.length := by omega
  have hpl' : (p : Int) < (l.length : Int) := by omega
  clear hend
  by_cases h34 : (Tx.bt l p : Int) = 34
  · have hcc : c = 34 := UInt8.toNat.inj (by rw [hc, show Tx.bt l p = 34 by omega]; rfl)
    rw [if_pos hcc] at hr
    have HR := Lib.hid hr
    clear hr hc hdr hcc
    go_enter Tryz.func13, Tryz.ntmps13
    go_wp2_with fail
    go_loopw [1, 7, 8, 9, 10, 11, 12, 13] (fun av ov _ _ _ _ _ _ wr => ∃ (q : Nat) (o : List UInt8), av = .int .i64 (q : Int) ∧ q ≤ l.length ∧ o.length ≤ 4096 ∧ ov = .string (S o)
        ∧ Hid (Qm.RD l (p : Int) = Qm.cons o q (Qm.RDF (l.drop q) o.length)) ∧ Below w.heap.size w wr) (fun av _ _ _ _ _ _ _ _ => l.length - (intOf av).toNat)
    case atStart => exact ⟨p + 1, [], by go_num, by omega, by simp, rfl, HR, Below.refl _ _⟩
    case round =>
      clear HR
      obtain ⟨q, o, rfl, hq, ho, rfl, HR, hbel⟩ := hrel
      by_cases hlt : (q : Int) < (l.length : Int)
      · obtain ⟨d, hd, hdd⟩ := Tx.drop_cons (show q < l.length by omega)
        have hql : q < l.length := by omega
        have hby := Tx.bt_lt l q
        by_cases he34 : (Tx.bt l q : Int) = 34
        · have HR2 : Hid (Qm.RD l (p : Int) = (o, q + 1, 0)) := by
            have hd34 : d = 34 := UInt8.toNat.inj (by rw [hd, show Tx.bt l q = 34 by omega]; rfl)
            rw [Hid, HR.out, hdd, hd34, Qm.RDF_end, Qm.cons_ok, List.append_nil]
          clear HR hd hdd
          go_wp2_with fail
          go_ret3
          exact ⟨ret_read HR2.out, hbel⟩
        have hb34 : ((Tx.bt l q : Int) == 34) = false := beq_eq_false_iff_ne.2 he34
        have HH := Lib.hid (head_drop hdd (fun e => he34 (by rw [← hd, e]; rfl)))
        by_cases hlow : (Tx.bt l q : Int) < 32
        · have HR2 : Hid (Qm.RD l (p : Int) = ([], 0, 3)) := by
            rw [Hid, HR.out, Qm.RDF_bad _ HH.out (by rw [Qm.one_low hdd (by omega)]) (by decide), Qm.cons_no _ _ (by decide)]
          clear HR hd hdd
          go_wp2_with fail
          go_ret3
          exact ⟨ret_read HR2.out, hbel⟩
        by_cases h92 : (Tx.bt l q : Int) = 92
        · have hd92 : d = 92 := UInt8.toNat.inj (by rw [hd, show Tx.bt l q = 92 by omega]; rfl)
          have hsh := Qm.one_esc' hdd hd92
          have hqi : (q : Int) + 1 = ((q + 1 : Nat) : Int) := by omega
          have cE := fun w => escape_any l (q + 1) w (by omega) hl
          rw [← hqi] at cE
          have HSH := Lib.hid hsh
          clear hsh hd hdd hd92 hqi
          go_wp2_with fail
          refine (cE _).mono ?_; rintro e w2 ⟨ht, b2⟩
          have hbel := hbel.trans (b2.mono hbel.size)
          clear b2 cE
          rcases ht with ⟨r, q2, z0, hr, hq20, rfl⟩ | ⟨x, a, b, hx, hex, rfl⟩
          · have hone : Qm.one (l.drop q) = (r, z0 + 1, 0) := by rw [HSH.out, hr]; rfl
            obtain ⟨z, hz⟩ : ∃ z, z = z0 + 1 := ⟨_, rfl⟩
            rw [← hz] at hone
            have hq2 : q2 = q + z := by omega
            clear hr hq20 HSH hz
            obtain ⟨hg, hz0'⟩ := Qm.one_good hone
            have hzl := hg.len
            rw [List.length_drop] at hzl
            have hel := Um.enc_length r
            obtain ⟨v, hv⟩ : ∃ v, Um.enc r = v := ⟨_, rfl⟩
            rw [hv] at hel
            have zv := S_size v
            have zo := S_size o
            have hP := fun w => refPut_any (r : Int) w
            rw [PUT_nat hg.rn hv] at hP
            have HONE := Lib.hid hone
            have HQ2 := Lib.hid hq2
            have HV := Lib.hid hv
            have hq2l : q2 ≤ l.length := by omega
            have hqq : q < q2 := by omega
            clear hg hv hone hq2 hzl hz0'
            by_cases hlong : (4096 : Int) < (o.length : Int) + (v.length : Int)
            · have HR3 : Hid (Qm.RD l (p : Int) = ([], 0, 5)) := by
                rw [Hid, HR.out, Qm.RDF_long _ HH.out HONE.out (by rw [HV.out]; omega), Qm.cons_no _ _ (by decide)]
              clear HR HH HONE
              go_wp2_with fail
              refine (hP _).mono ?_; rintro e w2 ⟨rfl, b2⟩
              go_wp2_with fail
              go_ret3
              exact ⟨ret_read HR3.out, hbel.trans (b2.mono hbel.size)⟩
            · have HR3 : Hid (Qm.RD l (p : Int) = Qm.cons (o ++ v) q2 (Qm.RDF (l.drop q2) (o ++ v).length)) := by
                rw [Hid, HR.out, Qm.RDF_ok _ HH.out HONE.out (by rw [HV.out]; omega), Qm.cons_cons, HV.out, List.drop_drop, ← HQ2.out, List.length_append]
              have hadd : ∀ w, (Op.stringOp .add (S o) (S v)).run Tryz.prog w = .ok (.string (S (o ++ v))) w := fun w => add_S o v (by omega) w
              have HL : Hid ((o ++ v).length ≤ 4096) := by rw [Hid, List.length_append]; omega
              clear HR HH HONE
              go_wp2_with fail
              refine (hP _).mono ?_; rintro e w2 ⟨rfl, b2⟩
              go_wp2_with fail
              go_roundw
              case rel => exact ⟨q2, o ++ v, rfl, hq2l, HL.out, rfl, HR3, hbel.trans (b2.mono hbel.size)⟩
              case measure => simp [intOf]; omega
          · have hxb : ((x : Int) != 0) = true := bne_iff_ne.2 (by omega)
            have HR2 : Hid (Qm.RD l (p : Int) = ([], 0, x)) := by
              rw [Hid, HR.out, Qm.RDF_bad _ HH.out (e := x) (by rw [HSH.out]; unfold Qm.shift; rw [if_neg (by rw [hex]; exact hx)]; exact hex) hx, Qm.cons_no _ _ hx]
            clear HR hex HSH
            go_wp2_with fail
            go_ret3
            exact ⟨ret_read HR2.out, hbel⟩
        · have hb92 : ((Tx.bt l q : Int) == 92) = false := beq_eq_false_iff_ne.2 h92
          have hnx := Qm.one_nx hdd (by omega) (fun e => h92 (by rw [← hd, e]; rfl))
          obtain ⟨r, z, x, hx⟩ : ∃ r z x, Um.nx (l.drop q) = (r, z, x) := ⟨_, _, _, rfl⟩
          have cN : ∀ w, Calls Tryz.prog 22 #[.string (S l), .int .i64 (q : Int)] w fun e w' => e = .returned (.tuple #[.int .i64 (r : Int), .int .i64 (z : Int), .int .i64 (x : Int)]) ∧ Below w.heap.size w w' := fun w => by
            have h := refNext_any l (q : Int) w hl
            rw [NX_in l q hq, hx] at h
            exact h
          have hz0 : x ≠ 0 → z = 0 := fun hx0 => by
            rcases Um.nx_cases (l.drop q) with ⟨h, _⟩ | h | h
            · rw [hx] at h; exact absurd h hx0
            · rw [hx] at h; simp at h; exact h.2.1
            · rw [hx] at h; simp at h; exact h.2.1
          rw [hx] at hnx
          clear hd hdd hx
          by_cases hx0 : x = 0
          · subst hx0
            have hone := hnx
            obtain ⟨q2, hq2⟩ : ∃ q2, q2 = q + z := ⟨_, rfl⟩
            have hq2i : (q : Int) + (z : Int) = (q2 : Int) := by omega
            clear hnx
            obtain ⟨hg, hz0'⟩ := Qm.one_good hone
            have hzl := hg.len
            rw [List.length_drop] at hzl
            have hel := Um.enc_length r
            obtain ⟨v, hv⟩ : ∃ v, Um.enc r = v := ⟨_, rfl⟩
            rw [hv] at hel
            have zv := S_size v
            have zo := S_size o
            have hP := fun w => refPut_any (r : Int) w
            rw [PUT_nat hg.rn hv] at hP
            have HONE := Lib.hid hone
            have HQ2 := Lib.hid hq2
            have HV := Lib.hid hv
            have hq2l : q2 ≤ l.length := by omega
            have hqq : q < q2 := by omega
            clear hg hv hone hq2 hzl hz0'
            go_wp2_with fail
            refine (cN _).mono ?_; rintro e w2 ⟨rfl, b2⟩
            have hbel := hbel.trans (b2.mono hbel.size)
            clear b2 cN
            by_cases hlong : (4096 : Int) < (o.length : Int) + (v.length : Int)
            · have HR3 : Hid (Qm.RD l (p : Int) = ([], 0, 5)) := by
                rw [Hid, HR.out, Qm.RDF_long _ HH.out HONE.out (by rw [HV.out]; omega), Qm.cons_no _ _ (by decide)]
              clear HR HH HONE
              go_wp2_with fail
              refine (hP _).mono ?_; rintro e w2 ⟨rfl, b2⟩
              go_wp2_with fail
              go_ret3
              exact ⟨ret_read HR3.out, hbel.trans (b2.mono hbel.size)⟩
            · have HR3 : Hid (Qm.RD l (p : Int) = Qm.cons (o ++ v) q2 (Qm.RDF (l.drop q2) (o ++ v).length)) := by
                rw [Hid, HR.out, Qm.RDF_ok _ HH.out HONE.out (by rw [HV.out]; omega), Qm.cons_cons, HV.out, List.drop_drop, ← HQ2.out, List.length_append]
              have hadd : ∀ w, (Op.stringOp .add (S o) (S v)).run Tryz.prog w = .ok (.string (S (o ++ v))) w := fun w => add_S o v (by omega) w
              have HL : Hid ((o ++ v).length ≤ 4096) := by rw [Hid, List.length_append]; omega
              clear HR HH HONE
              go_wp2_with fail
              refine (hP _).mono ?_; rintro e w2 ⟨rfl, b2⟩
              go_wp2_with fail
              go_roundw
              case rel => exact ⟨q2, o ++ v, rfl, hq2l, HL.out, rfl, HR3, hbel.trans (b2.mono hbel.size)⟩
              case measure => simp [intOf]; omega
          · have hxb : ((x : Int) != 0) = true := bne_iff_ne.2 (by omega)
            have HR2 : Hid (Qm.RD l (p : Int) = ([], 0, x)) := by
              rw [Hid, HR.out, Qm.RDF_bad _ HH.out (e := x) (by rw [hnx]) hx0, Qm.cons_no _ _ hx0]
            obtain rfl := hz0 hx0
            clear HR hnx
            go_wp2_with fail
            refine (cN _).mono ?_; rintro e w2 ⟨rfl, b2⟩
            go_wp2_with fail
            go_ret3
            exact ⟨ret_read HR2.out, hbel.trans (b2.mono hbel.size)⟩
      · have HR2 : Hid (Qm.RD l (p : Int) = ([], 0, 4)) := by
          rw [Hid, HR.out, List.drop_of_length_le (by omega), Qm.RDF_nil, Qm.cons_no _ _ (by decide)]
        clear HR
        go_wp2_with fail
        go_ret3
        exact ⟨ret_read HR2.out, hbel⟩
  · have hb34 : ((Tx.bt l p : Int) != 34) = true := bne_iff_ne.2 h34
    rw [if_neg (fun e => h34 (by rw [← hc, e]; rfl))] at hr
    have HR := Lib.hid hr
    clear hr hc hdr
    go_enter Tryz.func13, Tryz.ntmps13
    go_wp2_with fail
    go_ret3
    exact ⟨ret_read HR.out, Below.refl _ _⟩
end Go.Proofs.YtjbkbkfhbombbaaGreatDoor
