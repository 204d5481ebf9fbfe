/-
  What the document's part and May come to: may a value be?
-/
import Derived.Test.YtpifbmcgadjhbaaGreatDoorValRise
import Derived.Test.YtpifbmcgadjhbaaGreatDoorValRefDep
import Derived.Test.YtpifbmcgadjhbaaGreatDoorValSize
import Derived.Test.YtpifbmcgadjhbaaGreatDoorText
namespace Go.Proofs.YtpifbmcgadjhbaaGreatDoor
open Go.RowKit

namespace JV
mutual
/-- may a value be, but for how much, and how deep, it is? -/
def part : JV → Bool
  | .mk k n t ns is => if k = 1 then (n == 0 || n == 1) && (t.length == 0 && (ns.length == 0 && is.length == 0)) else if k = 2 then t.length == 0 && (ns.length == 0 && is.length == 0)
    else if k = 3 then n == 0 && (Jn.txt t && (ns.length == 0 && is.length == 0))
    else if k = 4 ∨ k = 5 then (n == 0 && (t.length == 0 && ((k != 4 || ns.length == 0) && ((k != 5 || ns.length == is.length) && Jn.rise ns)))) && (ns.all Jn.txt && parts is) else false
def parts : List JV → Bool
  | [] => true
  | x :: xs => part x && parts xs
end
theorem parts_all : ∀ xs : List JV, (∀ (i : Nat) (x : JV), xs[i]? = some x → part x = true) → parts xs = true
  | [], _ => rfl
  | x :: xs, h => by
    rw [parts, h 0 x rfl, Bool.true_and]
    exact parts_all xs fun i y hy => h (i + 1) y (by simpa using hy)
theorem parts_no : ∀ {xs : List JV} {i : Nat} {x : JV}, xs[i]? = some x → part x = false → parts xs = false
  | [], i, x, h, _ => by simp at h
  | y :: ys, 0, x, h, hp => by
    obtain rfl : y = x := by simpa using h
    rw [parts, hp, Bool.false_and]
  | y :: ys, i + 1, x, h, hp => by
    rw [parts, parts_no (show ys[i]? = some x by simpa using h) hp, Bool.and_false]
theorem part_eq (x : JV) : part x = if x.k = 1 then (x.n == 0 || x.n == 1) && (x.t.length == 0 && (x.ns.length == 0 && x.is.length == 0)) else if x.k = 2 then x.t.length == 0 && (x.ns.length == 0 && x.is.length == 0)
    else if x.k = 3 then x.n == 0 && (Jn.txt x.t && (x.ns.length == 0 && x.is.length == 0))
    else if x.k = 4 ∨ x.k = 5 then (x.n == 0 && (x.t.length == 0 && ((x.k != 4 || x.ns.length == 0) && ((x.k != 5 || x.ns.length == x.is.length) && Jn.rise x.ns)))) && (x.ns.all Jn.txt && parts x.is) else false := by
  match x with
  | .mk k n t ns is => rw [part]; rfl
theorem txts_no {ns : List (List UInt8)} {i : Nat} {x : List UInt8} (h : ns[i]? = some x) (hp : Jn.txt x = false) : ns.all Jn.txt = false := by
  rw [List.all_eq_false]
  exact ⟨x, List.mem_of_getElem? h, by rw [hp]; exact Bool.false_ne_true⟩
end JV
theorem empty_facts {t : List UInt8} (h : (t.length == 0) = true) : (S t).toList = [] ∧ (S t).toList.isEmpty = true := by
  obtain rfl := List.length_eq_zero_iff.1 (beq_iff_eq.1 h)
  exact ⟨S_toList [], by rw [S_toList]; rfl⟩
theorem full_facts {t : List UInt8} (h : (t.length == 0) = false) : ¬ (S t).toList = [] ∧ (S t).toList.isEmpty = false := by
  rw [S_toList]
  cases t with
  | nil => simp at h
  | cons a r => simp
theorem zero_beq (r : Nat) : ((r : Int) == 0) = (r == 0) := by
  rw [Bool.eq_iff_iff, beq_iff_eq, beq_iff_eq]
  omega
theorem ret_eq {b c d : Bool} (h : b = c) (h2 : d = c) : Ending.returned (.bool d) = .returned (.bool b) := by rw [h, h2]
set_option maxHeartbeats 8000000 in
set_option maxRecDepth 10000 in
theorem refPart_any : ∀ (K : Nat) (x : JV), x.cnt ≤ K → x.wt ≤ 90000 → ∀ (w : World) (v : Value), HV w v x →
    Calls Tryz.prog 32 #[v] w fun e w' => e = .returned (.bool x.part) ∧ Below w.heap.size w w' := by
  intro K
  induction K with
  | zero => intro x h; have := x.cnt_pos; omega
  | succ K ih =>
  intro x hK hwt w v hv
  obtain ⟨cs, rfl, hc⟩ := hv
  obtain ⟨a, b, ca, cb, rfl, hB, hN, hI⟩ := hc.form
  have hwe := x.wt_eq
  have hnl := JV.wn_len x.ns
  have hil := JV.len_le x.is
  have hic := JV.cnts_wt x.is
  obtain ⟨m, hm⟩ : ∃ m, x.is.length = m := ⟨_, rfl⟩
  obtain ⟨r, hr⟩ : ∃ r, x.ns.length = r := ⟨_, rfl⟩
  have hm2 : (m : Int) ≤ 90000 := by omega
  have hr2 : (r : Int) ≤ 90000 := by omega
  have htl : x.t.length ≤ 90000 := by omega
  rw [hm, hr]
  have HM := Lib.hid hm
  have HR := Lib.hid hr
  have HP := Lib.hid x.part_eq
  obtain ⟨kI, hk⟩ : ∃ z : Int, z = (x.k : Int) := ⟨_, rfl⟩
  obtain ⟨nI, hn⟩ : ∃ z : Int, z = x.n := ⟨_, rfl⟩
  rw [← hk, ← hn]
  have HK := Lib.hid hk
  have HNn := Lib.hid hn
  have hrr := refRise_any x.ns a ca
  rw [hr] at hrr
  have cR := fun w hN => hrr w hN (by omega)
  have cT := fun w => refText_any x.t w (by omega)
  clear hm hr hk hn hc hB hnl hil hic hrr
  obtain ⟨W1, hW1⟩ : ∃ W, W = w.alloc (.cells #[.int .u8 kI, .int .i64 nI, .string (S x.t), .slice a r ca, .slice b m cb] 26) := ⟨_, rfl⟩
  have V1 : VAt w.heap.size W1 (.int .u8 kI) (.int .i64 nI) (.string (S x.t)) (.slice a r ca) (.slice b m cb) := by rw [hW1]; exact VAt.new ..
  have b1 : Below w.heap.size w W1 := by rw [hW1]; exact (Below.refl _ _).alloc (Nat.le_refl _) _
  obtain ⟨p3, hp3⟩ : ∃ p, (x.t.length == 0) = p := ⟨_, rfl⟩
  obtain ⟨p4, hp4⟩ : ∃ p, ((r : Int) == 0) = p := ⟨_, rfl⟩
  obtain ⟨p5, hp5⟩ : ∃ p, ((m : Int) == 0) = p := ⟨_, rfl⟩
  obtain ⟨b1', h1⟩ : ∃ p, (nI == 0) = p := ⟨_, rfl⟩
  have HP3 := Lib.hid hp3
  have HP4 : Hid ((r == 0) = p4) := by rw [Hid, ← zero_beq]; exact hp4
  have HP5 : Hid ((m == 0) = p5) := by rw [Hid, ← zero_beq]; exact hp5
  have HB1 := Lib.hid h1
  by_cases k1 : kI = 1
  · subst k1
    obtain ⟨b2', h2⟩ : ∃ p, (nI == 1) = p := ⟨_, rfl⟩
    have HP : Hid (x.part = ((b1' || b2') && (p3 && (p4 && p5)))) := by
      rw [Hid, HP.out, if_pos (by have := HK.out; omega), HM.out, HR.out, ← HNn.out, HP3.out, HP4.out, HP5.out, HB1.out, h2]
    cases b1' <;> cases b2' <;> cases p3 <;> cases p4 <;> cases p5
    all_goals
      first | (obtain ⟨s1, s2⟩ := empty_facts hp3) | (obtain ⟨s1, s2⟩ := full_facts hp3)
      clear hp3
      go_enter Tryz.func32, Tryz.ntmps32
      go_wp2_with fail
      rw [← hW1]
      go_ret
      exact ⟨ret_eq HP.out rfl, b1⟩
  by_cases k2 : kI = 2
  · subst k2
    have HP : Hid (x.part = (p3 && (p4 && p5))) := by
      rw [Hid, HP.out, if_neg (by have := HK.out; omega), if_pos (by have := HK.out; omega), HM.out, HR.out, HP3.out, HP4.out, HP5.out]
    cases p3 <;> cases p4 <;> cases p5
    all_goals
      first | (obtain ⟨s1, s2⟩ := empty_facts hp3) | (obtain ⟨s1, s2⟩ := full_facts hp3)
      clear hp3
      go_enter Tryz.func32, Tryz.ntmps32
      go_wp2_with fail
      rw [← hW1]
      go_ret
      exact ⟨ret_eq HP.out rfl, b1⟩
  by_cases k3 : kI = 3
  · subst k3
    obtain ⟨p6, hp6⟩ : ∃ p, Jn.txt x.t = p := ⟨_, rfl⟩
    have HP : Hid (x.part = (b1' && (p6 && (p4 && p5)))) := by
      rw [Hid, HP.out, if_neg (by have := HK.out; omega), if_neg (by have := HK.out; omega), if_pos (by have := HK.out; omega), HM.out, HR.out, ← HNn.out, HP4.out, HP5.out, HB1.out, hp6]
    rw [hp6] at cT
    clear hp3 hp6
    cases b1'
    · go_enter Tryz.func32, Tryz.ntmps32
      go_wp2_with fail
      rw [← hW1]
      go_ret
      exact ⟨ret_eq HP.out rfl, b1⟩
    · cases p6 <;> cases p4 <;> cases p5
      all_goals
        go_enter Tryz.func32, Tryz.ntmps32
        go_wp2_with fail
        rw [← hW1]
        refine (cT _).mono ?_; rintro e w2 ⟨rfl, b2⟩
        have V2 := V1.below b2
        obtain ⟨⟨z0, z1, z2, z3, z4⟩, _⟩ := V2.cells
        go_wp2_with fail
        go_ret
        exact ⟨ret_eq HP.out rfl, b1.trans (b2.mono b1.size)⟩
  by_cases k4 : kI = 4
  · subst k4
    obtain ⟨ri, hri⟩ : ∃ q, Jn.rise x.ns = q := ⟨_, rfl⟩
    rw [hri] at cR
    clear hp4 hp5
    have HP : Hid (x.part = ((b1' && (p3 && (p4 && (true && ri)))) && (x.ns.all Jn.txt && JV.parts x.is))) := by
      rw [Hid, HP.out, if_neg (by have := HK.out; omega), if_neg (by have := HK.out; omega), if_neg (by have := HK.out; omega), if_pos (by have := HK.out; omega), HR.out, ← HNn.out, HP3.out, HP4.out, HB1.out, hri, show x.k = 4 by have := HK.out; omega]
      rfl
    clear hri
    obtain ⟨rI, hrI⟩ : ∃ rI : Int, (r : Int) = rI := ⟨_, rfl⟩
    have hr0 : decide ((0 : Int) < rI) = !p4 := by
      rw [← HP4.out, ← hrI, Bool.eq_iff_iff, decide_eq_true_eq, Bool.not_eq_true', beq_eq_false_iff_ne]
      omega
    cases b1' <;> cases p3 <;> cases p4
    case true.true.true =>
      obtain rfl : nI = 0 := beq_iff_eq.1 h1
      obtain ⟨s1, s2⟩ := empty_facts hp3
      clear hp3
      go_enter Tryz.func32, Tryz.ntmps32
      go_wp2_with fail
      clear hrI hr0
      rw [← hW1]
      refine (cR _ (hN.below b1)).mono ?_; rintro e w2 ⟨rfl, b2⟩
      have V2 := V1.below b2
      have c2 := b1.trans (b2.mono b1.size)
      obtain ⟨⟨z0, z1, z2, z3, z4⟩, _⟩ := V2.cells
      clear b2 hW1
      cases ri
      · go_wp2_with fail
        go_ret
        exact ⟨ret_eq HP.out (by first | rfl | simp), c2⟩
      · have HP : Hid (x.part = (x.ns.all Jn.txt && JV.parts x.is)) := by rw [Hid, HP.out]; simp
        go_wp2_with fail
        clear z0 z1 z2 z3 z4
        go_loopw [3] (fun iv wr => ∃ i : Nat, iv = .int .i64 (i : Int) ∧ i ≤ r ∧ Hid (∀ (j : Nat) (z : List UInt8), j < i → x.ns[j]? = some z → Jn.txt z = true) ∧ VAt w.heap.size wr (.int .u8 4) (.int .i64 0) (.string (S x.t)) (.slice a r ca) (.slice b m cb) ∧ Below w.heap.size w wr) (fun iv _ => r - (intOf iv).toNat)
        case atStart => exact ⟨0, rfl, Nat.zero_le _, fun j z h => by omega, V2, c2⟩
        case round =>
          clear V2 c2
          obtain ⟨i, rfl, hi, HS, V2, c2⟩ := hrel
          obtain ⟨⟨z0, z1, z2, z3, z4⟩, _⟩ := V2.cells
          by_cases hlt : (i : Int) < (r : Int)
          · obtain ⟨z, hz⟩ : ∃ z, x.ns[i]? = some z := ⟨x.ns[i]'(by have := HR.out; omega), List.getElem?_eq_getElem _⟩
            obtain ⟨bb, oo, rfl, gz⟩ := (hN.below c2) i z hz
            have hzl := JV.wn_get hz
            have cZ := fun w => refText_any z w (by omega)
            have HZ := Lib.hid hz
            obtain ⟨q, hq⟩ : ∃ q, Jn.txt z = q := ⟨_, rfl⟩
            rw [hq] at cZ
            have HQ := Lib.hid hq
            clear hz hzl hq
            cases q
            · go_wp2_with fail
              refine (cZ _).mono ?_; rintro e w3 ⟨rfl, b3⟩
              go_wp2_with fail
              go_ret
              exact ⟨ret_eq HP.out (by rw [JV.txts_no HZ.out HQ.out]; rfl), c2.trans (b3.mono c2.size)⟩
            · go_wp2_with fail
              refine (cZ _).mono ?_; rintro e w3 ⟨rfl, b3⟩
              have V3 := V2.below b3
              have c3 := c2.trans (b3.mono c2.size)
              go_wp2_with fail
              go_roundw
              case rel =>
                refine ⟨i + 1, by go_num, by omega, fun j y hj hy => ?_, V3, c3⟩
                by_cases hji : j < i
                · exact HS.out j y hji hy
                · obtain rfl : j = i := by omega
                  rw [HZ.out] at hy
                  obtain rfl : z = y := by simpa using hy
                  exact HQ.out
              case measure => simp [intOf]; omega
          · obtain rfl : i = r := by omega
            have hall : x.ns.all Jn.txt = true := by
              rw [List.all_eq_true]
              intro z hz
              obtain ⟨j, hj⟩ := List.mem_iff_getElem?.1 hz
              exact HS.out j z (by have := (List.getElem?_eq_some_iff.1 hj).1; have := HR.out; omega) hj
            have HP : Hid (x.part = JV.parts x.is) := by rw [Hid, HP.out, hall, Bool.true_and]
            clear hall HS hlt hi
            go_wp2_with fail
            clear z0 z1 z2 z3 z4
            go_loopw [4] (fun iv w4 => ∃ l : Nat, iv = .int .i64 (l : Int) ∧ l ≤ m ∧ Hid (∀ (j : Nat) (z : JV), j < l → x.is[j]? = some z → z.part = true) ∧ VAt w.heap.size w4 (.int .u8 4) (.int .i64 0) (.string (S x.t)) (.slice a i ca) (.slice b m cb) ∧ Below w.heap.size w w4) (fun iv _ => m - (intOf iv).toNat)
            case atStart => exact ⟨0, rfl, Nat.zero_le _, fun j z h => by omega, V2, c2⟩
            case round =>
              clear V2 c2
              obtain ⟨j, rfl, hi, HS, V2, c2⟩ := hrel
              obtain ⟨⟨z0, z1, z2, z3, z4⟩, _⟩ := V2.cells
              by_cases hlt : (j : Int) < (m : Int)
              · obtain ⟨y, hy⟩ : ∃ y, x.is[j]? = some y := ⟨x.is[j]'(by have := HM.out; omega), List.getElem?_eq_getElem _⟩
                obtain ⟨blk, off, rfl, hII⟩ := items_at hI hy
                obtain ⟨y0, y1, y2, y3, y4, g0, g1, g2, g3, g4, hcy⟩ := (HI.below c2 _ _ _ hII).get hy
                have hyc := JV.cnt_item hy
                have hyw := JV.wts_get hy
                have cY := ih y (by omega) (by omega) wr _ ⟨_, rfl, hcy⟩
                have HY := Lib.hid hy
                obtain ⟨q, hq⟩ : ∃ q, y.part = q := ⟨_, rfl⟩
                rw [hq] at cY
                have HQ := Lib.hid hq
                clear hy hyc hyw hcy hII hq
                cases q
                · go_wp2_with fail
                  refine cY.mono ?_; rintro e w3 ⟨rfl, b3⟩
                  go_wp2_with fail
                  go_ret
                  exact ⟨ret_eq HP.out (by rw [JV.parts_no HY.out HQ.out]), c2.trans (b3.mono c2.size)⟩
                · go_wp2_with fail
                  refine cY.mono ?_; rintro e w3 ⟨rfl, b3⟩
                  have V3 := V2.below b3
                  have c3 := c2.trans (b3.mono c2.size)
                  go_wp2_with fail
                  go_roundw
                  case rel =>
                    refine ⟨j + 1, by go_num, by omega, fun l z hl hz => ?_, V3, c3⟩
                    by_cases hji : l < j
                    · exact HS.out l z hji hz
                    · obtain rfl : l = j := by omega
                      rw [HY.out] at hz
                      obtain rfl : y = z := by simpa using hz
                      exact HQ.out
                  case measure => simp [intOf]; omega
              · obtain rfl : j = m := by omega
                have hall : JV.parts x.is = true := JV.parts_all x.is fun l z hz => HS.out l z (by have := (List.getElem?_eq_some_iff.1 hz).1; have := HM.out; omega) hz
                have HP : Hid (x.part = true) := by rw [Hid, HP.out, hall]
                clear hall
                go_wp2_with fail
                go_ret
                exact ⟨ret_eq HP.out rfl, c2⟩
    all_goals
      rcases (show nI = 0 ∨ ¬ nI = 0 by omega) with rfl | hne
      all_goals first
        | (exact absurd h1 (by decide))
        | (exact absurd (beq_iff_eq.1 h1) hne)
        | skip
    all_goals
      have hz0 : True := trivial
      first | (obtain ⟨s1, s2⟩ := empty_facts hp3) | (obtain ⟨s1, s2⟩ := full_facts hp3)
      clear hp3
      go_enter Tryz.func32, Tryz.ntmps32
      go_wp2_with fail
      try rw [← hW1]
      go_ret
      exact ⟨ret_eq HP.out (by first | rfl | simp), b1⟩
  by_cases k5 : kI = 5
  · subst k5
    obtain ⟨ri, hri⟩ : ∃ q, Jn.rise x.ns = q := ⟨_, rfl⟩
    rw [hri] at cR
    clear hp4 hp5
    obtain ⟨rI, hrI⟩ : ∃ rI : Int, (r : Int) = rI := ⟨_, rfl⟩
    obtain ⟨mI, hmI⟩ : ∃ mI : Int, (m : Int) = mI := ⟨_, rfl⟩
    obtain ⟨p7, hp7⟩ : ∃ p, (rI != mI) = p := ⟨_, rfl⟩
    have hrm : (r == m) = !p7 := by
      rw [← hp7, bne, Bool.not_not, Bool.eq_iff_iff, beq_iff_eq, beq_iff_eq]
      omega
    obtain ⟨p8, hp8⟩ : ∃ p, (!p7) = p := ⟨_, rfl⟩
    obtain rfl : p7 = !p8 := by rw [← hp8, Bool.not_not]
    have HP : Hid (x.part = ((b1' && (p3 && (true && (p8 && ri)))) && (x.ns.all Jn.txt && JV.parts x.is))) := by
      rw [Hid, HP.out, if_neg (by have := HK.out; omega), if_neg (by have := HK.out; omega), if_neg (by have := HK.out; omega), if_pos (by have := HK.out; omega), HR.out, HM.out, ← HNn.out, HP3.out, HB1.out, hri, show x.k = 5 by have := HK.out; omega, hrm, hp8]
      rfl
    clear hri hrm hp8
    cases b1' <;> cases p3 <;> cases p8
    case true.true.true =>
      obtain rfl : nI = 0 := beq_iff_eq.1 h1
      obtain ⟨s1, s2⟩ := empty_facts hp3
      clear hp3
      go_enter Tryz.func32, Tryz.ntmps32
      go_wp2_with fail
      clear hrI hmI hp7
      rw [← hW1]
      refine (cR _ (hN.below b1)).mono ?_; rintro e w2 ⟨rfl, b2⟩
      have V2 := V1.below b2
      have c2 := b1.trans (b2.mono b1.size)
      obtain ⟨⟨z0, z1, z2, z3, z4⟩, _⟩ := V2.cells
      clear b2 hW1
      cases ri
      · go_wp2_with fail
        go_ret
        exact ⟨ret_eq HP.out (by first | rfl | simp), c2⟩
      · have HP : Hid (x.part = (x.ns.all Jn.txt && JV.parts x.is)) := by rw [Hid, HP.out]; simp
        go_wp2_with fail
        clear z0 z1 z2 z3 z4
        go_loopw [3] (fun iv wr => ∃ i : Nat, iv = .int .i64 (i : Int) ∧ i ≤ r ∧ Hid (∀ (j : Nat) (z : List UInt8), j < i → x.ns[j]? = some z → Jn.txt z = true) ∧ VAt w.heap.size wr (.int .u8 5) (.int .i64 0) (.string (S x.t)) (.slice a r ca) (.slice b m cb) ∧ Below w.heap.size w wr) (fun iv _ => r - (intOf iv).toNat)
        case atStart => exact ⟨0, rfl, Nat.zero_le _, fun j z h => by omega, V2, c2⟩
        case round =>
          clear V2 c2
          obtain ⟨i, rfl, hi, HS, V2, c2⟩ := hrel
          obtain ⟨⟨z0, z1, z2, z3, z4⟩, _⟩ := V2.cells
          by_cases hlt : (i : Int) < (r : Int)
          · obtain ⟨z, hz⟩ : ∃ z, x.ns[i]? = some z := ⟨x.ns[i]'(by have := HR.out; omega), List.getElem?_eq_getElem _⟩
            obtain ⟨bb, oo, rfl, gz⟩ := (hN.below c2) i z hz
            have hzl := JV.wn_get hz
            have cZ := fun w => refText_any z w (by omega)
            have HZ := Lib.hid hz
            obtain ⟨q, hq⟩ : ∃ q, Jn.txt z = q := ⟨_, rfl⟩
            rw [hq] at cZ
            have HQ := Lib.hid hq
            clear hz hzl hq
            cases q
            · go_wp2_with fail
              refine (cZ _).mono ?_; rintro e w3 ⟨rfl, b3⟩
              go_wp2_with fail
              go_ret
              exact ⟨ret_eq HP.out (by rw [JV.txts_no HZ.out HQ.out]; rfl), c2.trans (b3.mono c2.size)⟩
            · go_wp2_with fail
              refine (cZ _).mono ?_; rintro e w3 ⟨rfl, b3⟩
              have V3 := V2.below b3
              have c3 := c2.trans (b3.mono c2.size)
              go_wp2_with fail
              go_roundw
              case rel =>
                refine ⟨i + 1, by go_num, by omega, fun j y hj hy => ?_, V3, c3⟩
                by_cases hji : j < i
                · exact HS.out j y hji hy
                · obtain rfl : j = i := by omega
                  rw [HZ.out] at hy
                  obtain rfl : z = y := by simpa using hy
                  exact HQ.out
              case measure => simp [intOf]; omega
          · obtain rfl : i = r := by omega
            have hall : x.ns.all Jn.txt = true := by
              rw [List.all_eq_true]
              intro z hz
              obtain ⟨j, hj⟩ := List.mem_iff_getElem?.1 hz
              exact HS.out j z (by have := (List.getElem?_eq_some_iff.1 hj).1; have := HR.out; omega) hj
            have HP : Hid (x.part = JV.parts x.is) := by rw [Hid, HP.out, hall, Bool.true_and]
            clear hall HS hlt hi
            go_wp2_with fail
            clear z0 z1 z2 z3 z4
            go_loopw [4] (fun iv w4 => ∃ l : Nat, iv = .int .i64 (l : Int) ∧ l ≤ m ∧ Hid (∀ (j : Nat) (z : JV), j < l → x.is[j]? = some z → z.part = true) ∧ VAt w.heap.size w4 (.int .u8 5) (.int .i64 0) (.string (S x.t)) (.slice a i ca) (.slice b m cb) ∧ Below w.heap.size w w4) (fun iv _ => m - (intOf iv).toNat)
            case atStart => exact ⟨0, rfl, Nat.zero_le _, fun j z h => by omega, V2, c2⟩
            case round =>
              clear V2 c2
              obtain ⟨j, rfl, hi, HS, V2, c2⟩ := hrel
              obtain ⟨⟨z0, z1, z2, z3, z4⟩, _⟩ := V2.cells
              by_cases hlt : (j : Int) < (m : Int)
              · obtain ⟨y, hy⟩ : ∃ y, x.is[j]? = some y := ⟨x.is[j]'(by have := HM.out; omega), List.getElem?_eq_getElem _⟩
                obtain ⟨blk, off, rfl, hII⟩ := items_at hI hy
                obtain ⟨y0, y1, y2, y3, y4, g0, g1, g2, g3, g4, hcy⟩ := (HI.below c2 _ _ _ hII).get hy
                have hyc := JV.cnt_item hy
                have hyw := JV.wts_get hy
                have cY := ih y (by omega) (by omega) wr _ ⟨_, rfl, hcy⟩
                have HY := Lib.hid hy
                obtain ⟨q, hq⟩ : ∃ q, y.part = q := ⟨_, rfl⟩
                rw [hq] at cY
                have HQ := Lib.hid hq
                clear hy hyc hyw hcy hII hq
                cases q
                · go_wp2_with fail
                  refine cY.mono ?_; rintro e w3 ⟨rfl, b3⟩
                  go_wp2_with fail
                  go_ret
                  exact ⟨ret_eq HP.out (by rw [JV.parts_no HY.out HQ.out]), c2.trans (b3.mono c2.size)⟩
                · go_wp2_with fail
                  refine cY.mono ?_; rintro e w3 ⟨rfl, b3⟩
                  have V3 := V2.below b3
                  have c3 := c2.trans (b3.mono c2.size)
                  go_wp2_with fail
                  go_roundw
                  case rel =>
                    refine ⟨j + 1, by go_num, by omega, fun l z hl hz => ?_, V3, c3⟩
                    by_cases hji : l < j
                    · exact HS.out l z hji hz
                    · obtain rfl : l = j := by omega
                      rw [HY.out] at hz
                      obtain rfl : y = z := by simpa using hz
                      exact HQ.out
                  case measure => simp [intOf]; omega
              · obtain rfl : j = m := by omega
                have hall : JV.parts x.is = true := JV.parts_all x.is fun l z hz => HS.out l z (by have := (List.getElem?_eq_some_iff.1 hz).1; have := HM.out; omega) hz
                have HP : Hid (x.part = true) := by rw [Hid, HP.out, hall]
                clear hall
                go_wp2_with fail
                go_ret
                exact ⟨ret_eq HP.out rfl, c2⟩
    all_goals
      rcases (show nI = 0 ∨ ¬ nI = 0 by omega) with rfl | hne
      all_goals first
        | (exact absurd h1 (by decide))
        | (exact absurd (beq_iff_eq.1 h1) hne)
        | skip
    all_goals
      have hz0 : True := trivial
      first | (obtain ⟨s1, s2⟩ := empty_facts hp3) | (obtain ⟨s1, s2⟩ := full_facts hp3)
      clear hp3
      go_enter Tryz.func32, Tryz.ntmps32
      go_wp2_with fail
      try rw [← hW1]
      go_ret
      exact ⟨ret_eq HP.out (by first | rfl | simp), b1⟩
  have HP : Hid (x.part = false) := by
    rw [Hid, HP.out, if_neg (by have := HK.out; omega), if_neg (by have := HK.out; omega), if_neg (by have := HK.out; omega), if_neg (by have := HK.out; omega)]
  have e1 : (kI == 1) = false := beq_eq_false_iff_ne.2 k1
  have e2 : (kI == 2) = false := beq_eq_false_iff_ne.2 k2
  have e3 : (kI == 3) = false := beq_eq_false_iff_ne.2 k3
  have e4 : (kI == 4) = false := beq_eq_false_iff_ne.2 k4
  have e5 : (kI == 5) = false := beq_eq_false_iff_ne.2 k5
  clear k1 k2 k3 k4 k5 hp3
  go_enter Tryz.func32, Tryz.ntmps32
  go_wp2_with fail
  rw [← hW1]
  go_ret
  exact ⟨ret_eq HP.out rfl, b1⟩
end Go.Proofs.YtpifbmcgadjhbaaGreatDoor
