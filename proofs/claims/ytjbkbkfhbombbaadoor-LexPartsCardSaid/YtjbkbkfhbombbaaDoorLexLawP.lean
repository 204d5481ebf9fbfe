/-
  The law LexParts.
-/
import Derived.Test.YtjbkbkfhbombbaaDoorLexAwake
import Derived.Test.YtjbkbkfhbombbaaDoorLexMoved
import Derived.BigQuiet
import Derived.Deep.QuietTactic
namespace Go.Proofs.YtjbkbkfhbombbaaDoor
open Go.RowKit

theorem all_row {l : List UInt8} {ms : List Lm.Mark} {N : Nat} (w : World) (hT : TabL w) (hl : l.length ≤ 50000000) (h : Lm.ALL l = (ms, 0, 0)) (hn : ms.length = N) (h0 : 0 < N) :
    Calls Tryd.prog 9 #[.string (S l)] w fun e w' => ∃ g cap, e = .returned (.tuple #[.slice (some ⟨g, 0, none⟩) N cap, .int .i64 0, .int .i64 0]) ∧ w.heap.size ≤ g ∧ RowAt w' g ms ∧ Below w.heap.size w w' := by
  subst hn
  cases ms with
  | nil => simp at h0
  | cons m ms => exact all_ok w hT hl h
theorem all_any {l : List UInt8} {ms : List Lm.Mark} {q c : Nat} {qI cI : Int} (w : World) (hT : TabL w) (hl : l.length ≤ 50000000) (h : Lm.ALL l = (ms, q, c)) (hq : qI = (q : Int)) (hc : cI = (c : Int)) :
    Calls Tryd.prog 9 #[.string (S l)] w fun e w' => ∃ v, e = .returned (.tuple #[v, .int .i64 qI, .int .i64 cI]) ∧ Below w.heap.size w w' := by
  subst hq hc
  refine (lexAll_any l w hT hl).mono ?_
  rintro e w' ⟨v, rfl, ho, hb⟩
  rw [h]
  exact ⟨v, rfl, hb⟩
theorem RowAt.moved {w : World} {g : Nat} {ms : List Lm.Mark} (h : RowAt w g ms) (o : Obj) (x y : Value) : RowAt (((w.alloc o).setCell ⟨w.heap.size, 1, none⟩ x).setCell ⟨w.heap.size, 2, none⟩ y) g ms := by
  have hne : g ≠ w.heap.size := by have := h.1; omega
  exact ((h.below ((Below.refl _ _).alloc (Nat.le_refl _) o)).set hne x).set hne y
theorem below_moved {B : Nat} {w0 w : World} (h : Below B w0 w) (hs : B ≤ w.heap.size) (o : Obj) (x y : Value) : Below B w0 (((w.alloc o).setCell ⟨w.heap.size, 1, none⟩ x).setCell ⟨w.heap.size, 2, none⟩ y) :=
  ((h.alloc hs o).setCell (p := ⟨w.heap.size, 1, none⟩) hs x).setCell (p := ⟨w.heap.size, 2, none⟩) hs y
namespace Lm
theorem S_cat (a b : List UInt8) : S a ++ S b = S (a ++ b) := by
  apply ByteArray.ext
  apply Array.toList_inj.1
  simp [S]
theorem parts_low {ms ns : List Mark} {z i : Nat} {m : Mark} (hi : i + 1 < ms.length) (h : ms[i]? = some m) : (ms.dropLast ++ ns.map (mv z))[i]? = some m := by
  rw [List.getElem?_append_left (by rw [List.length_dropLast]; omega), List.getElem?_dropLast, if_pos (by omega), h]
theorem parts_high {ms ns : List Mark} {z i j : Nat} {m : Mark} (hi : i + 1 = ms.length + j) (h : ns[j]? = some m) (h0 : 0 < ms.length) : (ms.dropLast ++ ns.map (mv z))[i]? = some (mv z m) := by
  rw [List.getElem?_append_right (by rw [List.length_dropLast]; omega), List.length_dropLast, show i - (ms.length - 1) = j by omega, List.getElem?_map, h]
  rfl
end Lm
set_option maxHeartbeats 4000000 in
set_option maxRecDepth 3000 in
theorem law_LexParts (s t : ByteArray) (w : World) (hs : s.size ≤ maxLen) (ht : t.size ≤ maxLen) (hT : TabL w) :
    Calls Tryd.prog 6 #[.string s, .string t] w fun e w' => e = .returned (.bool true) ∧ Below w.heap.size w w' := by
  obtain ⟨l, rfl⟩ := as_S s
  obtain ⟨u, rfl⟩ := as_S t
  have z1 := S_size l
  have z2 := S_size u
  by_cases hL : (1500 : Int) < (l.length : Int)
  · go_enter Tryd.func6, Tryd.ntmps6
    go_wp2_with fail
    refine (awake_any _ hT).mono ?_; rintro e w1 ⟨rfl, b1⟩
    go_wp2_with fail
    go_ret
    exact ⟨rfl, b1⟩
  by_cases hU : (1500 : Int) < (u.length : Int)
  · go_enter Tryd.func6, Tryd.ntmps6
    go_wp2_with fail
    refine (awake_any _ hT).mono ?_; rintro e w1 ⟨rfl, b1⟩
    go_wp2_with fail
    go_ret
    exact ⟨rfl, b1⟩
  have hJ : S l ++ (⟨#[32]⟩ : ByteArray) ++ S u = S (l ++ 32 :: u) := by
    show S l ++ S [32] ++ S u = _
    rw [Lm.S_cat, Lm.S_cat, List.append_assoc]
    rfl
  have HJ := Lib.hid hJ
  clear hJ
  have hjl : (l ++ 32 :: u).length ≤ 3001 := by rw [List.length_append, List.length_cons]; omega
  rcases Lm.ALL_ways (l := l) (by omega) with ⟨ms, hr, hA⟩ | ⟨q, c, hbad, hc, hq, hA⟩
  · obtain ⟨N, hN⟩ : ∃ N, ms.length = N := ⟨_, rfl⟩
    have hN0 : 0 < N := by have := List.length_pos_iff.2 hr.ne; omega
    have cA := fun w hT => all_row (l := l) w hT (by omega) hA hN hN0
    rcases Lm.ALL_ways (l := u) (by omega) with ⟨ns, hr2, hA2⟩ | ⟨q2, c2, hbad2, hc2, hq2, hA2⟩
    · obtain ⟨M, hM⟩ : ∃ M, ns.length = M := ⟨_, rfl⟩
      have hM0 : 0 < M := by have := List.length_pos_iff.2 hr2.ne; omega
      have hNl := hr.len (Nat.zero_le _)
      have hMl := hr2.len (Nat.zero_le _)
      have cB := fun w hT => all_row (l := u) w hT (by omega) hA2 hM hM0
      have hA3 := Lm.ALL_row (Lm.parts_row hr hr2) (by omega)
      obtain ⟨js, hjs⟩ : ∃ js, ms.dropLast ++ ns.map (Lm.mv (l.length + 1)) = js := ⟨_, rfl⟩
      rw [hjs] at hA3
      obtain ⟨C, hC⟩ : ∃ C, js.length = C := ⟨_, rfl⟩
      have hCC : C + 1 = N + M := by rw [← hC, ← hjs, List.length_append, List.length_dropLast, List.length_map]; omega
      have cC := fun w hT => all_row (l := l ++ 32 :: u) w hT (by omega) hA3 hC (by omega)
      have hlen : ((C : Int) == (N : Int) - 1 + (M : Int)) = true := beq_iff_eq.2 (by omega)
      have hlen' : ((C : Int) != (N : Int) - 1 + (M : Int)) = false := by rw [bne, hlen]; rfl
      have HLies := Lib.hid (hr2.lies (Nat.zero_le _))
      have HJS := Lib.hid hjs
      have HC := Lib.hid hC
      have HCC := Lib.hid hCC
      have HN := Lib.hid hN
      have HM := Lib.hid hM
      have hN2 : 1 ≤ (N : Int) ∧ (N : Int) ≤ 1501 := by omega
      have hM2 : 1 ≤ (M : Int) ∧ (M : Int) ≤ 1501 := by omega
      clear hA hA2 hA3 hjs hC hN hM hr hr2 hNl hMl
      go_enter Tryd.func6, Tryd.ntmps6
      go_wp2_with fail
      refine (awake_any _ hT).mono ?_; rintro e w1 ⟨rfl, b1⟩
      have T1 := hT.below b1
      go_wp2_with fail
      refine (cA _ T1).mono ?_; rintro e w2 ⟨ga, ka, rfl, _, Ra, b2⟩
      have T2 := T1.below b2
      have d2 := b1.trans (b2.mono b1.size)
      clear b1 b2 T1
      go_wp2_with fail
      refine (cB _ T2).mono ?_; rintro e w3 ⟨gb, kb, rfl, _, Rb, b3⟩
      have T3 := T2.below b3
      have d3 := d2.trans (b3.mono d2.size)
      have Ra := Ra.below b3
      clear d2 b3 T2
      go_wp2_with fail
      rw [HJ.out]
      refine (cC _ T3).mono ?_; rintro e w4 ⟨gc, kc, rfl, _, Rc, b4⟩
      have d4 := d3.trans (b4.mono d3.size)
      have Ra := Ra.below b4
      have Rb := Rb.below b4
      clear d3 b4 T3 cA cB cC
      go_wp2_with fail
      go_loopw [14] (fun iv wr => ∃ i : Nat, iv = .int .i64 (i : Int) ∧ i ≤ C ∧ RowAt wr ga ms ∧ RowAt wr gb ns ∧ RowAt wr gc js ∧ Below w.heap.size w wr) (fun iv _ => C - (intOf iv).toNat)
      case atStart => exact ⟨0, rfl, Nat.zero_le _, Ra, Rb, Rc, d4⟩
      case round =>
        clear Ra Rb Rc d4
        obtain ⟨i, rfl, hi, Ra, Rb, Rc, d4⟩ := hrel
        by_cases hlt : (i : Int) < (C : Int)
        · by_cases hlow : i + 1 < N
          · obtain ⟨m, hm⟩ : ∃ m, ms[i]? = some m := ⟨ms[i]'(by have := HN.out; omega), List.getElem?_eq_getElem _⟩
            have hm2 : js[i]? = some m := by rw [← HJS.out]; exact Lm.parts_low (by have := HN.out; omega) hm
            obtain ⟨kI, hkI⟩ : ∃ x : Int, x = (m.k : Int) := ⟨_, rfl⟩
            obtain ⟨aI, haI⟩ : ∃ x : Int, x = (m.a : Int) := ⟨_, rfl⟩
            obtain ⟨bI, hbI⟩ : ∃ x : Int, x = (m.b : Int) := ⟨_, rfl⟩
            obtain ⟨q0, q1, q2, q3, q4⟩ := Ra.five hm hkI haI hbI
            obtain ⟨r0, r1, r2, r3, r4⟩ := Rc.five hm2 hkI haI hbI
            have hil : (i : Int) < (N : Int) - 1 := by omega
            have hiN : (i : Int) < (N : Int) := by omega
            generalize m.t = t at *
            generalize m.n = n at *
            clear hkI haI hbI hm hm2 hlow
            go_wp2_with fail
            go_quiet (fail)
            go_wp2_with fail
            go_roundw
            case rel => exact ⟨i + 1, by go_num, by omega, Ra, Rb, Rc, d4.trans ⟨rfl, rfl, rfl, Nat.le_refl _, fun _ _ => rfl⟩⟩
            case measure => simp [intOf]; omega
          · obtain ⟨j, hj⟩ : ∃ j, i + 1 = N + j := ⟨i + 1 - N, by omega⟩
            have hjM : j < M := by have := HCC.out; omega
            obtain ⟨m, hm⟩ : ∃ m, ns[j]? = some m := ⟨ns[j]'(by have := HM.out; omega), List.getElem?_eq_getElem _⟩
            have hlm := HLies.out j m hm
            have hm2 : js[i]? = some (Lm.mv (l.length + 1) m) := by rw [← HJS.out]; exact Lm.parts_high (by have := HN.out; omega) hm (by have := HN.out; omega)
            obtain ⟨kI, hkI⟩ : ∃ x : Int, x = (m.k : Int) := ⟨_, rfl⟩
            obtain ⟨aI, haI⟩ : ∃ x : Int, x = (m.a : Int) := ⟨_, rfl⟩
            obtain ⟨bI, hbI⟩ : ∃ x : Int, x = (m.b : Int) := ⟨_, rfl⟩
            obtain ⟨q0, q1, q2, q3, q4⟩ := Rb.five hm hkI haI hbI
            have Hr := Lib.hid fun (w : World) (R : RowAt w gc js) => R.five hm2 (k := kI) (a := aI + (l.length : Int) + 1) (b := bI + (l.length : Int) + 1) hkI (by show _ = ((l.length + 1 + m.a : Nat) : Int); omega) (by show _ = ((l.length + 1 + m.b : Nat) : Int); omega)
            have hn2 : (Lm.mv (l.length + 1) m).n = m.n := rfl
            have ht2 : (Lm.mv (l.length + 1) m).t = m.t := rfl
            rw [hn2, ht2] at Hr
            have ha2 : 0 ≤ aI ∧ aI ≤ 1500 := by omega
            have hb2 : 0 ≤ bI ∧ bI ≤ 1500 := by omega
            have hil : ¬ (i : Int) < (N : Int) - 1 := by omega
            have hji : (i : Int) - (N : Int) + 1 = (j : Int) := by omega
            have hjM' : (j : Int) < (M : Int) := by omega
            generalize m.t = t at *
            generalize m.n = n at *
            have M6 := MkAt.new wr (.int .u8 kI) (.int .i64 aI) (.int .i64 bI) (.int .i64 n) (.string (S t))
            obtain ⟨⟨p0, p1, p2, p3, p4⟩, pf⟩ := M6.cells
            clear hkI haI hbI hm hm2 hlow hj hlm hn2 ht2
            go_wp2_with fail
            clear p0 p1 p2 p3 p4 pf M6 q0 q1 q2 q3 q4
            have M7 := MkAt.new wr (.int .u8 kI) (.int .i64 (aI + (l.length : Int) + 1)) (.int .i64 (bI + (l.length : Int) + 1)) (.int .i64 n) (.string (S t))
            have a7 : Below wr.heap.size wr (wr.alloc (.cells #[.int .u8 kI, .int .i64 (aI + (l.length : Int) + 1), .int .i64 (bI + (l.length : Int) + 1), .int .i64 n, .string (S t)] 28)) := (Below.refl _ _).alloc (Nat.le_refl _) _
            generalize wr.alloc (.cells #[.int .u8 kI, .int .i64 (aI + (l.length : Int) + 1), .int .i64 (bI + (l.length : Int) + 1), .int .i64 n, .string (S t)] 28) = U at M7 a7 ⊢
            obtain ⟨⟨p0, p1, p2, p3, p4⟩, _⟩ := M7.cells
            have Ra := Ra.below a7
            have Rb := Rb.below a7
            have Rc := Rc.below a7
            have d5 := d4.trans (a7.mono d4.size)
            obtain ⟨r0, r1, r2, r3, r4⟩ := Hr.out U Rc
            clear Hr a7 M7 d4
            go_quiet (fail)
            go_wp2_with fail
            go_roundw
            case rel => exact ⟨i + 1, by go_num, by omega, Ra, Rb, Rc, d5.trans ⟨rfl, rfl, rfl, Nat.le_refl _, fun _ _ => rfl⟩⟩
            case measure => simp [intOf]; omega
        · go_wp2_with fail
          go_ret
          exact ⟨rfl, d4⟩
    · have hA3 := Lm.ALL_bad (Lm.parts_bad hr hbad2) (by omega)
      obtain ⟨q2I, hq2I⟩ : ∃ x : Int, x = (q2 : Int) := ⟨_, rfl⟩
      obtain ⟨c2I, hc2I⟩ : ∃ x : Int, x = (c2 : Int) := ⟨_, rfl⟩
      obtain ⟨q3I, hq3I⟩ : ∃ x : Int, x = ((l.length + 1 + q2 : Nat) : Int) := ⟨_, rfl⟩
      have n0 : (c2I != 0) = true := by rw [bne_iff_ne]; omega
      have hqq : (q3I == (l.length : Int) + 1 + q2I) = true := beq_iff_eq.2 (by omega)
      have hq20 : 0 ≤ q2I ∧ q2I ≤ 1500 := by omega
      have cB := fun w hT => all_no (l := u) w hT (by omega) hA2 hq2I hc2I
      have cC := fun w hT => all_no (l := l ++ 32 :: u) w hT (by omega) hA3 hq3I hc2I
      clear hA hA2 hA3 hq2I hc2I hq3I hbad2 hc2 hq2 hN hr
      go_enter Tryd.func6, Tryd.ntmps6
      go_wp2_with fail
      refine (awake_any _ hT).mono ?_; rintro e w1 ⟨rfl, b1⟩
      have T1 := hT.below b1
      go_wp2_with fail
      refine (cA _ T1).mono ?_; rintro e w2 ⟨ga, ka, rfl, _, _, b2⟩
      have T2 := T1.below b2
      have d2 := b1.trans (b2.mono b1.size)
      clear b1 b2 T1
      go_wp2_with fail
      refine (cB _ T2).mono ?_; rintro e w3 ⟨p3, k3, rfl, b3⟩
      have T3 := T2.below b3
      have d3 := d2.trans (b3.mono d2.size)
      clear d2 b3 T2
      go_wp2_with fail
      rw [HJ.out]
      refine (cC _ T3).mono ?_; rintro e w4 ⟨p4, k4, rfl, b4⟩
      have d4 := d3.trans (b4.mono d3.size)
      go_wp2_with fail
      go_ret
      exact ⟨rfl, d4⟩
  · obtain ⟨⟨ns, q2, c2⟩, hA2⟩ : ∃ x, Lm.ALL u = x := ⟨_, rfl⟩
    obtain ⟨⟨js, q3, c3⟩, hA3⟩ : ∃ x, Lm.ALL (l ++ 32 :: u) = x := ⟨_, rfl⟩
    obtain ⟨qI, hqI⟩ : ∃ x : Int, x = (q : Int) := ⟨_, rfl⟩
    obtain ⟨cI, hcI⟩ : ∃ x : Int, x = (c : Int) := ⟨_, rfl⟩
    obtain ⟨q2I, hq2I⟩ : ∃ x : Int, x = (q2 : Int) := ⟨_, rfl⟩
    obtain ⟨c2I, hc2I⟩ : ∃ x : Int, x = (c2 : Int) := ⟨_, rfl⟩
    obtain ⟨q3I, hq3I⟩ : ∃ x : Int, x = (q3 : Int) := ⟨_, rfl⟩
    obtain ⟨c3I, hc3I⟩ : ∃ x : Int, x = (c3 : Int) := ⟨_, rfl⟩
    have n0 : (cI != 0) = true := by rw [bne_iff_ne]; omega
    have cA := fun w hT => all_any (l := l) w hT (by omega) hA hqI hcI
    have cB := fun w hT => all_any (l := u) w hT (by omega) hA2 hq2I hc2I
    have cC := fun w hT => all_any (l := l ++ 32 :: u) w hT (by omega) hA3 hq3I hc3I
    by_cases h4 : cI = 4
    · subst h4
      clear hA hA2 hA3 hqI hcI hq2I hc2I hq3I hc3I hbad hc hq
      go_enter Tryd.func6, Tryd.ntmps6
      go_wp2_with fail
      refine (awake_any _ hT).mono ?_; rintro e w1 ⟨rfl, b1⟩
      have T1 := hT.below b1
      go_wp2_with fail
      refine (cA _ T1).mono ?_; rintro e w2 ⟨v2, rfl, b2⟩
      have T2 := T1.below b2
      have d2 := b1.trans (b2.mono b1.size)
      clear b1 b2 T1
      go_wp2_with fail
      refine (cB _ T2).mono ?_; rintro e w3 ⟨v3, rfl, b3⟩
      have T3 := T2.below b3
      have d3 := d2.trans (b3.mono d2.size)
      clear d2 b3 T2
      go_wp2_with fail
      rw [HJ.out]
      refine (cC _ T3).mono ?_; rintro e w4 ⟨v4, rfl, b4⟩
      have d4 := d3.trans (b4.mono d3.size)
      go_wp2_with fail
      go_ret
      exact ⟨rfl, d4⟩
    have n4 : (cI == 4) = false := beq_eq_false_iff_ne.2 h4
    have hb3 := Lm.ALL_bad (hbad.within u (Nat.zero_le _) (by omega)) (by omega)
    rw [hA3] at hb3
    obtain ⟨rfl, rfl, rfl⟩ : js = [] ∧ q3 = q ∧ c3 = c := by simpa using hb3
    have h13 : c3I = cI := by omega
    have hee : (c3I == cI) = true := beq_iff_eq.2 h13
    clear hA hA2 hA3 hqI hcI hq2I hc2I hq3I hc3I hbad hc hq hb3 h13 h4
    by_cases h12 : cI = 12
    · subst h12
      go_enter Tryd.func6, Tryd.ntmps6
      go_wp2_with fail
      refine (awake_any _ hT).mono ?_; rintro e w1 ⟨rfl, b1⟩
      have T1 := hT.below b1
      go_wp2_with fail
      refine (cA _ T1).mono ?_; rintro e w2 ⟨v2, rfl, b2⟩
      have T2 := T1.below b2
      have d2 := b1.trans (b2.mono b1.size)
      clear b1 b2 T1
      go_wp2_with fail
      refine (cB _ T2).mono ?_; rintro e w3 ⟨v3, rfl, b3⟩
      have T3 := T2.below b3
      have d3 := d2.trans (b3.mono d2.size)
      clear d2 b3 T2
      go_wp2_with fail
      rw [HJ.out]
      refine (cC _ T3).mono ?_; rintro e w4 ⟨v4, rfl, b4⟩
      have d4 := d3.trans (b4.mono d3.size)
      go_wp2_with fail
      go_ret
      exact ⟨rfl, d4⟩
    · have n12 : (cI == 12) = false := beq_eq_false_iff_ne.2 h12
      clear h12
      go_enter Tryd.func6, Tryd.ntmps6
      go_wp2_with fail
      refine (awake_any _ hT).mono ?_; rintro e w1 ⟨rfl, b1⟩
      have T1 := hT.below b1
      go_wp2_with fail
      refine (cA _ T1).mono ?_; rintro e w2 ⟨v2, rfl, b2⟩
      have T2 := T1.below b2
      have d2 := b1.trans (b2.mono b1.size)
      clear b1 b2 T1
      go_wp2_with fail
      refine (cB _ T2).mono ?_; rintro e w3 ⟨v3, rfl, b3⟩
      have T3 := T2.below b3
      have d3 := d2.trans (b3.mono d2.size)
      clear d2 b3 T2
      go_wp2_with fail
      rw [HJ.out]
      refine (cC _ T3).mono ?_; rintro e w4 ⟨v4, rfl, b4⟩
      have d4 := d3.trans (b4.mono d3.size)
      go_wp2_with fail
      go_ret
      exact ⟨rfl, d4⟩
end Go.Proofs.YtjbkbkfhbombbaaDoor
