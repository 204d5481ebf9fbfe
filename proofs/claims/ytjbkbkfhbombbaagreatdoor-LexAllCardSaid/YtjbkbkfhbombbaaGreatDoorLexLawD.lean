/-
  The law LexAll.
-/
import Derived.Test.YtjbkbkfhbombbaaGreatDoorLexAwake
import Derived.Test.YtjbkbkfhbombbaaGreatDoorLexRows
import Derived.Test.YtjbkbkfhbombbaaGreatDoorLexRefAll
import Derived.BigQuiet
import Derived.Deep.QuietTactic
namespace Go.Proofs.YtjbkbkfhbombbaaGreatDoor
open Go.RowKit

theorem ref_row {l : List UInt8} {ms : List Lm.Mark} {N : Nat} (w : World) (hl : l.length ≤ 50000000) (h : Lm.ALL l = (ms, 0, 0)) (hn : ms.length = N) (h0 : 0 < N) :
    Calls Tryz.prog 8 #[.string (S l)] w fun e w' => ∃ g cap, e = .returned (.tuple #[.slice (some ⟨g, 0, none⟩) N cap, .int .i64 0, .int .i64 0]) ∧ RowAt w' g ms ∧ Below w.heap.size w w' := by
  subst hn
  refine (refLexAll_any l w hl).mono ?_
  rintro e w' ⟨v, rfl, ho, hb⟩
  rw [h] at ho ⊢
  obtain ⟨g, cap, rfl, h1, h2⟩ := row_form ho h0
  exact ⟨g, cap, rfl, h2, hb⟩
theorem ref_no {l : List UInt8} {q c : Nat} {qI cI : Int} (w : World) (hl : l.length ≤ 50000000) (h : Lm.ALL l = ([], q, c)) (hq : qI = (q : Int)) (hc : cI = (c : Int)) :
    Calls Tryz.prog 8 #[.string (S l)] w fun e w' => ∃ p k, e = .returned (.tuple #[.slice p 0 k, .int .i64 qI, .int .i64 cI]) ∧ Below w.heap.size w w' := by
  subst hq hc
  refine (refLexAll_any l w hl).mono ?_
  rintro e w' ⟨v, rfl, ho, hb⟩
  rw [h] at ho ⊢
  obtain ⟨p, k, rfl⟩ := row_none ho
  exact ⟨p, k, rfl, hb⟩
/-- block g holds the marks ms from i on, and may be written -/
def RowW (w : World) (g : Nat) (ms : List Lm.Mark) (i : Nat) : Prop :=
  ∃ cur : Array Value, w.heap[g]? = some (.cells cur 24 (0, 0)) ∧ 5 * ms.length ≤ cur.size ∧ ∀ j u, 5 * i ≤ j → (Lm.MC ms)[j]? = some u → cur[j]? = some u
theorem RowW.below {w w' : World} {g i : Nat} {ms : List Lm.Mark} (h : RowW w g ms i) (hb : Below w.heap.size w w') : RowW w' g ms i := by
  obtain ⟨cur, h1, h2⟩ := h
  exact ⟨cur, (hb.block g (Array.getElem?_eq_some_iff.1 h1).1).trans h1, h2⟩
theorem RowW.free {w : World} {g i : Nat} {ms : List Lm.Mark} (h : RowW w g ms i) (o : Nat) : w.frozen? ⟨g, o, none⟩ = false := by
  obtain ⟨cur, h1, _⟩ := h
  unfold World.frozen?
  rw [show w.heap[g]? = _ from h1]
  simp
theorem RowW.five {w : World} {g i : Nat} {ms : List Lm.Mark} (h : RowW w g ms i) {m : Lm.Mark} (hm : ms[i]? = some m) {k a b : Int} (hk : k = (m.k : Int)) (ha : a = (m.a : Int)) (hb : b = (m.b : Int)) :
    w.cell? ⟨g, i * 5, none⟩ = some (.int .u8 k) ∧ w.cell? ⟨g, i * 5 + 1, none⟩ = some (.int .i64 a) ∧ w.cell? ⟨g, i * 5 + 2, none⟩ = some (.int .i64 b) ∧ w.cell? ⟨g, i * 5 + 3, none⟩ = some (.int .i64 m.n) ∧ w.cell? ⟨g, i * 5 + 4, none⟩ = some (.string (S m.t)) := by
  subst hk ha hb
  obtain ⟨cur, h1, _, h3⟩ := h
  have key : ∀ (j : Nat) (u : Value), (MC1 m)[j]? = some u → w.cell? ⟨g, i * 5 + j, none⟩ = some u := fun j u hj => by
    rw [cell_of_row w g _ _ _ _ h1]
    exact h3 _ u (by omega) (by rw [Nat.mul_comm i 5]; exact MC_get ms i m hm j u hj)
  exact ⟨key 0 _ rfl, key 1 _ rfl, key 2 _ rfl, key 3 _ rfl, key 4 _ rfl⟩
theorem RowW.set5 {w : World} {g i : Nat} {ms : List Lm.Mark} (h : RowW w g ms i) (v0 v1 v2 v3 v4 : Value) :
    RowW (((((w.setCell ⟨g, i * 5, none⟩ v0).setCell ⟨g, i * 5 + 1, none⟩ v1).setCell ⟨g, i * 5 + 2, none⟩ v2).setCell ⟨g, i * 5 + 3, none⟩ v3).setCell ⟨g, i * 5 + 4, none⟩ v4) g ms (i + 1) := by
  obtain ⟨cur, h1, h2, h3⟩ := h
  have g0 := heap_setCell_same w g (i * 5) _ _ v0 h1
  have g1 := heap_setCell_same _ g (i * 5 + 1) _ _ v1 g0
  have g2 := heap_setCell_same _ g (i * 5 + 2) _ _ v2 g1
  have g3 := heap_setCell_same _ g (i * 5 + 3) _ _ v3 g2
  refine ⟨_, heap_setCell_same _ g (i * 5 + 4) _ _ v4 g3, by simp; omega, fun j u hj hu => ?_⟩
  rw [Array.getElem?_setIfInBounds_ne (by omega), Array.getElem?_setIfInBounds_ne (by omega), Array.getElem?_setIfInBounds_ne (by omega), Array.getElem?_setIfInBounds_ne (by omega), Array.getElem?_setIfInBounds_ne (by omega)]
  exact h3 j u (by omega) hu
theorem all_own {l : List UInt8} {ms : List Lm.Mark} {N : Nat} (w : World) (hT : TabL w) (hl : l.length ≤ 50000000) (h : Lm.ALL l = (ms, 0, 0)) (hn : ms.length = N) (h0 : 0 < N) :
    Calls Tryz.prog 9 #[.string (S l)] w fun e w' => ∃ g cap, e = .returned (.tuple #[.slice (some ⟨g, 0, none⟩) N cap, .int .i64 0, .int .i64 0]) ∧ w.heap.size ≤ g ∧ RowW w' g ms 0 ∧ Below w.heap.size w w' := by
  subst hn
  refine (lexAll_any l w hT hl).mono ?_
  rintro e w' ⟨v, rfl, ho, hb⟩
  rw [h] at ho ⊢
  obtain ⟨hlen, hx⟩ := ho
  rcases hx with ⟨_, hz⟩ | ⟨g, cap, cur, rfl, hg, hh, hc1, _, hsz, htk⟩
  · simp at hz; rw [hz] at h0; simp at h0
  · refine ⟨g, cap, rfl, hg, ⟨cur, hh, ?_, fun j u _ hu => ?_⟩, hb⟩
    · rw [hsz]
      have : ms.length ≤ cap := hc1
      omega
    · have hu2 : (Lm.MC ms)[j]? = some u := hu
      rw [← htk] at hu2
      have hj : j < ms.length * 5 := by
        have := (List.getElem?_eq_some_iff.1 hu2).1
        rw [List.length_take] at this
        exact Nat.lt_of_lt_of_le this (Nat.min_le_left _ _)
      rw [List.getElem?_take_of_lt hj] at hu2
      simpa using hu2
set_option maxHeartbeats 4000000 in
set_option maxRecDepth 3000 in
theorem law_LexAll (s : ByteArray) (w : World) (hs : s.size ≤ maxLen) (hT : TabL w) :
    Calls Tryz.prog 4 #[.string s] w fun e w' => e = .returned (.bool true) ∧ Below w.heap.size w w' := by
  obtain ⟨l, rfl⟩ := as_S s
  have z1 := S_size l
  by_cases hL : (3000 : Int) < (l.length : Int)
  · go_enter Tryz.func4, Tryz.ntmps4
    go_wp2_with fail
    refine (awake_any _ hT).mono ?_; rintro e w1 ⟨rfl, b1⟩
    go_wp2_with fail
    go_ret
    exact ⟨rfl, b1⟩
  rcases Lm.ALL_ways (l := l) (by omega) with ⟨ms, hr, hA⟩ | ⟨q, c, _, hc, hq, hA⟩
  · obtain ⟨N, hN⟩ : ∃ N, ms.length = N := ⟨_, rfl⟩
    have hN0 : 0 < N := by have := List.length_pos_iff.2 hr.ne; omega
    have cR := fun w => ref_row (l := l) w (by omega) hA hN hN0
    have cA := fun w hT => all_own (l := l) w hT (by omega) hA hN hN0
    have HN := Lib.hid hN
    have hNl := hr.len (Nat.zero_le _)
    have hNb : (N : Int) ≤ 3001 := by omega
    clear hA hN hr hNl
    go_enter Tryz.func4, Tryz.ntmps4
    go_wp2_with fail
    refine (cR _).mono ?_; rintro e w1 ⟨gw, kw, rfl, R1, b1⟩
    clear cR
    go_wp2_with fail
    go_loopw [6] (fun iv wr => ∃ r : Nat, iv = .int .i64 (r : Int) ∧ r ≤ 2 ∧ RowAt wr gw ms ∧ Below w.heap.size w wr) (fun iv _ => 2 - (intOf iv).toNat)
    case atStart => exact ⟨0, rfl, by omega, R1, b1⟩
    case round =>
      clear R1 b1
      obtain ⟨r, rfl, hr, R1, b1⟩ := hrel
      have T1 := hT.below b1
      by_cases hr2 : (r : Int) < 2
      · go_wp2_with fail
        refine (cA _ T1).mono ?_; rintro e w2 ⟨g, k, rfl, hg, W2, b2⟩
        have R2 := R1.below b2
        have c2 := b1.trans (b2.mono b1.size)
        have hg2 : w.heap.size ≤ g := Nat.le_trans b1.size hg
        have hgne : gw ≠ g := by have := R1.1; omega
        clear R1 b1 b2 T1
        go_wp2_with fail
        go_loopw [10] (fun iv w3 => ∃ i : Nat, iv = .int .i64 (i : Int) ∧ i ≤ N ∧ RowAt w3 gw ms ∧ RowW w3 g ms i ∧ Below w.heap.size w w3) (fun iv _ => N - (intOf iv).toNat)
        case atStart => exact ⟨0, rfl, Nat.zero_le _, R2, W2, c2⟩
        case round =>
          clear R2 W2 c2
          obtain ⟨i, rfl, hi, R2, W2, c2⟩ := hrel
          by_cases hlt : (i : Int) < (N : Int)
          · obtain ⟨m, hm⟩ : ∃ m, ms[i]? = some m := ⟨ms[i]'(by have := HN.out; omega), List.getElem?_eq_getElem _⟩
            obtain ⟨kI, hkI⟩ : ∃ x : Int, x = (m.k : Int) := ⟨_, rfl⟩
            obtain ⟨aI, haI⟩ : ∃ x : Int, x = (m.a : Int) := ⟨_, rfl⟩
            obtain ⟨bI, hbI⟩ : ∃ x : Int, x = (m.b : Int) := ⟨_, rfl⟩
            have H5 := Lib.hid fun (w : World) (W : RowW w g ms i) => W.five hm hkI haI hbI
            obtain ⟨q0, q1, q2, q3, q4⟩ := R2.five hm hkI haI hbI
            obtain ⟨r0, r1, r2, r3, r4⟩ := H5.out _ W2
            generalize m.t = t at *
            generalize m.n = n at *
            clear hkI haI hbI hm
            go_wp2_with fail
            go_quiet (fail)
            have a9 : Below wr.heap.size wr (wr.drewN nq) := ⟨rfl, rfl, rfl, Nat.le_refl _, fun _ _ => rfl⟩
            have R3 := R2.below a9
            have W3 := W2.below a9
            have c3 := c2.trans (a9.mono c2.size)
            clear q0 q1 q2 q3 q4 r0 r1 r2 r3 r4
            generalize wr.drewN nq = U at R3 W3 c3 ⊢
            obtain ⟨r0, r1, r2, r3, r4⟩ := H5.out _ W3
            have rf := W3.free
            clear a9 R2 W2 c2
            go_wp2_with fail
            go_roundw
            case rel =>
              exact ⟨i + 1, by go_num, by omega, ((((R3.set hgne _).set hgne _).set hgne _).set hgne _).set hgne _, W3.set5 _ _ _ _ _, ((((c3.setCell (p := ⟨g, i * 5, none⟩) hg2 _).setCell (p := ⟨g, i * 5 + 1, none⟩) hg2 _).setCell (p := ⟨g, i * 5 + 2, none⟩) hg2 _).setCell (p := ⟨g, i * 5 + 3, none⟩) hg2 _).setCell (p := ⟨g, i * 5 + 4, none⟩) hg2 _⟩
            case measure => simp [intOf]; omega
          · go_wp2_with fail
            go_roundw
            case rel => exact ⟨r + 1, by go_num, by omega, R2, c2⟩
            case measure => simp [intOf]; omega
      · go_wp2_with fail
        refine (awake_any _ T1).mono ?_; rintro e w2 ⟨rfl, b2⟩
        go_wp2_with fail
        go_ret
        exact ⟨rfl, b1.trans (b2.mono b1.size)⟩
  · obtain ⟨qI, hqI⟩ : ∃ x : Int, x = (q : Int) := ⟨_, rfl⟩
    obtain ⟨cI, hcI⟩ : ∃ x : Int, x = (c : Int) := ⟨_, rfl⟩
    have cR := fun w => ref_no (l := l) w (by omega) hA hqI hcI
    have cA := fun w hT => all_no (l := l) w hT (by omega) hA hqI hcI
    clear hA hqI hcI hc hq
    go_enter Tryz.func4, Tryz.ntmps4
    go_wp2_with fail
    refine (cR _).mono ?_; rintro e w1 ⟨pw, kw, rfl, b1⟩
    clear cR
    go_wp2_with fail
    go_loopw [6] (fun iv wr => ∃ r : Nat, iv = .int .i64 (r : Int) ∧ r ≤ 2 ∧ Below w.heap.size w wr) (fun iv _ => 2 - (intOf iv).toNat)
    case atStart => exact ⟨0, rfl, by omega, b1⟩
    case round =>
      clear b1
      obtain ⟨r, rfl, hr, b1⟩ := hrel
      have T1 := hT.below b1
      by_cases hr2 : (r : Int) < 2
      · go_wp2_with fail
        refine (cA _ T1).mono ?_; rintro e w2 ⟨p2, k2, rfl, b2⟩
        have c2 := b1.trans (b2.mono b1.size)
        clear b1 b2 T1
        go_wp2_with fail
        go_loopw [10] (fun iv w3 => iv = .int .i64 0 ∧ w3 = w2) (fun iv _ => 0)
        case atStart => exact ⟨rfl, rfl⟩
        case round =>
          obtain ⟨rfl, rfl⟩ := hrel
          go_wp2_with fail
          go_roundw
          case rel => exact ⟨r + 1, by go_num, by omega, c2⟩
          case measure => simp [intOf]; omega
      · go_wp2_with fail
        refine (awake_any _ T1).mono ?_; rintro e w2 ⟨rfl, b2⟩
        go_wp2_with fail
        go_ret
        exact ⟨rfl, b1.trans (b2.mono b1.size)⟩
end Go.Proofs.YtjbkbkfhbombbaaGreatDoor
