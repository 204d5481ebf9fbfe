/-
  What the document's Quote comes to; awake; the law QuoteWrites.
-/
import Derived.Test.YtbeliommhligcaaDoorQuoteWrite
namespace Go.Proofs.YtbeliommhligcaaDoor
open Go.RowKit

theorem c34 : (⟨#[34]⟩ : ByteArray) = S [34] := rfl
theorem c92 : (⟨#[92]⟩ : ByteArray) = S [92] := rfl
theorem S_one {l : List UInt8} {k : Nat} (h : k < l.length) {c : UInt8} (hc : l[k] = c) : (S l).extract k (k + 1) = S [c] := by
  have := S_mid l k 1
  rw [List.drop_eq_getElem_cons h, hc, List.take_succ_cons, List.take_zero] at this
  exact this
set_option maxRecDepth 100000 in
set_option maxHeartbeats 1600000 in
theorem refQuote_any (l : List UInt8) (w : World) (hl : l.length ≤ 100000000) :
    Calls Tryd.prog 11 #[.string (S l)] w fun e w' => e = .returned (.tuple #[.string (S (QUO l).1), .int .i64 ((QUO l).2 : Int)]) ∧ Below w.heap.size w w' := by
  have z1 := S_size l
  have hat := S_at l
  by_cases h1 : (4096 : Int) < (l.length : Int)
  · have HR := Lib.hid (QUO_long (l := l) (by omega))
    go_enter Tryd.func11, Tryd.ntmps11
    go_wp2_with fail
    go_ret2
    exact ⟨ret_quo HR.out, Below.refl _ _⟩
  obtain ⟨n, v, hn⟩ : ∃ n v, LEN l = (n, v) := ⟨_, _, rfl⟩
  have hv : (LEN l).2 = v := by rw [hn]
  have HN := Lib.hid hn
  clear hn
  cases v
  · have HR := Lib.hid (QUO_no (l := l) (by omega) hv)
    clear hv
    go_enter Tryd.func11, Tryd.ntmps11
    go_wp2_with fail
    refine (refLen_at (Below.refl _ _) l hl HN.out).mono ?_; rintro e w1 ⟨rfl, h1⟩
    go_wp2_with fail
    go_ret2
    exact ⟨ret_quo HR.out, h1⟩
  · have HR := Lib.hid (QUO_ok (l := l) (by omega) hv)
    clear hv
    go_enter Tryd.func11, Tryd.ntmps11
    go_wp2_with fail
    refine (refLen_at (Below.refl _ _) l hl HN.out).mono ?_; rintro e w1 ⟨rfl, hb1⟩
    go_wp2_with fail
    go_loopw [6, 7] (fun v i wr => ∃ (k : Nat) (o : List UInt8), k ≤ l.length ∧ i = .int .i64 (k : Int) ∧ Hid (o = Qm.mid l k) ∧ o.length ≤ 2 * k + 1 ∧ v = .string (S o) ∧ Below w.heap.size w wr) (fun _ i _ => l.length - (intOf i).toNat)
    case atStart => exact ⟨0, [34], Nat.zero_le _, rfl, rfl, by simp, rfl, hb1⟩
    case round =>
      clear hb1
      obtain ⟨k, o, hk, rfl, HM, ho, rfl, hbel⟩ := hrel
      have hsz := hbel.size
      by_cases hlt : k < l.length
      · have hbt := bt_get hlt
        obtain ⟨c, hc⟩ : ∃ c, l[k] = c := ⟨_, rfl⟩
        rw [hc] at hbt
        have hm := S_one hlt hc
        by_cases h3 : c = 34 ∨ c = 92
        · obtain ⟨o1, ho1⟩ : ∃ o1, o1 = o ++ [92] := ⟨_, rfl⟩
          obtain ⟨o2, ho2⟩ : ∃ o2, o2 = o1 ++ [c] := ⟨_, rfl⟩
          have HM2 : Hid (o2 = Qm.mid l (k + 1)) := by unfold Hid; rw [Qm.mid_mark hlt hc h3, ho2, ho1, HM.out]
          have A1 := add_S o [92] (by simp only [List.length_cons, List.length_nil]; omega)
          rw [← ho1, ← c92] at A1
          have zo1 : o1.length = o.length + 1 := by rw [ho1, List.length_append]; rfl
          have zo2 : o2.length = o.length + 1 + 1 := by rw [ho2, List.length_append, zo1]; rfl
          have A2 := add_S o1 [c] (by simp only [List.length_cons, List.length_nil]; omega)
          rw [← ho2] at A2
          have HL := Lib.hid (show o2.length ≤ 2 * (k + 1) + 1 by omega)
          clear hc HM ho1 ho2 zo1 zo2
          rcases h3 with rfl | rfl
          all_goals
            go_wp2_with fail
            go_roundw
            case rel => exact ⟨k + 1, o2, by omega, by go_num, HM2, HL.out, rfl, hbel⟩
            case measure => simp [intOf]; omega
        · obtain ⟨o2, ho2⟩ : ∃ o2, o2 = o ++ [c] := ⟨_, rfl⟩
          have HM2 : Hid (o2 = Qm.mid l (k + 1)) := by unfold Hid; rw [Qm.mid_plain hlt hc h3, ho2, HM.out]
          have zo2 : o2.length = o.length + 1 := by rw [ho2, List.length_append]; rfl
          have A2 := add_S o [c] (by simp only [List.length_cons, List.length_nil]; omega)
          rw [← ho2] at A2
          have n1 : ((c.toNat : Int) == 34) = false := by
            rw [beq_eq_false_iff_ne]
            intro e
            exact h3 (.inl (UInt8.toNat_inj.1 (show c.toNat = 34 by omega)))
          have n2 : ((c.toNat : Int) == 92) = false := by
            rw [beq_eq_false_iff_ne]
            intro e
            exact h3 (.inr (UInt8.toNat_inj.1 (show c.toNat = 92 by omega)))
          have HL := Lib.hid (show o2.length ≤ 2 * (k + 1) + 1 by omega)
          clear hc HM h3 ho2 zo2
          go_wp2_with fail
          go_roundw
          case rel => exact ⟨k + 1, o2, by omega, by go_num, HM2, HL.out, rfl, hbel⟩
          case measure => simp [intOf]; omega
      · obtain rfl : k = l.length := by omega
        have A1 := add_S o [34] (by simp only [List.length_cons, List.length_nil]; omega)
        rw [HM.out, Qm.mid_full, ← HM.out, ← c34] at A1
        clear HM
        go_wp2_with fail
        go_ret2
        exact ⟨ret_quo HR.out, hbel⟩
section
variable {w0 w : World}
theorem Quote_at (h : Below w0.heap.size w0 w) (l : List UInt8) (hl : l.length ≤ 100000000) {a : List UInt8} {c : Nat} (hx : QUO l = (a, c)) :
    Calls Tryd.prog 10 #[.string (S l)] w fun e w' => e = .returned (.tuple #[.string (S a), .int .i64 (c : Int)]) ∧ Below w0.heap.size w0 w' := by
  have := from_ h (Quote_any l w hl)
  rw [hx] at this
  exact this
theorem refQuote_at (h : Below w0.heap.size w0 w) (l : List UInt8) (hl : l.length ≤ 100000000) {a : List UInt8} {c : Nat} (hx : QUO l = (a, c)) :
    Calls Tryd.prog 11 #[.string (S l)] w fun e w' => e = .returned (.tuple #[.string (S a), .int .i64 (c : Int)]) ∧ Below w0.heap.size w0 w' := by
  have := from_ h (refQuote_any l w hl)
  rw [hx] at this
  exact this
theorem Read_at (h : Below w0.heap.size w0 w) (hT : Tab w0) (l : List UInt8) (k : Int) (hl : l.length ≤ 100000000) {a : List UInt8} {b c : Nat} (hx : Qm.RD l k = (a, b, c)) :
    Calls Tryd.prog 13 #[.string (S l), .int .i64 k] w fun e w' => e = .returned (.tuple #[.string (S a), .int .i64 (b : Int), .int .i64 (c : Int)]) ∧ Below w0.heap.size w0 w' := by
  have := from_ h (Read_any l k w hl (hT.below h hT.lt))
  unfold RR at this
  rw [hx] at this
  exact this
end
set_option maxHeartbeats 1600000 in
theorem awake_any (w : World) (hT : Tab w) :
    Calls Tryd.prog 9 #[] w fun e w' => e = .returned (.bool true) ∧ Below w.heap.size w w' := by
  have s1 := S_toList [34, 97, 92, 34, 98, 92, 92, 34]
  have s2 := S_toList [97, 195, 169, 10]
  have s3 := S_toList [240, 159, 152, 128]
  go_enter Tryd.func9, Tryd.ntmps9
  go_wp2_with fail
  refine (Quote_at (Below.refl _ _) [97, 34, 98, 92] (by decide) (a := [34, 97, 92, 34, 98, 92, 92, 34]) (c := 0) (by decide +kernel)).mono ?_; rintro e w1 ⟨rfl, h1⟩
  go_wp2_with fail
  refine (Quote_at h1 [255] (by decide) (a := []) (c := 12) (by decide +kernel)).mono ?_; rintro e w2 ⟨rfl, h2⟩
  go_wp2_with fail
  refine (Read_at h2 hT [34, 97, 92, 117, 48, 48, 101, 57, 92, 110, 34] 0 (by decide) (a := [97, 195, 169, 10]) (b := 11) (c := 0) (by decide +kernel)).mono ?_; rintro e w3 ⟨rfl, h3⟩
  go_wp2_with fail
  refine (Read_at h3 hT [34, 92, 117, 100, 56, 51, 100, 92, 117, 100, 101, 48, 48, 34] 0 (by decide) (a := [240, 159, 152, 128]) (b := 14) (c := 0) (by decide +kernel)).mono ?_; rintro e w4 ⟨rfl, h4⟩
  go_wp2_with fail
  refine (Read_at h4 hT [34, 92, 117, 100, 56, 51, 100, 34] 0 (by decide) (a := []) (b := 0) (c := 12) (by decide +kernel)).mono ?_; rintro e w5 ⟨rfl, h5⟩
  go_wp2_with fail
  refine (Read_at h5 hT [34, 92, 120, 34] 0 (by decide) (a := []) (b := 0) (c := 3) (by decide +kernel)).mono ?_; rintro e w6 ⟨rfl, h6⟩
  go_wp2_with fail
  go_ret
  exact ⟨rfl, h6⟩
theorem awake_at {w0 w : World} (h : Below w0.heap.size w0 w) (hT : Tab w0) :
    Calls Tryd.prog 9 #[] w fun e w' => e = .returned (.bool true) ∧ Below w0.heap.size w0 w' := from_ h (awake_any w (hT.below h hT.lt))
set_option maxHeartbeats 800000 in
theorem law_QuoteWrites (s : ByteArray) (w : World) (hs : s.size ≤ maxLen) (hT : Tab w) :
    Calls Tryd.prog 3 #[.string s] w fun e w' => e = .returned (.bool true) ∧ Below w.heap.size w w' := by
  unfold maxLen at hs
  obtain ⟨l, rfl⟩ := as_S s
  by_cases h1 : (3000 : Int) < ((S l).size : Int)
  · go_enter Tryd.func3, Tryd.ntmps3
    go_wp2_with fail
    refine (awake_any _ hT).mono ?_; rintro e w3 ⟨rfl, h3⟩
    go_wp2_with fail
    go_ret
    exact ⟨rfl, h3⟩
  have z1 := S_size l
  have hl : l.length ≤ 100000000 := by omega
  obtain ⟨a, c, hx⟩ : ∃ a c, QUO l = (a, c) := ⟨_, _, rfl⟩
  have HX := Lib.hid hx
  clear hx
  go_enter Tryd.func3, Tryd.ntmps3
  go_wp2_with fail
  refine (Quote_at (Below.refl _ _) l hl HX.out).mono ?_; rintro e w1 ⟨rfl, h1⟩
  go_wp2_with fail
  refine (refQuote_at h1 l hl HX.out).mono ?_; rintro e w2 ⟨rfl, h2⟩
  go_wp2_with fail
  refine (awake_at h2 hT).mono ?_; rintro e w3 ⟨rfl, h3⟩
  go_wp2_with fail
  go_ret
  exact ⟨rfl, h3⟩
end Go.Proofs.YtbeliommhligcaaDoor
