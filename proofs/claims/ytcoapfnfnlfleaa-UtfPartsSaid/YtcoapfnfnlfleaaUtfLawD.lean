/-
  The walk of UtfParts: it comes to true.
-/
import Derived.Test.YtcoapfnfnlfleaaUtfLawC
namespace Go.Proofs.Ytcoapfnfnlfleaa
open Go.RowKit

/-- a front that is cut within a rune -/
theorem cut_facts {l : List UInt8} {p r z i c : Nat} (hp : p ≤ l.length) (hx : Um.nx (l.drop p) = (r, z, 0)) (hc : Um.cnt (l.take p) = some c) (h1 : 1 ≤ i) (h2 : i < z) :
    p + i ≤ l.length ∧ NX (l.take (p + i)) (p : Int) = (0, 0, 4) ∧ (LEN (l.take (p + i))).2 = false := by
  have hf := Um.nx_facts hx
  have hz := hf.2.2.2.1
  rw [List.length_drop] at hz
  have hcut := Um.nx_cut hx h1 h2
  refine ⟨by omega, ?_, ?_⟩
  · rw [NX_in _ _ (by rw [List.length_take]; omega), List.drop_take, show p + i - p = i by omega, hcut]
  · apply valid_none
    rw [List.take_add, Um.cnt_append hc, Um.cnt_no (by rw [hcut]; decide) (by rw [List.length_take, List.length_drop]; omega)]
    rfl
theorem step_facts {l : List UInt8} {p r z c m : Nat} (hp : p ≤ l.length) (hx : Um.nx (l.drop p) = (r, z, 0)) (hc : Um.cnt (l.take p) = some c) (hm : Um.cnt (l.drop p) = some m) :
    p + z ≤ l.length ∧ 1 ≤ m ∧ Um.cnt (l.take (p + z)) = some (c + 1) ∧ Um.cnt (l.drop (p + z)) = some (m - 1) := by
  have hf := Um.nx_facts hx
  have hz := hf.2.2.2.1
  rw [List.length_drop] at hz
  rw [Um.cnt_ok hx, List.drop_drop] at hm
  obtain ⟨q, hq1, hq2⟩ := Option.map_eq_some_iff.1 hm
  refine ⟨by omega, by omega, ?_, ?_⟩
  · rw [List.take_add, Um.cnt_append hc, Um.cnt_one hx, Option.map_some]
    congr 1
    omega
  · rw [hq1]
    congr 1
    omega
/-- what holds at the head of the outer loop -/
def Pt (l : List UInt8) (at' left : Value) : Prop := ∃ p m c : Nat, at' = .int .i64 (p : Int) ∧ left = .int .i64 (m : Int) ∧ p ≤ l.length ∧ m ≤ l.length ∧ Um.cnt (l.take p) = some c ∧ Um.cnt (l.drop p) = some m
theorem Pt.start {l : List UInt8} {n : Nat} (h : Um.cnt l = some n) : Pt l (.int .i64 0) (.int .i64 (n : Int)) :=
  ⟨0, n, 0, rfl, rfl, Nat.zero_le _, Um.cnt_le _ _ _ (Nat.le_refl _) h, rfl, h⟩
set_option maxRecDepth 100000 in
set_option maxHeartbeats 1600000 in
theorem law_UtfParts (s t : ByteArray) (w : World) (hs : s.size ≤ maxLen) (ht : t.size ≤ maxLen) :
    Calls Try.prog 7 #[.string s, .string t] w fun e w' => e = .returned (.bool true) ∧ Below w.heap.size w w' := by
  unfold maxLen at hs ht
  obtain ⟨l, rfl⟩ := as_S s
  obtain ⟨t, rfl⟩ := as_S t
  by_cases h1 : (3000 : Int) < ((S l).size : Int)
  · go_enter Try.func7, Try.ntmps7
    go_wp2_with fail
    refine (awake_any _).mono ?_; rintro e w3 ⟨rfl, h3⟩
    go_wp2_with fail
    go_ret
    exact ⟨rfl, h3⟩
  by_cases h2 : (3000 : Int) < ((S t).size : Int)
  · go_enter Try.func7, Try.ntmps7
    go_wp2_with fail
    refine (awake_any _).mono ?_; rintro e w3 ⟨rfl, h3⟩
    go_wp2_with fail
    go_ret
    exact ⟨rfl, h3⟩
  have z1 := S_size l
  have z2 := S_size t
  have hl : l.length ≤ 3000 := by omega
  have ht' : t.length ≤ 3000 := by omega
  have a1 := add_S l t (by omega)
  have q1 : Hid (l.length ≤ 100000000) := by unfold Hid; omega
  have q2 : Hid (t.length ≤ 100000000) := by unfold Hid; omega
  have q3 : Hid ((l ++ t).length ≤ 100000000) := by unfold Hid; rw [List.length_append]; omega
  cases hc : Um.cnt l with
  | none =>
    have HL := Lib.hid (LEN_none hc)
    obtain ⟨m, b, hm⟩ : ∃ m b, LEN t = (m, b) := ⟨_, _, rfl⟩
    obtain ⟨k, c, hk⟩ : ∃ k c, LEN (l ++ t) = (k, c) := ⟨_, _, rfl⟩
    have HM := Lib.hid hm
    have HK := Lib.hid hk
    clear hc hm hk
    go_enter Try.func7, Try.ntmps7
    go_wp2_with fail
    refine (awake_any _).mono ?_; rintro e w1 ⟨rfl, h1⟩
    go_wp2_with fail
    refine (Len_at h1 l q1.out HL.out).mono ?_; rintro e w2 ⟨rfl, h2⟩
    go_wp2_with fail
    refine (Len_at h2 t q2.out HM.out).mono ?_; rintro e w3 ⟨rfl, h3⟩
    go_wp2_with fail
    refine (Len_at h3 (l ++ t) q3.out HK.out).mono ?_; rintro e w4 ⟨rfl, h4⟩
    go_wp2_with fail
    go_ret
    exact ⟨rfl, h4⟩
  | some n =>
    have HL := Lib.hid (LEN_some hc)
    have HP := Lib.hid (Pt.start hc)
    have hn : n ≤ l.length := Um.cnt_le _ _ _ (Nat.le_refl _) hc
    obtain ⟨m, b, k, hm, hk, hb⟩ : ∃ m b k, LEN t = (m, b) ∧ LEN (l ++ t) = (k, b) ∧ (b = true → k = n + m ∧ m ≤ t.length) := by
      cases hd : Um.cnt t with
      | none => exact ⟨0, false, 0, LEN_none hd, LEN_none (by rw [Um.cnt_append hc, hd]; rfl), fun h => by cases h⟩
      | some m => exact ⟨m, true, n + m, LEN_some hd, LEN_some (by rw [Um.cnt_append hc, hd, Option.map_some]; congr 1; omega), fun _ => ⟨rfl, Um.cnt_le _ _ _ (Nat.le_refl _) hd⟩⟩
    have HM := Lib.hid hm
    have HK := Lib.hid hk
    clear hc hm hk
    cases b
    · clear hb
      go_enter Try.func7, Try.ntmps7
      go_wp2_with fail
      refine (awake_any _).mono ?_; rintro e w1 ⟨rfl, h1⟩
      go_wp2_with fail
      refine (Len_at h1 l q1.out HL.out).mono ?_; rintro e w2 ⟨rfl, h2⟩
      go_wp2_with fail
      refine (Len_at h2 t q2.out HM.out).mono ?_; rintro e w3 ⟨rfl, h3⟩
      go_wp2_with fail
      refine (Len_at h3 (l ++ t) q3.out HK.out).mono ?_; rintro e w4 ⟨rfl, h4⟩
      go_wp2_with fail
      go_loopw [11, 12, 13, 14, 15, 16, 17, 18, 19, 20, 21] (fun at' left _ _ _ _ _ _ _ _ _ wr => Pt l at' left ∧ Below w.heap.size w wr) (fun at' _ _ _ _ _ _ _ _ _ _ _ => l.length - (intOf at').toNat)
      case atStart => exact ⟨HP.out, h4⟩
      case round =>
        obtain ⟨⟨p, m, c, rfl, rfl, hp, hm', hc, hd⟩, hbel⟩ := hrel
        by_cases hlt : p < l.length
        · have hT := S_drop' l p
          obtain ⟨r, z, _, hx, _, _⟩ := Um.cnt_some hd (by rw [List.length_drop]; omega)
          have hN := (NX_in l p hp).trans hx
          have HLD := Lib.hid (LEN_some hd)
          have HS := Lib.hid (step_facts hp hx hc hd)
          have hz4 := (Um.nx_facts hx).2.2.2.2
          have HX := Lib.hid hx
          have HN := Lib.hid hN
          have HC := Lib.hid hc
          have hpz : p + z ≤ l.length := HS.out.1
          have hm1 : 1 ≤ m := HS.out.2.1
          have qd : Hid ((l.drop p).length ≤ 100000000) := by unfold Hid; rw [List.length_drop]; omega
          clear hx hN hc hd
          go_wp2_with fail
          refine (Next_at hbel l p HN.out).mono ?_; rintro e w5 ⟨rfl, h5⟩
          go_wp2_with fail
          refine (Len_at h5 (l.drop p) qd.out HLD.out).mono ?_; rintro e w6 ⟨rfl, h6⟩
          go_wp2_with fail
          go_loopw [18, 19, 20, 21] (fun cut _ _ _ wr => (∃ i : Nat, 1 ≤ i ∧ i ≤ z ∧ cut = .int .i64 (i : Int)) ∧ Below w.heap.size w wr) (fun cut _ _ _ _ => z - (intOf cut).toNat)
          case atStart => exact ⟨⟨1, Nat.le_refl _, hz4.1, rfl⟩, h6⟩
          case round =>
            obtain ⟨⟨i, hi1, hi2, rfl⟩, hb2⟩ := hrel
            by_cases hi : i < z
            · have hcf := cut_facts hp HX.out HC.out hi1 hi
              have hS := S_take' l (p + i)
              have hpi : p + i ≤ l.length := hcf.1
              have HC1 := Lib.hid hcf.2.1
              have HC2 := Lib.hid hcf.2.2
              have qt : Hid ((l.take (p + i)).length ≤ 100000000) := by unfold Hid; rw [List.length_take]; omega
              clear hcf
              go_wp2_with fail
              refine (Next_at hb2 (l.take (p + i)) p HC1.out).mono ?_; rintro e w7 ⟨rfl, h7⟩
              go_wp2_with fail
              refine (Valid_at h7 (l.take (p + i)) qt.out HC2.out).mono ?_; rintro e w8 ⟨rfl, h8⟩
              go_wp2_with fail
              go_roundw
              case rel => exact ⟨⟨i + 1, by omega, by omega, rfl⟩, h8⟩
              case measure => simp [intOf]; omega
            · go_wp2_with fail
              go_roundw
              case rel =>
                have := HS.out
                exact ⟨⟨p + z, m - 1, c + 1, by go_num, by go_num, this.1, by omega, this.2.2.1, this.2.2.2⟩, hb2⟩
              case measure => simp [intOf]; omega
        · go_wp2_with fail
          go_ret
          exact ⟨rfl, hbel⟩
    · obtain ⟨rfl, hm⟩ := hb rfl
      clear hb
      go_enter Try.func7, Try.ntmps7
      go_wp2_with fail
      refine (awake_any _).mono ?_; rintro e w1 ⟨rfl, h1⟩
      go_wp2_with fail
      refine (Len_at h1 l q1.out HL.out).mono ?_; rintro e w2 ⟨rfl, h2⟩
      go_wp2_with fail
      refine (Len_at h2 t q2.out HM.out).mono ?_; rintro e w3 ⟨rfl, h3⟩
      go_wp2_with fail
      refine (Len_at h3 (l ++ t) q3.out HK.out).mono ?_; rintro e w4 ⟨rfl, h4⟩
      go_wp2_with fail
      go_loopw [11, 12, 13, 14, 15, 16, 17, 18, 19, 20, 21] (fun at' left _ _ _ _ _ _ _ _ _ wr => Pt l at' left ∧ Below w.heap.size w wr) (fun at' _ _ _ _ _ _ _ _ _ _ _ => l.length - (intOf at').toNat)
      case atStart => exact ⟨HP.out, h4⟩
      case round =>
        obtain ⟨⟨p, m, c, rfl, rfl, hp, hm', hc, hd⟩, hbel⟩ := hrel
        by_cases hlt : p < l.length
        · have hT := S_drop' l p
          obtain ⟨r, z, _, hx, _, _⟩ := Um.cnt_some hd (by rw [List.length_drop]; omega)
          have hN := (NX_in l p hp).trans hx
          have HLD := Lib.hid (LEN_some hd)
          have HS := Lib.hid (step_facts hp hx hc hd)
          have hz4 := (Um.nx_facts hx).2.2.2.2
          have HX := Lib.hid hx
          have HN := Lib.hid hN
          have HC := Lib.hid hc
          have hpz : p + z ≤ l.length := HS.out.1
          have hm1 : 1 ≤ m := HS.out.2.1
          have qd : Hid ((l.drop p).length ≤ 100000000) := by unfold Hid; rw [List.length_drop]; omega
          clear hx hN hc hd
          go_wp2_with fail
          refine (Next_at hbel l p HN.out).mono ?_; rintro e w5 ⟨rfl, h5⟩
          go_wp2_with fail
          refine (Len_at h5 (l.drop p) qd.out HLD.out).mono ?_; rintro e w6 ⟨rfl, h6⟩
          go_wp2_with fail
          go_loopw [18, 19, 20, 21] (fun cut _ _ _ wr => (∃ i : Nat, 1 ≤ i ∧ i ≤ z ∧ cut = .int .i64 (i : Int)) ∧ Below w.heap.size w wr) (fun cut _ _ _ _ => z - (intOf cut).toNat)
          case atStart => exact ⟨⟨1, Nat.le_refl _, hz4.1, rfl⟩, h6⟩
          case round =>
            obtain ⟨⟨i, hi1, hi2, rfl⟩, hb2⟩ := hrel
            by_cases hi : i < z
            · have hcf := cut_facts hp HX.out HC.out hi1 hi
              have hS := S_take' l (p + i)
              have hpi : p + i ≤ l.length := hcf.1
              have HC1 := Lib.hid hcf.2.1
              have HC2 := Lib.hid hcf.2.2
              have qt : Hid ((l.take (p + i)).length ≤ 100000000) := by unfold Hid; rw [List.length_take]; omega
              clear hcf
              go_wp2_with fail
              refine (Next_at hb2 (l.take (p + i)) p HC1.out).mono ?_; rintro e w7 ⟨rfl, h7⟩
              go_wp2_with fail
              refine (Valid_at h7 (l.take (p + i)) qt.out HC2.out).mono ?_; rintro e w8 ⟨rfl, h8⟩
              go_wp2_with fail
              go_roundw
              case rel => exact ⟨⟨i + 1, by omega, by omega, rfl⟩, h8⟩
              case measure => simp [intOf]; omega
            · go_wp2_with fail
              go_roundw
              case rel =>
                have := HS.out
                exact ⟨⟨p + z, m - 1, c + 1, by go_num, by go_num, this.1, by omega, this.2.2.1, this.2.2.2⟩, hb2⟩
              case measure => simp [intOf]; omega
        · go_wp2_with fail
          go_ret
          exact ⟨rfl, hbel⟩
end Go.Proofs.Ytcoapfnfnlfleaa
