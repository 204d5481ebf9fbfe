/-
  What Quote comes to, the program's and the document's.
-/
import Derived.Test.YtpifbmcgadjhbaaDoorQuoteRead
import Derived.Test.YtpifbmcgadjhbaaDoorUtfRefNext
import Derived.Lib.AppendStr
import Derived.Deep.AppendLies
namespace Go.Proofs.YtpifbmcgadjhbaaDoor
open Go.RowKit

theorem V_append (a b : List UInt8) : V (a ++ b) = V a ++ V b := by simp [V]
def QUO (l : List UInt8) : List UInt8 × Nat := if 4096 < l.length then ([], 5) else if (LEN l).2 = true then (Qm.quo l, 0) else ([], 12)
theorem QUO_long {l : List UInt8} (h : 4096 < l.length) : QUO l = ([], 5) := by unfold QUO; rw [if_pos h]
theorem QUO_ok {l : List UInt8} (h : l.length ≤ 4096) (hv : (LEN l).2 = true) : QUO l = (Qm.quo l, 0) := by unfold QUO; rw [if_neg (by omega), if_pos hv]
theorem QUO_no {l : List UInt8} (h : l.length ≤ 4096) (hv : (LEN l).2 = false) : QUO l = ([], 12) := by unfold QUO; rw [if_neg (by omega), if_neg (by rw [hv]; decide)]
theorem ret_quo {x : List UInt8 × Nat} {a : List UInt8} {c : Nat} (h : x = (a, c)) : Ending.returned (.tuple #[.string (S a), .int .i64 (c : Int)]) = .returned (.tuple #[.string (S x.1), .int .i64 (x.2 : Int)]) := by rw [h]
theorem own_new (w : World) (B : Nat) (x : Value) (h : B ≤ w.heap.size) : (w.alloc (.cells #[x] 5)).ownsRow B 5 1 (.slice (some ⟨w.heap.size, 0, none⟩) 1 1) 1 [x] :=
  ⟨rfl, .inr ⟨w.heap.size, 1, #[x], rfl, h, heap_alloc_new w _, Nat.le_refl _, by decide, rfl, rfl⟩⟩
namespace Qm
/-- what is written behind k bytes -/
def mid (l : List UInt8) (k : Nat) : List UInt8 := 34 :: esc (l.take k)
theorem mid_zero (l : List UInt8) : mid l 0 = [34] := rfl
theorem mid_len (l : List UInt8) (k : Nat) : (mid l k).length ≤ 2 * k + 1 := by
  have := (esc_len (l.take k)).2
  have h2 : (l.take k).length ≤ k := by rw [List.length_take]; omega
  unfold mid
  rw [List.length_cons]
  omega
theorem mid_full (l : List UInt8) : mid l l.length ++ [34] = quo l := by
  unfold mid quo
  rw [List.take_length]
  rfl
theorem mid_mark {l : List UInt8} {k : Nat} (h : k < l.length) {c : UInt8} (hc : l[k] = c) (h1 : c = 34 ∨ c = 92) : mid l (k + 1) = mid l k ++ [92] ++ [c] := by
  unfold mid
  rw [List.take_succ_eq_append_getElem h, esc_append, hc, esc_one, if_pos h1]
  simp
theorem mid_plain {l : List UInt8} {k : Nat} (h : k < l.length) {c : UInt8} (hc : l[k] = c) (h1 : ¬ (c = 34 ∨ c = 92)) : mid l (k + 1) = mid l k ++ [c] := by
  unfold mid
  rw [List.take_succ_eq_append_getElem h, esc_append, hc, esc_one, if_neg h1]
  simp
end Qm
theorem bt_get {l : List UInt8} {k : Nat} (h : k < l.length) : Um.bt l k = l[k].toNat := by
  unfold Um.bt
  simp [List.getD_eq_getElem?_getD, List.getElem?_eq_getElem h]
set_option maxRecDepth 100000 in
set_option maxHeartbeats 1600000 in
theorem Quote_any (l : List UInt8) (w : World) (hl : l.length ≤ 100000000) :
    Calls Tryd.prog 27 #[.string (S l)] w fun e w' => e = .returned (.tuple #[.string (S (QUO l).1), .int .i64 ((QUO l).2 : Int)]) ∧ Below w.heap.size w w' := by
  have z1 := S_size l
  have hat := S_at l
  by_cases h1 : (4096 : Int) < (l.length : Int)
  · have HR := Lib.hid (QUO_long (l := l) (by omega))
    go_enter Tryd.func27, Tryd.ntmps27
    go_wp2_with fail
    go_ret2
    exact ⟨ret_quo HR.out, Below.refl _ _⟩
  cases hv : (LEN l).2
  · have HR := Lib.hid (QUO_no (l := l) (by omega) hv)
    have HV := Lib.hid hv
    clear hv
    go_enter Tryd.func27, Tryd.ntmps27
    go_wp2_with fail
    refine (Valid_at (Below.refl _ _) l hl HV.out).mono ?_; rintro e w1 ⟨rfl, h1⟩
    go_wp2_with fail
    go_ret2
    exact ⟨ret_quo HR.out, h1⟩
  · have HR := Lib.hid (QUO_ok (l := l) (by omega) hv)
    have HV := Lib.hid hv
    clear hv
    obtain ⟨i0, hi0, hz0, hz1, hz2⟩ := info_parts info5
    go_enter Tryd.func27, Tryd.ntmps27
    go_wp2_with fail
    refine (Valid_at (Below.refl _ _) l hl HV.out).mono ?_; rintro e w1 ⟨rfl, hb1⟩
    have hown0 := own_new w1 w.heap.size (.int .u8 34) hb1.size
    have hb2 : Below w.heap.size w (w1.alloc (.cells #[.int .u8 34] 5)) := hb1.alloc hb1.size _
    have HO := Lib.hid hown0
    clear hown0
    go_wp2_with fail
    go_loopw [4, 5, 15] (fun v _ i wr => ∃ (k : Nat) (o : List UInt8), k ≤ l.length ∧ i = .int .i64 (k : Int) ∧ Hid (o = Qm.mid l k) ∧ o.length ≤ 2 * k + 1 ∧ wr.ownsRow w.heap.size 5 1 v o.length (V o) ∧ Below w.heap.size w wr) (fun _ _ i _ => l.length - (intOf i).toNat)
    case atStart => exact ⟨0, [34], Nat.zero_le _, rfl, rfl, by simp, HO.out, hb2⟩
    case round =>
      clear HO hb2 hb1
      obtain ⟨k, o, hk, rfl, HM, ho, hown, hbel⟩ := hrel
      have hsz := hbel.size
      by_cases hlt : k < l.length
      · have hbt := bt_get hlt
        obtain ⟨c, hc⟩ : ∃ c, l[k] = c := ⟨_, rfl⟩
        rw [hc] at hbt
        have hml := Qm.mid_len l (k + 1)
        by_cases h3 : c = 34 ∨ c = 92
        · have HM2 : Hid (Qm.mid l (k + 1) = o ++ [92] ++ [c]) := by unfold Hid; rw [Qm.mid_mark hlt hc h3, HM.out]
          clear hc HM
          rcases h3 with rfl | rfl
          all_goals
            go_wp2_with (first
              | (at_builtin; refine wpList_append_own _ rfl _ _ 37 rfl w.heap.size 5 i0 (.int .u8 0) 1 1 Tryd.underlying37 hi0 hz0 hz1 hz2 rfl (by decide) _ _ _ rfl (hown.alloc _) ⟨wr.heap.size, 0, none⟩ 1 1 [.int .u8 92] rfl rfl (World.news_of_block (cs := #[.int .u8 92]) (t := 5) (fr := (0, 0)) (heap_alloc_new wr _)) (by simp [Value.oneCell']) (by unfold maxLen; omega) (by omega) (by simp; omega) ?_; intro v' w2 hown1 hgrow _; have hb3 : Below w.heap.size w w2 := (hbel.alloc hsz _).grown hgrow (by simp <;> omega) (fun g e => (hown.lt _ e).1); have hsz2 := hb3.size)
              | (at_builtin; refine wpList_append_own _ rfl _ _ 37 rfl w.heap.size 5 i0 (.int .u8 0) 1 1 Tryd.underlying37 hi0 hz0 hz1 hz2 rfl (by decide) _ _ _ rfl (hown1.alloc _) ⟨w2.heap.size, 0, none⟩ 1 1 [.int .u8 _] rfl rfl (World.news_of_block (cs := #[.int .u8 _]) (t := 5) (fr := (0, 0)) (heap_alloc_new w2 _)) (by simp [Value.oneCell']) (by unfold maxLen; omega) (by omega) (by simp; omega) ?_; intro v'' w3 hown2 hgrow2 _))
            have hb4 := (hb3.alloc hsz2 _).grown hgrow2 (by simp <;> omega) (fun g e => (hown1.lt _ e).1)
            have HL := Lib.hid (show o.length + 1 + 1 ≤ 2 * (k + 1) + 1 by omega)
            clear hown hgrow hgrow2 hown1
            go_wp2_with fail
            go_roundw
            case rel =>
              refine ⟨k + 1, _, by omega, by go_num, HM2.out.symm, by rw [List.length_append, List.length_append]; exact HL.out, ?_, hb4⟩
              rw [V_append, V_append, List.length_append, List.length_append]
              exact hown2
            case measure => simp [intOf]; omega
        · have HM2 : Hid (Qm.mid l (k + 1) = o ++ [c]) := by unfold Hid; rw [Qm.mid_plain hlt hc h3, HM.out]
          have n1 : ((c.toNat : Int) == 34) = false := by
            rw [beq_eq_false_iff_ne]
            intro e
            exact h3 (.inl (UInt8.toNat_inj.1 (show c.toNat = 34 by omega)))
          have n2 : ((c.toNat : Int) == 92) = false := by
            rw [beq_eq_false_iff_ne]
            intro e
            exact h3 (.inr (UInt8.toNat_inj.1 (show c.toNat = 92 by omega)))
          clear hc HM h3
          go_wp2_with (at_builtin; refine wpList_append_own _ rfl _ _ 37 rfl w.heap.size 5 i0 (.int .u8 0) 1 1 Tryd.underlying37 hi0 hz0 hz1 hz2 rfl (by decide) _ _ _ rfl (hown.alloc _) ⟨wr.heap.size, 0, none⟩ 1 1 [.int .u8 (c.toNat : Int)] rfl rfl (World.news_of_block (cs := #[.int .u8 (c.toNat : Int)]) (t := 5) (fr := (0, 0)) (heap_alloc_new wr _)) (by simp [Value.oneCell']) (by unfold maxLen; omega) (by omega) (by simp; omega) ?_; intro v' w2 hown1 hgrow _)
          have hb3 : Below w.heap.size w w2 := (hbel.alloc hsz _).grown hgrow (by simp <;> omega) (fun g e => (hown.lt _ e).1)
          have HL := Lib.hid (show o.length + 1 ≤ 2 * (k + 1) + 1 by omega)
          clear hown hgrow
          go_wp2_with fail
          go_roundw
          case rel =>
            refine ⟨k + 1, _, by omega, by go_num, HM2.out.symm, by rw [List.length_append]; exact HL.out, ?_, hb3⟩
            rw [V_append, List.length_append]
            exact hown1
          case measure => simp [intOf]; omega
      · obtain rfl : k = l.length := by omega
        have HQ : Hid (o ++ [34] = Qm.quo l) := by unfold Hid; rw [HM.out, Qm.mid_full]
        clear HM
        go_wp2_with (at_builtin; refine wpList_append_own _ rfl _ _ 37 rfl w.heap.size 5 i0 (.int .u8 0) 1 1 Tryd.underlying37 hi0 hz0 hz1 hz2 rfl (by decide) _ _ _ rfl (hown.alloc _) ⟨wr.heap.size, 0, none⟩ 1 1 [.int .u8 34] rfl rfl (World.news_of_block (cs := #[.int .u8 34]) (t := 5) (fr := (0, 0)) (heap_alloc_new wr _)) (by simp [Value.oneCell']) (by unfold maxLen; omega) (by omega) (by simp; omega) ?_; intro v' w2 hown1 hgrow _; have hcv := conv_own w2 w.heap.size _ (o ++ [34]) (by rw [V_append, List.length_append]; exact hown1))
        have hb3 : Below w.heap.size w w2 := (hbel.alloc hsz _).grown hgrow (by simp <;> omega) (fun g e => (hown.lt _ e).1)
        go_ret2
        exact ⟨ret_quo (by rw [HR.out, HQ.out]), hb3⟩
end Go.Proofs.YtpifbmcgadjhbaaDoor
