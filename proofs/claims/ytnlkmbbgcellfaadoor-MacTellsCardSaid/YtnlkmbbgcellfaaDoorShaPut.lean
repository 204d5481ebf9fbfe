/-
  What Write comes to: the walk.
-/
import Derived.Test.YtnlkmbbgcellfaaDoorShaWrite
import Derived.Deep.CutRange
namespace Go.Proofs.YtnlkmbbgcellfaaDoor
open Go.RowKit

theorem S_drop (R : List UInt8) (c : Nat) : (S R).extract c R.length = S (R.drop c) := by
  apply ByteArray.ext
  apply Array.toList_inj.1
  simp only [S, ByteArray.data_extract, Array.toList_extract, List.extract_eq_take_drop]
  exact List.take_of_length_le (by simp)

set_option maxRecDepth 100000 in
set_option maxHeartbeats 1600000 in
theorem write_any (b : Nat) (l : List UInt8) (t : ByteArray) (w : World) (h : Hs w b l) (hG : Glob w) (hb0 : b ≠ 1) (hb1 : b ≠ 2) (hn : l.length + t.size ≤ 1000000000) :
    Calls Tryd.prog 24 #[.pointer (some ⟨b, 0, none⟩), .string t] w fun e w' => e = .returned (.int .i64 0) ∧ Hs w' b (l ++ t.data.toList) ∧ Kp b w w' := by
  obtain ⟨s, rest, h1, h2, h3, h4⟩ := h
  have hc : w.cell? ⟨b, 72, none⟩ = some (.int .i64 (l.length : Int)) := by rw [cell_of_row w b 72 _ _ _ h1, HC_n _ _ _ h2]
  have HN := Lib.hid hn
  have H1 := Lib.hid h1
  clear h1 hn
  by_cases hz : l = []
  · obtain ⟨⟨ti, fi, HI⟩, _⟩ := id hG
    have HI' := Lib.hid HI
    have HT : Hid (Ht (w.setRow b (HC Sm.H0 rest 0)) b l rest) := by
      subst hz
      exact ⟨setRow_heap _ _ _ _ _ _ H1.out, h2, h3⟩
    have H1' : Hid (w.heap[b]? = some (.cells (HC s rest 0) 49 (0, 0))) := by subst hz; exact H1
    have hc1 : w.cell? ⟨b, 72, none⟩ = some (.int .i64 0) := by rw [hc, hz]; rfl
    have KP := Kp.setRow b w (HC Sm.H0 rest 0)
    clear HI h4 hz h3 hc
    go_enter Tryd.func24, Tryd.ntmps24
    go_wp2_with (first | (refine wpList_load_row (by rfl) 46 _ (by rfl) 1 (by rfl) ti _ fi _ HI'.out Tryd.underlying46 (by rfl) (by rw [AR_size, Sm.list_length]; kernel_rfl) ?_) | (refine wpList_store_state (by rfl) _ _ (by rfl) b s Sm.H0 rest 0 (by rfl) (by rfl) h2 H1'.out ?_))
    obtain ⟨W, hW⟩ : ∃ W, W = w.setRow b (HC Sm.H0 rest 0) := ⟨_, rfl⟩
    rw [← hW] at HT KP
    rw [← hW]
    clear hW hc1 H1' HI'
    simp only [Act.put]
    go_loopw [1, 5, 6] (fun sv _ _ wr => ∃ cur R rest : List UInt8, Hid (cur ++ R = l ++ t.data.toList) ∧ sv = .string (S R) ∧ Hid (Ht wr b cur rest) ∧ Kp b w wr) (fun sv _ _ _ => lenOf sv)
    case atStart => exact ⟨l, t.data.toList, rest, rfl, by rw [S_of], HT, KP⟩
    case round =>
      clear HT KP h2 H1
      obtain ⟨cur, R, rest, HE, rfl, HT, HK⟩ := hrel
      have rz := S_size R
      have hlen : cur.length + R.length ≤ 1000000000 := by
        have h1 := congrArg List.length HE.out
        have h2 : t.data.toList.length = t.size := by simp
        rw [List.length_append, List.length_append, h2] at h1
        have := HN.out
        omega
      by_cases hR : 0 < R.length
      · obtain ⟨r, hr⟩ : ∃ r, r = cur.length % 64 := ⟨_, rfl⟩
        have e1 : (cur.length : Int).tmod 64 = (r : Int) := by rw [Int.tmod_eq_emod_of_nonneg (by omega)]; omega
        obtain ⟨j, hj⟩ : ∃ j, r + j = 64 := ⟨64 - r, by omega⟩
        obtain ⟨c, hc⟩ : ∃ c, c = min R.length j := ⟨_, rfl⟩
        obtain ⟨q, hq⟩ : ∃ q, q = r + c := ⟨_, rfl⟩
        have e3 : (r : Int) + (c : Int) = (q : Int) := by omega
        obtain ⟨m, hm⟩ : ∃ m, m = cur.length + c := ⟨_, rfl⟩
        have e4 : (cur.length : Int) + (c : Int) = (m : Int) := by omega
        have HM := Lib.hid hm
        have hcut := cut64 wr b 8 r j hj (by omega)
        have c72 : wr.cell? ⟨b, 72, none⟩ = some (.int .i64 (cur.length : Int)) := by rw [cell_of_row wr b 72 _ _ _ HT.out.1, HC_n _ _ _ HT.out.2.1]
        have HR := Lib.hid hr
        have HC' := Lib.hid hc
        have HQ := Lib.hid hq
        have hx := S_drop R c
        have g1 : c ≤ R.length := by omega
        have g2 : q ≤ 64 := by omega
        have g3 : m ≤ 1000000000 := by omega
        have g4 : 1 ≤ j := by omega
        have HP := put_length rest r (R.take c) HT.out.2.1 (by simp; omega)
        clear hr hc hq hm
        by_cases hfull : q = 64
        · have hq' : ((q : Int) == 64) = true := by rw [beq_iff_eq]; omega
          go_wp2_with (refine wpList_copy_hash (by rfl) _ _ (by rfl) b r j c R (by rfl) (by rfl) _ rest _ HT.out.2.1 HT.out.1 hj HC'.out ?_; intro w1 HH KK; have d72 : w1.cell? ⟨b, 72, none⟩ = some (.int .i64 (cur.length : Int)) := (cell_of_row w1 b 72 _ _ _ HH.out).trans (HC_n _ _ _ HP); have f72 : w1.frozen? ⟨b, 72, none⟩ = false := frozen_of_row _ _ _ _ _ HH.out)
          have hh := HH.out
          have hlt := (Array.getElem?_eq_some_iff.1 hh).1
          have GA := ((hG.kp HK hb0 hb1).kp KK hb0 hb1).2
          have hAne : b ≠ 2 := hb1
          have HW := Sm.words_length (put rest r (R.take c))
          obtain ⟨P1, hP1⟩ : ∃ x, x = put rest r (R.take c) := ⟨_, rfl⟩
          obtain ⟨S1, hS1⟩ : ∃ x, x = Sm.state cur := ⟨_, rfl⟩
          obtain ⟨n1, hn1⟩ : ∃ x, x = cur.length := ⟨_, rfl⟩
          rw [← hP1] at hh HP HW
          rw [← hS1, ← hn1] at hh
          have HP1 := Lib.hid hP1
          have HS1 := Lib.hid hS1
          have HN1 := Lib.hid hn1
          have e5 : (n1 : Int) + (c : Int) = (m : Int) := by rw [hn1]; exact e4
          clear hP1 hS1 hn1
          have HL := Lib.hid hh
          clear hh
          go_cut [] from 37 to 49 (fun wx => Hid (wx.heap[b]? = some (.cells (HC (Sm.mix S1 (Sm.words P1)) P1 n1) 49 (0, 0))) ∧ Kp b w1 wx)
          case first =>
            refine (hash_region (by kernel_rfl) (by kernel_rfl) (by rfl) (by simp) HP HL.out GA hlt hAne (fun f w2 hH hK => ?_))
            have HH2 := Lib.hid hH
            clear hH
            rw [putR_lit]
            go_wp2_with fail
            go_meet
            case rel => exact ⟨HH2, hK⟩
          case rest =>
            obtain ⟨HX, KX⟩ := hcut
            have d73 : wc.cell? ⟨b, 72, none⟩ = some (.int .i64 (n1 : Int)) := (cell_of_row wc b 72 _ _ _ HX.out).trans (HC_n _ _ _ HP)
            have f73 : wc.frozen? ⟨b, 72, none⟩ = false := frozen_of_row _ _ _ _ _ HX.out
            have HT' : Hid (Ht (wc.setCell ⟨b, 72, none⟩ (.int .i64 (m : Int))) b (cur ++ R.take c) P1) := by
              rw [HM.out, HP1.out]
              exact ht_full HT.out HR.out g1 (by have := HQ.out; omega) (by rw [← HS1.out, ← HP1.out, ← HN1.out]; exact HX.out)
            go_wp2_with fail
            go_roundw
            case rel =>
              refine ⟨cur ++ R.take c, R.drop c, P1, ?_, rfl, HT', ((HK.trans KK).trans KX).trans (Kp.setCell _ _ _ _)⟩
              rw [List.append_assoc, List.take_append_drop]; exact HE
            case measure =>
              have := HC'.out
              simp only [lenOf, S_size, List.length_drop]; omega
        · have hq' : ((q : Int) == 64) = false := by rw [beq_eq_false_iff_ne]; omega
          go_wp2_with (refine wpList_copy_hash (by rfl) _ _ (by rfl) b r j c R (by rfl) (by rfl) _ rest _ HT.out.2.1 HT.out.1 hj HC'.out ?_; intro w1 HH KK; have d72 : w1.cell? ⟨b, 72, none⟩ = some (.int .i64 (cur.length : Int)) := (cell_of_row w1 b 72 _ _ _ HH.out).trans (HC_n _ _ _ HP); have f72 : w1.frozen? ⟨b, 72, none⟩ = false := frozen_of_row _ _ _ _ _ HH.out)
          have HT' : Hid (Ht (w1.setCell ⟨b, 72, none⟩ (.int .i64 (m : Int))) b (cur ++ R.take c) (put rest r (R.take c))) := by rw [HM.out]; exact ht_part HT.out HR.out g1 (by have := HQ.out; omega) HH.out
          go_roundw
          case rel =>
            refine ⟨cur ++ R.take c, R.drop c, put rest r (R.take c), ?_, rfl, HT', (HK.trans KK).trans (Kp.setCell _ _ _ _)⟩
            rw [List.append_assoc, List.take_append_drop]; exact HE
          case measure =>
            have := HC'.out
            simp only [lenOf, S_size, List.length_drop]; omega
      · obtain rfl : R = [] := List.length_eq_zero_iff.1 (by omega)
        have HE' : Hid (cur = l ++ t.data.toList) := by have := HE.out; rwa [List.append_nil] at this
        go_wp2
        go_ret
        exact ⟨rfl, by rw [← HE'.out]; exact HT.out.hs, HK⟩
  · have hz' : ((l.length : Int) == 0) = false := by
      rw [beq_eq_false_iff_ne]
      intro e
      exact hz (List.length_eq_zero_iff.1 (by omega))
    have HT : Hid (Ht w b l rest) := by rw [h4 hz] at H1; exact ⟨H1.out, h2, h3⟩
    have KP := Kp.refl b w
    clear h4 hz h3
    go_enter Tryd.func24, Tryd.ntmps24
    go_wp2
    go_loopw [1, 5, 6] (fun sv _ _ wr => ∃ cur R rest : List UInt8, Hid (cur ++ R = l ++ t.data.toList) ∧ sv = .string (S R) ∧ Hid (Ht wr b cur rest) ∧ Kp b w wr) (fun sv _ _ _ => lenOf sv)
    case atStart => exact ⟨l, t.data.toList, rest, rfl, by rw [S_of], HT, KP⟩
    case round =>
      clear HT KP h2 H1
      obtain ⟨cur, R, rest, HE, rfl, HT, HK⟩ := hrel
      have rz := S_size R
      have hlen : cur.length + R.length ≤ 1000000000 := by
        have h1 := congrArg List.length HE.out
        have h2 : t.data.toList.length = t.size := by simp
        rw [List.length_append, List.length_append, h2] at h1
        have := HN.out
        omega
      by_cases hR : 0 < R.length
      · obtain ⟨r, hr⟩ : ∃ r, r = cur.length % 64 := ⟨_, rfl⟩
        have e1 : (cur.length : Int).tmod 64 = (r : Int) := by rw [Int.tmod_eq_emod_of_nonneg (by omega)]; omega
        obtain ⟨j, hj⟩ : ∃ j, r + j = 64 := ⟨64 - r, by omega⟩
        obtain ⟨c, hc⟩ : ∃ c, c = min R.length j := ⟨_, rfl⟩
        obtain ⟨q, hq⟩ : ∃ q, q = r + c := ⟨_, rfl⟩
        have e3 : (r : Int) + (c : Int) = (q : Int) := by omega
        obtain ⟨m, hm⟩ : ∃ m, m = cur.length + c := ⟨_, rfl⟩
        have e4 : (cur.length : Int) + (c : Int) = (m : Int) := by omega
        have HM := Lib.hid hm
        have hcut := cut64 wr b 8 r j hj (by omega)
        have c72 : wr.cell? ⟨b, 72, none⟩ = some (.int .i64 (cur.length : Int)) := by rw [cell_of_row wr b 72 _ _ _ HT.out.1, HC_n _ _ _ HT.out.2.1]
        have HR := Lib.hid hr
        have HC' := Lib.hid hc
        have HQ := Lib.hid hq
        have hx := S_drop R c
        have g1 : c ≤ R.length := by omega
        have g2 : q ≤ 64 := by omega
        have g3 : m ≤ 1000000000 := by omega
        have g4 : 1 ≤ j := by omega
        have HP := put_length rest r (R.take c) HT.out.2.1 (by simp; omega)
        clear hr hc hq hm
        by_cases hfull : q = 64
        · have hq' : ((q : Int) == 64) = true := by rw [beq_iff_eq]; omega
          go_wp2_with (refine wpList_copy_hash (by rfl) _ _ (by rfl) b r j c R (by rfl) (by rfl) _ rest _ HT.out.2.1 HT.out.1 hj HC'.out ?_; intro w1 HH KK; have d72 : w1.cell? ⟨b, 72, none⟩ = some (.int .i64 (cur.length : Int)) := (cell_of_row w1 b 72 _ _ _ HH.out).trans (HC_n _ _ _ HP); have f72 : w1.frozen? ⟨b, 72, none⟩ = false := frozen_of_row _ _ _ _ _ HH.out)
          have hh := HH.out
          have hlt := (Array.getElem?_eq_some_iff.1 hh).1
          have GA := ((hG.kp HK hb0 hb1).kp KK hb0 hb1).2
          have hAne : b ≠ 2 := hb1
          have HW := Sm.words_length (put rest r (R.take c))
          obtain ⟨P1, hP1⟩ : ∃ x, x = put rest r (R.take c) := ⟨_, rfl⟩
          obtain ⟨S1, hS1⟩ : ∃ x, x = Sm.state cur := ⟨_, rfl⟩
          obtain ⟨n1, hn1⟩ : ∃ x, x = cur.length := ⟨_, rfl⟩
          rw [← hP1] at hh HP HW
          rw [← hS1, ← hn1] at hh
          have HP1 := Lib.hid hP1
          have HS1 := Lib.hid hS1
          have HN1 := Lib.hid hn1
          have e5 : (n1 : Int) + (c : Int) = (m : Int) := by rw [hn1]; exact e4
          clear hP1 hS1 hn1
          have HL := Lib.hid hh
          clear hh
          go_cut [] from 37 to 49 (fun wx => Hid (wx.heap[b]? = some (.cells (HC (Sm.mix S1 (Sm.words P1)) P1 n1) 49 (0, 0))) ∧ Kp b w1 wx)
          case first =>
            refine (hash_region (by kernel_rfl) (by kernel_rfl) (by rfl) (by simp) HP HL.out GA hlt hAne (fun f w2 hH hK => ?_))
            have HH2 := Lib.hid hH
            clear hH
            rw [putR_lit]
            go_wp2_with fail
            go_meet
            case rel => exact ⟨HH2, hK⟩
          case rest =>
            obtain ⟨HX, KX⟩ := hcut
            have d73 : wc.cell? ⟨b, 72, none⟩ = some (.int .i64 (n1 : Int)) := (cell_of_row wc b 72 _ _ _ HX.out).trans (HC_n _ _ _ HP)
            have f73 : wc.frozen? ⟨b, 72, none⟩ = false := frozen_of_row _ _ _ _ _ HX.out
            have HT' : Hid (Ht (wc.setCell ⟨b, 72, none⟩ (.int .i64 (m : Int))) b (cur ++ R.take c) P1) := by
              rw [HM.out, HP1.out]
              exact ht_full HT.out HR.out g1 (by have := HQ.out; omega) (by rw [← HS1.out, ← HP1.out, ← HN1.out]; exact HX.out)
            go_wp2_with fail
            go_roundw
            case rel =>
              refine ⟨cur ++ R.take c, R.drop c, P1, ?_, rfl, HT', ((HK.trans KK).trans KX).trans (Kp.setCell _ _ _ _)⟩
              rw [List.append_assoc, List.take_append_drop]; exact HE
            case measure =>
              have := HC'.out
              simp only [lenOf, S_size, List.length_drop]; omega
        · have hq' : ((q : Int) == 64) = false := by rw [beq_eq_false_iff_ne]; omega
          go_wp2_with (refine wpList_copy_hash (by rfl) _ _ (by rfl) b r j c R (by rfl) (by rfl) _ rest _ HT.out.2.1 HT.out.1 hj HC'.out ?_; intro w1 HH KK; have d72 : w1.cell? ⟨b, 72, none⟩ = some (.int .i64 (cur.length : Int)) := (cell_of_row w1 b 72 _ _ _ HH.out).trans (HC_n _ _ _ HP); have f72 : w1.frozen? ⟨b, 72, none⟩ = false := frozen_of_row _ _ _ _ _ HH.out)
          have HT' : Hid (Ht (w1.setCell ⟨b, 72, none⟩ (.int .i64 (m : Int))) b (cur ++ R.take c) (put rest r (R.take c))) := by rw [HM.out]; exact ht_part HT.out HR.out g1 (by have := HQ.out; omega) HH.out
          go_roundw
          case rel =>
            refine ⟨cur ++ R.take c, R.drop c, put rest r (R.take c), ?_, rfl, HT', (HK.trans KK).trans (Kp.setCell _ _ _ _)⟩
            rw [List.append_assoc, List.take_append_drop]; exact HE
          case measure =>
            have := HC'.out
            simp only [lenOf, S_size, List.length_drop]; omega
      · obtain rfl : R = [] := List.length_eq_zero_iff.1 (by omega)
        have HE' : Hid (cur = l ++ t.data.toList) := by have := HE.out; rwa [List.append_nil] at this
        go_wp2
        go_ret
        exact ⟨rfl, by rw [← HE'.out]; exact HT.out.hs, HK⟩
end Go.Proofs.YtnlkmbbgcellfaaDoor
