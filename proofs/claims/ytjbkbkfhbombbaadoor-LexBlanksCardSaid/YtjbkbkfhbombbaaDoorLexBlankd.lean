/-
  What the law's blanked comes to.
-/
import Derived.Test.YtjbkbkfhbombbaaDoorLexProg
import Derived.Test.YtjbkbkfhbombbaaDoorLexMoved
import Derived.BigQuiet
import Derived.Deep.QuietTactic
namespace Go.Proofs.YtjbkbkfhbombbaaDoor
open Go.RowKit

theorem S_cat' {a b c : List UInt8} (h : a ++ b = c) : S a ++ S b = S c := by
  subst h
  apply ByteArray.ext
  apply Array.toList_inj.1
  simp [S]
theorem ret_two {a b : ByteArray} {v : Value} (h : a = b) : Ending.returned (.tuple #[.string a, v]) = .returned (.tuple #[.string b, v]) := by rw [h]
theorem one_news (w : World) {N : Nat} (hN : w.heap.size = N) (a b c d e : Value) : ∀ j u, [a, b, c, d, e][j]? = some u → (w.alloc (.cells #[a, b, c, d, e] 28)).cell? ((⟨N, 0, none⟩ : Addr).add j) = some u := by
  subst hN
  exact World.news_of_block (cs := #[a, b, c, d, e]) (t := 28) (fr := (0, 0)) (heap_alloc_new w _)
theorem Lm.mv_row {l z : List UInt8} {ms : List Lm.Mark} {i : Nat} {m : Lm.Mark} (hL : Lm.Lies l ms) (hm : ms[i]? = some m) :
    Lm.joined l z (ms.take (i + 1)) = Lm.joined l z (ms.take i) ++ z ++ Lm.bytes l m ∧ Lm.MC (Lm.moved z.length 0 (ms.take (i + 1))) = Lm.MC (Lm.moved z.length 0 (ms.take i)) ++ [.int .u8 (m.k : Int), .int .i64 ((Lm.joined l z (ms.take i) ++ z).length : Int), .int .i64 ((Lm.joined l z (ms.take i) ++ z ++ Lm.bytes l m).length : Int), .int .i64 m.n, .string (S m.t)] := by
  have hb := hL i m hm
  rw [Lm.take_snoc hm, Lm.joined_snoc, Lm.moved_snoc l z m _ 0 (hL.take i), Lm.MC_append, Lm.MC_one]
  refine ⟨by rw [List.append_assoc], ?_⟩
  congr 1
  rw [List.length_append, List.length_append, List.length_append, Lm.bytes_len hb.1 hb.2, Nat.zero_add]
set_option maxHeartbeats 4000000 in
set_option maxRecDepth 3000 in
theorem blanked_any (l z : List UInt8) (ms : List Lm.Mark) (N g cap : Nat) (w : World) (_hl : l.length ≤ 1500) (_hz : z.length ≤ 3) (hN : ms.length = N) (hNb : N ≤ 1501) (hL : Lm.Lies l ms) (hj : (Lm.joined l z ms).length ≤ 6100) (hR : RowAt w g ms) :
    Calls Tryd.prog 12 #[.string (S l), .slice (some ⟨g, 0, none⟩) N cap, .string (S z)] w fun e w' =>
      ∃ v, e = .returned (.tuple #[.string (S (Lm.joined l z ms)), v]) ∧ w'.ownsRow w.heap.size 28 5 v N (Lm.MC (Lm.moved z.length 0 ms)) ∧ Below w.heap.size w w' := by
  have z1 := S_size l
  obtain ⟨i0, hi0, hz0, hz1, hz2⟩ := info_parts info_lex
  have HN := Lib.hid hN
  have HJ := Lib.hid hj
  have HL := Lib.hid hL
  have hNb' : (N : Int) ≤ 1501 := by omega
  clear hN hj hL
  go_enter Tryd.func12, Tryd.ntmps12
  go_wp2_with fail
  go_loopw [8, 9, 10] (fun ov v iv wr => ∃ i : Nat, iv = .int .i64 (i : Int) ∧ i ≤ N ∧ ov = .string (S (Lm.joined l z (ms.take i))) ∧ wr.ownsRow w.heap.size 28 5 v i (Lm.MC (Lm.moved z.length 0 (ms.take i))) ∧ Below w.heap.size w wr) (fun _ _ iv _ => N - (intOf iv).toNat)
  case atStart => exact ⟨0, rfl, Nat.zero_le _, rfl, World.ownsRow_nil w _ _ 5, Below.refl _ _⟩
  case round =>
    obtain ⟨i, rfl, hi, rfl, hown, hbel⟩ := hrel
    have hsz := hbel.size
    by_cases hlt : (i : Int) < (N : Int)
    · obtain ⟨m, hm⟩ : ∃ m, ms[i]? = some m := ⟨ms[i]'(by have := HN.out; omega), List.getElem?_eq_getElem _⟩
      obtain ⟨kI, hkI⟩ : ∃ x : Int, x = (m.k : Int) := ⟨_, rfl⟩
      obtain ⟨aI, haI⟩ : ∃ x : Int, x = (m.a : Int) := ⟨_, rfl⟩
      obtain ⟨bI, hbI⟩ : ∃ x : Int, x = (m.b : Int) := ⟨_, rfl⟩
      have hb := HL.out i m hm
      obtain ⟨hj1, hj2⟩ := Lm.mv_row (z := z) HL.out hm
      have hj3 := Lm.joined_take_le l z ms (i + 1)
      rw [hj1] at hj3
      obtain ⟨O, hO⟩ : ∃ O, Lm.joined l z (ms.take i) = O := ⟨_, rfl⟩
      rw [hO] at hj1 hj2 hj3
      rw [hO]
      obtain ⟨O1, hO1⟩ : ∃ O1, O ++ z = O1 := ⟨_, rfl⟩
      rw [hO1] at hj1 hj2 hj3
      obtain ⟨O2, hO2⟩ : ∃ O2, O1 ++ Lm.bytes l m = O2 := ⟨_, rfl⟩
      rw [hO2] at hj1 hj2 hj3
      have hs1 : (S O1).size = O1.length := S_size O1
      have hs2 : (S O2).size = O2.length := S_size O2
      have hs0 : (S O).size = O.length := S_size O
      have hsz' : (S z).size = z.length := S_size z
      have hl2 : O2.length ≤ 6100 := by have := HJ.out; omega
      have hl1 : O1.length ≤ O2.length := by rw [← hO2, List.length_append]; omega
      have hl0 : O.length + z.length = O1.length := by rw [← hO1, List.length_append]
      have hlb : O1.length + (Lm.bytes l m).length = O2.length := by rw [← hO2, List.length_append]
      have hsb : (S (Lm.bytes l m)).size = (Lm.bytes l m).length := S_size _
      have c1 := S_cat' hO1
      have c2 := S_cat' hO2
      have hsl : (S l).extract aI.toNat bI.toNat = S (Lm.bytes l m) := by
        have h := Tx_mid l m.a (m.b - m.a)
        rw [show m.a + (m.b - m.a) = bI.toNat by omega, show m.a = aI.toNat by omega] at h
        rw [h]
        unfold Lm.bytes
        rw [show m.a = aI.toNat by omega]
      have H5 := Lib.hid fun (w' : World) (h : Below w.heap.size w w') => (hR.below h).five hm hkI haI hbI
      obtain ⟨q0, q1, q2, q3, q4⟩ := H5.out _ hbel
      generalize m.t = t at *
      generalize m.n = n at *
      have e1 : 0 ≤ aI := by omega
      have e2 : aI ≤ bI := by omega
      have e3 : bI ≤ (l.length : Int) := by omega
      have e4 : aI ≤ (l.length : Int) := by omega
      have HJ1 := Lib.hid hj1
      have HJ2 := Lib.hid hj2
      have HK := Lib.hid hkI
      generalize Lm.bytes l m = X at *
      have M6 := MkAt.new wr (.int .u8 kI) (.int .i64 aI) (.int .i64 bI) (.int .i64 n) (.string (S t))
      obtain ⟨⟨p0, p1, p2, p3, p4⟩, pf⟩ := M6.cells
      clear hkI haI hbI hm hj1 hj2 hj3 hO hO1 hO2 hb
      go_wp2_with fail
      clear p0 p1 p2 p3 p4 pf M6 q0 q1 q2 q3 q4
      have M7 := MkAt.new wr (.int .u8 kI) (.int .i64 (O1.length : Int)) (.int .i64 bI) (.int .i64 n) (.string (S t))
      have a7 : Below wr.heap.size wr (wr.alloc (.cells #[.int .u8 kI, .int .i64 (O1.length : Int), .int .i64 bI, .int .i64 n, .string (S t)] 28)) := (Below.refl _ _).alloc (Nat.le_refl _) _
      generalize wr.alloc (.cells #[.int .u8 kI, .int .i64 (O1.length : Int), .int .i64 bI, .int .i64 n, .string (S t)] 28) = U at M7 a7 ⊢
      obtain ⟨⟨p0, p1, p2, p3, p4⟩, pf⟩ := M7.cells
      obtain ⟨q0, q1, q2, q3, q4⟩ := H5.out U (hbel.trans (a7.mono hsz))
      go_quiet (fail)
      have M9 : MkAt wr.heap.size (U.drewN nq) (.int .u8 kI) (.int .i64 (O1.length : Int)) (.int .i64 bI) (.int .i64 n) (.string (S t)) := M7
      have a9 : Below wr.heap.size wr (U.drewN nq) := a7.trans ⟨rfl, rfl, rfl, Nat.le_refl _, fun _ _ => rfl⟩
      clear p0 p1 p2 p3 p4 pf q0 q1 q2 q3 q4 M7 a7
      generalize U.drewN nq = V at M9 a9 ⊢
      obtain ⟨⟨p0, p1, p2, p3, p4⟩, pf⟩ := M9.cells
      have bV := a9.setCell (p := ⟨wr.heap.size, 2, none⟩) (Nat.le_refl _) (.int .i64 (O2.length : Int))
      have ownV := own_lex_below hown bV
      have belV := hbel.trans (bV.mono hsz)
      have szV : w.heap.size ≤ V.heap.size := by have := belV.size; simpa using this
      go_wp2_with (at_builtin; refine wpList_append_own _ rfl _ _ 23 rfl w.heap.size 28 i0 (.agg N5) 5 48 Tryd.underlying23 hi0 hz0 hz1 hz2 rfl (by decide) _ _ _ rfl (ownV.alloc _) ⟨V.heap.size, 0, none⟩ 1 1 [.int .u8 kI, .int .i64 (O1.length : Int), .int .i64 (O2.length : Int), .int .i64 n, .string (S t)] (by first | rfl | simp) rfl (one_news _ (by simp) _ _ _ _ _) (by simp [Value.oneCell']) (by unfold maxLen; omega) (by omega) (by simp; omega) ?_; intro v' w2 hown2 hgrow _; have hb3 := (belV.alloc (by simp; omega) _).grown hgrow (by simp; omega) (fun k e => (ownV.lt _ e).1))
      clear hgrow ownV belV bV
      go_roundw
      case rel =>
        refine ⟨i + 1, by go_num, by omega, by rw [HJ1.out], ?_, hb3⟩
        rw [HJ2.out, ← HK.out]
        exact hown2
      case measure => simp [intOf]; omega
    · obtain rfl : i = N := by omega
      have hall : ms.take i = ms := by rw [← HN.out]; exact List.take_length
      have HA := Lib.hid hall
      clear hall
      go_wp2_with fail
      go_ret2
      rw [HA.out] at hown
      exact ⟨_, ret_two (by rw [HA.out]), hown, hbel⟩
end Go.Proofs.YtjbkbkfhbombbaaDoor
