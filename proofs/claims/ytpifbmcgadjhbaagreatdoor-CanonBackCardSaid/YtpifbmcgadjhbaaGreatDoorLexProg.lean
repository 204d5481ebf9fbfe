/-
  What the program's Next and All come to.
-/
import Derived.Test.YtpifbmcgadjhbaaGreatDoorLexToken
import Derived.Deep.AppendLies
namespace Go.Proofs.YtpifbmcgadjhbaaGreatDoor
open Go.RowKit

set_option maxHeartbeats 2000000 in
set_option maxRecDepth 3000 in
theorem lexNext_any (l : List UInt8) (a : Int) (w : World) (hT : TabL w) (hl : l.length ≤ 50000000) :
    Calls Tryz.prog 67 #[.string (S l), .int .i64 a] w fun e w' => e = .returned (.tuple #[Lm.MV (Lm.NEXT l a).1, .int .i64 ((Lm.NEXT l a).2 : Int)]) ∧ Below w.heap.size w w' := by
  show Calls Tryz.prog 67 #[.string (S l), .int .i64 a] w fun e w' => e = Lm.MR (Lm.NEXT l a) ∧ Below w.heap.size w w'
  have z1 := S_size l
  by_cases h1 : a < 0
  · have HR : Hid (Lm.NEXT l a = (⟨0, 0, 0, 0, []⟩, 1)) := by unfold Lm.NEXT Hid; rw [if_neg (by omega)]; rfl
    go_enter Tryz.func67, Tryz.ntmps67
    go_wp2_with fail
    go_returns
    exact ⟨Lm.ret_mr HR.out rfl rfl rfl rfl rfl, (Below.refl _ _).alloc (Nat.le_refl _) _⟩
  by_cases h2 : (l.length : Int) < a
  · have HR : Hid (Lm.NEXT l a = (⟨0, 0, 0, 0, []⟩, 1)) := by unfold Lm.NEXT Hid; rw [if_neg (by omega)]; rfl
    go_enter Tryz.func67, Tryz.ntmps67
    go_wp2_with fail
    go_returns
    exact ⟨Lm.ret_mr HR.out rfl rfl rfl rfl rfl, (Below.refl _ _).alloc (Nat.le_refl _) _⟩
  obtain ⟨k, rfl⟩ : ∃ k : Nat, a = (k : Int) := ⟨a.toNat, by omega⟩
  have hk : k ≤ l.length := by omega
  rw [Lm.NEXT_in hk]
  obtain ⟨p, hp⟩ : ∃ p, Lm.skip l k = p := ⟨_, rfl⟩
  have hpl : p ≤ l.length := by rw [← hp]; exact Lm.run_le _ _ _ hk
  have cB := fun w => lexSkip_any l k w hk (by omega) (E := p) hp
  rw [hp]
  clear hp
  obtain ⟨⟨K, A, E, n, t⟩, y, hx⟩ : ∃ m y, Lm.mark l p = (m, y) := ⟨_, _, rfl⟩
  obtain ⟨kI, hk⟩ : ∃ k : Int, k = (K : Int) := ⟨_, rfl⟩
  obtain ⟨aI, ha⟩ : ∃ k : Int, k = (A : Int) := ⟨_, rfl⟩
  obtain ⟨eI, he⟩ : ∃ k : Int, k = (E : Int) := ⟨_, rfl⟩
  obtain ⟨yI, hy⟩ : ∃ k : Int, k = (y : Int) := ⟨_, rfl⟩
  have cT := fun w hT => mr_form (token_any l p w hT hpl hl) hx hk ha he hy
  have HX := Lib.hid hx
  have HK := Lib.hid hk
  have HA := Lib.hid ha
  have HE := Lib.hid he
  have HY := Lib.hid hy
  clear hx hk ha he hy
  obtain ⟨W1, hW1⟩ : ∃ W1, W1 = w.alloc (.cells #[.int .u8 0, .int .i64 0, .int .i64 0, .int .i64 0, .string ⟨#[]⟩] 85) := ⟨_, rfl⟩
  have HB1 : Hid (Below w.heap.size w W1) := by rw [hW1]; exact (Below.refl _ _).alloc (Nat.le_refl _) _
  have HH1 : NAt w.heap.size W1 := by rw [hW1]; exact MkAt.new ..
  have T1 := hT.below HB1.out
  go_enter Tryz.func67, Tryz.ntmps67
  go_wp2_with fail
  rw [← hW1]
  clear hW1
  refine (cB _).mono ?_; rintro e w1 ⟨rfl, rfl⟩
  go_wp2_with fail
  refine (cT _ T1).mono ?_; rintro e w2 ⟨rfl, b2⟩
  have HH2 := HH1.below b2
  obtain ⟨⟨q0, q1, q2, q3, q4⟩, qf⟩ := HH2.cells
  have HB2 := Lib.hid (HB1.out.trans (b2.mono HB1.out.size))
  clear b2 cT cB T1 hT
  go_wp2_with fail
  refine bodyPost_ret (results_lex (fn := Tryz.f67) (t := 4) (u := 5) rfl _ _ rfl (NAt.set5 HH2 _ _ _ _ _) rfl) rfl ?_
  exact ⟨Lm.ret_mr HX.out HK.out HA.out HE.out HY.out rfl, below_set5 HB2.out (Nat.le_refl _) _ _ _ _ _⟩

/-! All -/
def N5 : Array Value := #[.int .u8 0, .int .i64 0, .int .i64 0, .int .i64 0, .string ⟨#[]⟩]
theorem info_lex : (Tryz.prog.info? 85).map (fun i => (i.zero, i.size, i.bytes)) = some (some (.agg N5), 5, 48) := by kernel_rfl
theorem own_lex_below {w w' : World} {B : Nat} {v : Value} {n : Nat} {xs : List Value} (h : w.ownsRow B 85 5 v n xs) (hb : Below w.heap.size w w') : w'.ownsRow B 85 5 v n xs := by
  refine ⟨h.1, ?_⟩
  rcases h.2 with hn | ⟨g, cap, cur, rfl, hbg, hg, rest⟩
  · exact .inl hn
  · exact .inr ⟨g, cap, cur, rfl, hbg, (hb.block _ (Array.getElem?_eq_some_iff.1 hg).1).trans hg, rest⟩
theorem lex_news (w : World) (a b c d e : Value) : ∀ j u, [a, b, c, d, e][j]? = some u → ((w.alloc (.cells #[a, b, c, d, e] 85)).alloc (.cells #[a, b, c, d, e] 85)).cell? ((⟨w.heap.size + 1, 0, none⟩ : Addr).add j) = some u := by
  refine World.news_of_block (cs := #[a, b, c, d, e]) (t := 85) (fr := (0, 0)) ?_
  have := heap_alloc_new (w.alloc (.cells #[a, b, c, d, e] 85)) (.cells #[a, b, c, d, e] 85)
  rw [show (w.alloc (.cells #[a, b, c, d, e] 85)).heap.size = w.heap.size + 1 by simp] at this
  exact this
theorem lex_grown {w w1 w2 : World} {B : Nat} {row : Option Nat} (h : Below B w w1) (hs : B ≤ w1.heap.size) (o : Obj) (hg : ((w1.alloc o).alloc o).grownBy w2 row) (hr : ∀ k, row = some k → B ≤ k) : Below B w w2 :=
  ((h.alloc hs o).alloc (by simp; omega) o).grown hg (by simp; omega) hr
theorem lex_kept {w1 w2 : World} {row : Option Nat} {a b c d e : Value} (hg : ((w1.alloc (.cells #[a, b, c, d, e] 85)).alloc (.cells #[a, b, c, d, e] 85)).grownBy w2 row) (hr : ∀ k, row = some k → k < w1.heap.size) :
    w2.cell? ⟨w1.heap.size, 0, none⟩ = some a ∧ w2.cell? ⟨w1.heap.size, 2, none⟩ = some c := by
  have h : w2.heap[w1.heap.size]? = some (.cells #[a, b, c, d, e] 85 (0, 0)) := by
    rw [hg.block _ (by simp; omega) (fun e => by have := hr _ e.symm; omega), Below.heap_alloc _ _ _ (by simp), heap_alloc_new]
  exact ⟨(cell_of_row w2 _ 0 _ _ _ h).trans rfl, (cell_of_row w2 _ 2 _ _ _ h).trans rfl⟩
theorem PAt.bad {B : Nat} {w0 w : World} {R : List Lm.Mark × Nat × Nat} {p q : Int} {a b : Nat} (h : R = ([], a, b)) (hp : p = (a : Int)) (hq : q = (b : Int)) (hb : Below B w0 w) :
    PAt B w0 R (.returned (.tuple #[.slice none 0 0, .int .i64 p, .int .i64 q])) w := by
  subst h hp hq
  exact ⟨_, rfl, World.ownsRow_nil w B _ 5, hb⟩
theorem PAt.good {B : Nat} {w0 w : World} {R : List Lm.Mark × Nat × Nat} {ms : List Lm.Mark} {v : Value} {n : Nat} {xs : List Value} (h : R = (ms, 0, 0)) (hn : n = ms.length) (hx : xs = Lm.MC ms) (ho : w.ownsRow B 85 5 v n xs) (hb : Below B w0 w) :
    PAt B w0 R (.returned (.tuple #[v, .int .i64 0, .int .i64 0])) w := by
  subst h hn hx
  exact ⟨_, rfl, ho, hb⟩
set_option maxHeartbeats 4000000 in
set_option maxRecDepth 3000 in
theorem lexAll_any (l : List UInt8) (w : World) (hT : TabL w) (hl : l.length ≤ 50000000) :
    Calls Tryz.prog 68 #[.string (S l)] w fun e w' => PAt w.heap.size w (Lm.ALL l) e w' := by
  have z1 := S_size l
  by_cases hL : 65536 < l.length
  · have HR : Hid (Lm.ALL l = ([], 0, 5)) := by unfold Lm.ALL Hid; rw [if_pos hL]
    have hL' : (65536 : Int) < (l.length : Int) := by omega
    go_enter Tryz.func68, Tryz.ntmps68
    go_wp2_with fail
    go_ret3
    exact .bad HR.out rfl rfl (Below.refl _ _)
  have HR : Hid (Lm.ALL l = Lm.go l (l.length + 1) 0 []) := by unfold Lm.ALL Hid; rw [if_neg hL]
  have hL' : ¬ (65536 : Int) < (l.length : Int) := by omega
  obtain ⟨i0, hi0, hz0, hz1, hz2⟩ := info_parts info_lex
  go_enter Tryz.func68, Tryz.ntmps68
  go_wp2_with fail
  go_loopw [2, 5] (fun v iv wr => ∃ (p f : Nat) (ms : List Lm.Mark), iv = .int .i64 (p : Int) ∧ p ≤ l.length ∧ l.length - p < f ∧ ms.length ≤ p ∧ Hid (Lm.ALL l = Lm.go l f p ms) ∧ wr.ownsRow w.heap.size 85 5 v ms.length (Lm.MC ms) ∧ Below w.heap.size w wr) (fun _ iv _ => l.length + 1 - (intOf iv).toNat)
  case atStart => exact ⟨0, l.length + 1, [], rfl, Nat.zero_le _, by omega, Nat.le_refl _, HR, World.ownsRow_nil w _ _ 5, Below.refl _ _⟩
  case round =>
    clear HR
    obtain ⟨p, f, ms, rfl, hp, hf, hms, HR, hown, hbel⟩ := hrel
    have hsz := hbel.size
    have T0 := hT.below hbel
    obtain ⟨f, rfl⟩ : ∃ g, f = g + 1 := ⟨f - 1, by omega⟩
    have hsl := Lm.skip_le hp
    have hsg := Lm.skip_ge l p
    have hw := Lm.mark_ways l (Lm.skip l p) hsl
    obtain ⟨s, hs⟩ : ∃ s, Lm.skip l p = s := ⟨_, rfl⟩
    have cB := fun w => lexSkip_any l p w hp (by omega) (E := s) hs
    obtain ⟨⟨K, a, b, n, t⟩, y, hm⟩ : ∃ m y, Lm.mark l (Lm.skip l p) = (m, y) := ⟨_, _, rfl⟩
    rw [hm] at hw
    have hm' := hm
    rw [hs] at hm' hsl hsg
    obtain ⟨kI, hkI⟩ : ∃ x : Int, x = (K : Int) := ⟨_, rfl⟩
    obtain ⟨aI, haI⟩ : ∃ x : Int, x = (a : Int) := ⟨_, rfl⟩
    obtain ⟨bI, hbI⟩ : ∃ x : Int, x = (b : Int) := ⟨_, rfl⟩
    obtain ⟨yI, hyI⟩ : ∃ x : Int, x = (y : Int) := ⟨_, rfl⟩
    have cN' := fun w hT => mr_form (token_any l s w hT hsl hl) hm' hkI haI hbI hyI
    have HK := Lib.hid hkI
    have HA := Lib.hid haI
    have HB := Lib.hid hbI
    have HY := Lib.hid hyI
    have HM := Lib.hid hm
    have HS := Lib.hid hs
    clear hkI haI hbI hm hm' hs hyI
    by_cases hy0 : yI = 0
    · have hy00 : y = 0 := by have := HY.out; omega
      subst hy0 hy00
      clear HY
      have hw2 : Hid ((K = 11 ∧ b = l.length) ∨ (1 ≤ K ∧ K ≤ 10 ∧ p < b ∧ b ≤ l.length)) := by
        rcases hw with ⟨h1, _⟩ | ⟨h1, h2⟩ | ⟨_, h1, h2, _, h3, h4⟩
        · exact absurd rfl h1
        · simp only [Prod.mk.injEq, Lm.Mark.mk.injEq] at h1
          exact .inl ⟨h1.1.1, by omega⟩
        · exact .inr ⟨h1, h2, by show p < b; have h3' : Lm.skip l p < b := h3; have := HS.out; omega, h4⟩
      clear hw hsl hsg
      by_cases hk11 : kI = 11
      · have HR2 : Hid (Lm.ALL l = (ms ++ [⟨K, a, b, n, t⟩], 0, 0)) := by
          rw [Hid, HR.out]
          exact Lm.go_end HM.out (by show K = 11; have := HK.out; omega)
        have hkb : (kI == 11) = true := beq_iff_eq.2 hk11
        clear hk11 HR
        go_wp2_with fail
        refine (cB _).mono ?_; rintro e w0 ⟨rfl, rfl⟩
        go_wp2_with fail
        refine (cN' _ T0).mono ?_; rintro e w1 ⟨rfl, b1⟩
        have hown1 := own_lex_below hown b1
        have hb2 := hbel.trans (b1.mono hsz)
        have hsz1 := hb2.size
        clear hown b1 cN' cB T0
        go_wp2_with (at_builtin; refine wpList_append_own _ rfl _ _ 103 rfl w.heap.size 85 i0 (.agg N5) 5 48 Tryz.underlying103 hi0 hz0 hz1 hz2 rfl (by decide) _ _ _ rfl ((hown1.alloc _).alloc _) ⟨w1.heap.size + 1, 0, none⟩ 1 1 [.int .u8 kI, .int .i64 aI, .int .i64 bI, .int .i64 n, .string (S t)] (by first | rfl | simp) rfl (lex_news w1 _ _ _ _ _) (by simp [Value.oneCell']) (by unfold maxLen; omega) (by omega) (by simp; omega) ?_; intro v' w2 hown2 hgrow _; have hb3 := lex_grown hb2 hsz1 _ hgrow (fun g e => (hown1.lt _ e).1); obtain ⟨q0, q2⟩ := lex_kept hgrow (fun g e => (hown1.lt _ e).2))
        clear hgrow hown1
        go_wp2_with fail
        go_ret3
        exact .good HR2.out (by simp) (by rw [Lm.MC_append, Lm.MC_one, HK.out, HA.out, HB.out]) hown2 hb3
      · have HR2 : Hid (Lm.ALL l = Lm.go l f b (ms ++ [⟨K, a, b, n, t⟩])) := by
          rw [Hid, HR.out]
          exact Lm.go_on HM.out (by show K ≠ 11; have := HK.out; omega)
        have hkb : (kI == 11) = false := beq_eq_false_iff_ne.2 hk11
        have HB2 : Hid (p < b ∧ b ≤ l.length) := by
          rcases hw2.out with h | h
          · have := HK.out; omega
          · exact ⟨h.2.2.1, h.2.2.2⟩
        clear hk11 HR
        go_wp2_with fail
        refine (cB _).mono ?_; rintro e w0 ⟨rfl, rfl⟩
        go_wp2_with fail
        refine (cN' _ T0).mono ?_; rintro e w1 ⟨rfl, b1⟩
        have hown1 := own_lex_below hown b1
        have hb2 := hbel.trans (b1.mono hsz)
        have hsz1 := hb2.size
        clear hown b1 cN' cB T0
        go_wp2_with (at_builtin; refine wpList_append_own _ rfl _ _ 103 rfl w.heap.size 85 i0 (.agg N5) 5 48 Tryz.underlying103 hi0 hz0 hz1 hz2 rfl (by decide) _ _ _ rfl ((hown1.alloc _).alloc _) ⟨w1.heap.size + 1, 0, none⟩ 1 1 [.int .u8 kI, .int .i64 aI, .int .i64 bI, .int .i64 n, .string (S t)] (by first | rfl | simp) rfl (lex_news w1 _ _ _ _ _) (by simp [Value.oneCell']) (by unfold maxLen; omega) (by omega) (by simp; omega) ?_; intro v' w2 hown2 hgrow _; have hb3 := lex_grown hb2 hsz1 _ hgrow (fun g e => (hown1.lt _ e).1); obtain ⟨q0, q2⟩ := lex_kept hgrow (fun g e => (hown1.lt _ e).2))
        clear hgrow hown1
        go_wp2_with fail
        go_roundw
        case rel =>
          refine ⟨b, f, _, by rw [HB.out], HB2.out.2, by have := HB2.out; omega, ?_, HR2, ?_, hb3⟩
          · rw [List.length_append, List.length_singleton]; have := HB2.out; omega
          · rw [Lm.MC_append, Lm.MC_one, ← HK.out, ← HA.out, ← HB.out, List.length_append]
            exact hown2
        case measure => have := HB2.out; have := HB.out; simp [intOf]; omega
    · have hyb : (yI != 0) = true := bne_iff_ne.2 hy0
      have HR2 : Hid (Lm.ALL l = ([], s, y)) := by
        rw [Hid, HR.out, ← HS.out]
        exact Lm.go_bad HM.out (by have := HY.out; omega)
      clear hw hsl hsg HR
      go_wp2_with fail
      refine (cB _).mono ?_; rintro e w0 ⟨rfl, rfl⟩
      go_wp2_with fail
      refine (cN' _ T0).mono ?_; rintro e w1 ⟨rfl, b1⟩
      have hb2 := hbel.trans (b1.mono hsz)
      have hsz1 := hb2.size
      clear hown b1 cN' cB T0
      go_wp2_with fail
      go_ret3
      exact .bad HR2.out rfl HY.out (hb2.alloc hsz1 _)
end Go.Proofs.YtpifbmcgadjhbaaGreatDoor
