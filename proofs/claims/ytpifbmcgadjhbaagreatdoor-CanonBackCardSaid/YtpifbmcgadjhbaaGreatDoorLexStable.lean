/-
  What is read at the front of bytes is not changed by bytes behind it, if it is not short (no program).
-/
import Derived.Test.YtpifbmcgadjhbaaGreatDoorQuoteRead
namespace Go.Proofs.YtpifbmcgadjhbaaGreatDoor
open Go.RowKit
namespace Um
theorem nxN_more {n n' a b c d b' c' d' : Nat} (h : (nxN n a b c d).2.2 ≠ 4) (hn : n ≤ n') (hb : 2 ≤ n → b' = b) (hc : 3 ≤ n → c' = c) (hd : 4 ≤ n → d' = d) : nxN n' a b' c' d' = nxN n a b c d := by
  unfold nxN at h ⊢
  by_cases h0 : n = 0
  · rw [if_pos h0] at h
    exact absurd rfl h
  simp only [if_neg h0, if_neg (show ¬ n' = 0 by omega)] at h ⊢
  by_cases h1 : a < 128
  · simp only [if_pos h1]
  simp only [if_neg h1] at h ⊢
  by_cases h2 : a < 194 ∨ 244 < a
  · simp only [if_pos h2]
  simp only [if_neg h2] at h ⊢
  by_cases h3 : n = 1
  · rw [if_pos h3] at h
    exact absurd rfl h
  obtain rfl := hb (by omega)
  simp only [if_neg h3, if_neg (show ¬ n' = 1 by omega)] at h ⊢
  by_cases h4 : b' < lo a ∨ hi a < b'
  · simp only [if_pos h4]
  simp only [if_neg h4] at h ⊢
  by_cases h5 : a < 224
  · simp only [if_pos h5]
  simp only [if_neg h5] at h ⊢
  by_cases h6 : n = 2
  · rw [if_pos h6] at h
    exact absurd rfl h
  obtain rfl := hc (by omega)
  simp only [if_neg h6, if_neg (show ¬ n' = 2 by omega)] at h ⊢
  by_cases h7 : c' < 128 ∨ 191 < c'
  · simp only [if_pos h7]
  simp only [if_neg h7] at h ⊢
  by_cases h8 : a < 240
  · simp only [if_pos h8]
  simp only [if_neg h8] at h ⊢
  by_cases h9 : n = 3
  · rw [if_pos h9] at h
    exact absurd rfl h
  obtain rfl := hd (by omega)
  simp only [if_neg h9, if_neg (show ¬ n' = 3 by omega)] at h ⊢
theorem bt_pre {l : List UInt8} {k : Nat} (v : List UInt8) (h : k < l.length) : bt (l ++ v) k = bt l k := by
  unfold bt
  rw [List.getD_eq_getElem?_getD, List.getD_eq_getElem?_getD, List.getElem?_append_left h]
theorem nx_more {l : List UInt8} (v : List UInt8) (h : (nx l).2.2 ≠ 4) : nx (l ++ v) = nx l := by
  by_cases h0 : l = []
  · subst h0
    exact absurd rfl h
  have h1 : 0 < l.length := List.length_pos_iff.2 h0
  unfold nx at h ⊢
  rw [bt_pre v h1]
  exact nxN_more h (by rw [List.length_append]; omega) (fun hh => bt_pre v (by omega)) (fun hh => bt_pre v (by omega)) (fun hh => bt_pre v (by omega))
end Um
namespace Qm
theorem hexs_more : ∀ (k : Nat) (l v : List UInt8) (a : Nat), (hexs k l a).2 ≠ 4 → hexs k (l ++ v) a = hexs k l a
  | 0, l, v, a, _ => by simp [hexs]
  | k + 1, [], v, a, h => absurd rfl h
  | k + 1, c :: t, v, a, h => by
    rw [List.cons_append]
    rw [hexs] at h ⊢
    rw [hexs]
    by_cases hd : dB c = true
    · rw [if_pos hd] at h ⊢
      rw [if_pos hd]
      exact hexs_more k t v _ h
    · rw [if_neg hd, if_neg hd]
theorem f4_more {l : List UInt8} (v : List UInt8) (h : (f4 l).2 ≠ 4) : f4 (l ++ v) = f4 l := hexs_more 4 l v 0 h
theorem snd2_more {n : Nat} {l : List UInt8} (v : List UInt8) (h : (snd2 n l).2.2 ≠ 4) : snd2 n (l ++ v) = snd2 n l := by
  have hf : (f4 l).2 ≠ 4 := by
    intro e
    unfold snd2 at h
    rw [if_neg (by omega)] at h
    exact h e
  unfold snd2
  rw [f4_more v hf]
theorem snd1_more {n : Nat} {l : List UInt8} (v : List UInt8) (h : (snd1 n l).2.2 ≠ 4) : snd1 n (l ++ v) = snd1 n l := by
  match l, h with
  | [], h => exact absurd rfl h
  | c :: t, h =>
    rw [List.cons_append]
    rw [snd1] at h ⊢
    rw [snd1]
    by_cases hc : c = 117
    · rw [if_pos hc] at h ⊢
      rw [if_pos hc]
      exact snd2_more v h
    · rw [if_neg hc, if_neg hc]
theorem snd0_more {n : Nat} {l : List UInt8} (v : List UInt8) (h : (snd0 n l).2.2 ≠ 4) : snd0 n (l ++ v) = snd0 n l := by
  match l, h with
  | [], h => exact absurd rfl h
  | c :: t, h =>
    rw [List.cons_append]
    rw [snd0] at h ⊢
    rw [snd0]
    by_cases hc : c = 92
    · rw [if_pos hc] at h ⊢
      rw [if_pos hc]
      exact snd1_more v h
    · rw [if_neg hc, if_neg hc]
theorem num_more {l : List UInt8} (v : List UInt8) (h : (num l).2.2 ≠ 4) : num (l ++ v) = num l := by
  have hf : (f4 l).2 ≠ 4 := by
    intro e
    unfold num at h
    rw [if_neg (by omega)] at h
    exact h e
  unfold num at h ⊢
  rw [f4_more v hf]
  by_cases h0 : (f4 l).2 = 0
  · rw [if_pos h0] at h ⊢
    rw [if_pos h0]
    have h4 : 4 ≤ l.length := by
      rcases f4_cases l with ⟨n, h1, h2, _⟩ | h1 | h1
      · exact h2
      · rw [h1] at h0; exact absurd h0 (by decide)
      · rw [h1] at h0; exact absurd h0 (by decide)
    by_cases h1 : isS (f4 l).1 = true
    · rw [if_pos h1, if_pos h1]
    rw [if_neg h1] at h ⊢
    rw [if_neg h1]
    by_cases h2 : isF (f4 l).1 = true
    · rw [if_pos h2] at h ⊢
      rw [if_pos h2, List.drop_append_of_le_length h4]
      exact snd0_more v h
    · rw [if_neg h2, if_neg h2]
  · rw [if_neg h0, if_neg h0]
theorem shift_no4 {k : Nat} {x : Nat × Nat × Nat} (h : (shift k x).2.2 ≠ 4) : x.2.2 ≠ 4 := by
  intro e
  unfold shift at h
  rw [if_neg (by omega)] at h
  exact h e
theorem escd_more {l : List UInt8} (v : List UInt8) (h : (escd l).2.2 ≠ 4) : escd (l ++ v) = escd l := by
  match l, h with
  | [], h => exact absurd rfl h
  | c :: t, h =>
    rw [List.cons_append]
    rw [escd] at h ⊢
    rw [escd]
    by_cases hc : c = 117
    · rw [if_pos hc] at h ⊢
      rw [if_pos hc, num_more v (shift_no4 h)]
    · rw [if_neg hc, if_neg hc]
theorem one_more {l : List UInt8} (v : List UInt8) (h : (one l).2.2 ≠ 4) : one (l ++ v) = one l := by
  match l, h with
  | [], h => exact absurd rfl h
  | c :: t, h =>
    rw [List.cons_append]
    rw [one] at h ⊢
    rw [one]
    by_cases h1 : c < 32
    · rw [if_pos h1, if_pos h1]
    rw [if_neg h1] at h ⊢
    rw [if_neg h1]
    by_cases hc : c = 92
    · rw [if_pos hc] at h ⊢
      rw [if_pos hc, escd_more v (shift_no4 h)]
    · rw [if_neg hc] at h ⊢
      rw [if_neg hc]
      exact Um.nx_more v h
theorem cons_4 {u : List UInt8} {z : Nat} {x : List UInt8 × Nat × Nat} (h : (cons u z x).2.2 ≠ 4) : x.2.2 ≠ 4 := by
  intro e
  unfold cons at h
  rw [if_neg (by omega)] at h
  exact h e
theorem RDF_more : ∀ (f : Nat) (l v : List UInt8) (n : Nat), l.length < f → (RDF l n).2.2 ≠ 4 → RDF (l ++ v) n = RDF l n
  | 0, _, _, _, h, _ => by omega
  | f + 1, [], v, n, _, h => absurd rfl h
  | f + 1, c :: t, v, n, hf, h => by
    by_cases hc : c = 34
    · subst hc
      rw [List.cons_append, RDF_end, RDF_end]
    have hh : (c :: t).head? ≠ some 34 := fun e => hc (by simpa using e)
    have hh' : ((c :: t) ++ v).head? ≠ some 34 := fun e => hc (by simpa using e)
    have h1 : (one (c :: t)).2.2 ≠ 4 := by
      intro e
      rw [RDF_bad n hh e (by decide)] at h
      exact h rfl
    have ho := one_more v h1
    by_cases h0 : (one (c :: t)).2.2 = 0
    · have he := one_eta h0
      by_cases hn : 4096 < n + (Um.enc (one (c :: t)).1).length
      · rw [RDF_long n hh he hn, RDF_long n hh' (ho.trans he) hn]
      · rw [RDF_ok n hh he (by omega)] at h ⊢
        rw [RDF_ok n hh' (ho.trans he) (by omega)]
        obtain ⟨hg, hz⟩ := one_good he
        rw [List.drop_append_of_le_length hg.len, RDF_more f _ v _ (by rw [List.length_drop]; simp only [List.length_cons] at *; omega) (cons_4 h)]
    · rw [RDF_bad n hh rfl h0, RDF_bad n hh' (by rw [ho]) h0]
/-- what is read is told by its own bytes -/
theorem RDF_take : ∀ (f : Nat) (l : List UInt8) (n : Nat) (v : List UInt8) (k j : Nat), l.length < f → RDF l n = (v, k, 0) → k ≤ j → RDF (l.take j) n = (v, k, 0)
  | 0, _, _, _, _, _, h, _, _ => by omega
  | f + 1, l, n, v, k, j, hf, h, hj => by
    rcases RDF_cases l n with ⟨_, h'⟩ | ⟨t, ht, h'⟩ | ⟨h34, r, z, h1, h2, h'⟩ | ⟨e, he, h'⟩
    · rw [h'] at h
      simp at h
    · rw [h'] at h
      simp only [Prod.mk.injEq, and_true] at h
      obtain ⟨rfl, rfl⟩ := h
      obtain ⟨i, rfl⟩ : ∃ i, j = i + 1 := ⟨j - 1, by omega⟩
      rw [ht, List.take_succ_cons, RDF_end]
    · rw [h'] at h
      obtain ⟨a, b, ha, rfl, rfl⟩ := cons_eq h
      obtain ⟨hg, hz⟩ := one_good h1
      have hd : (l.take j).head? ≠ some 34 := by
        match l, h34 with
        | [], _ => simp
        | c :: t, h34 =>
          obtain ⟨i, rfl⟩ : ∃ i, j = i + 1 := ⟨j - 1, by omega⟩
          simpa using h34
      rw [RDF_ok n hd (hg.take _ (by omega)) h2, List.drop_take, RDF_take f (l.drop z) _ a b (j - z) (by rw [List.length_drop]; have := hg.len; omega) ha (by omega), cons_ok]
    · rw [h'] at h
      simp only [Prod.mk.injEq] at h
      exact absurd h.2.2 he
end Qm
end Go.Proofs.YtpifbmcgadjhbaaGreatDoor
