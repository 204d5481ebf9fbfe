/-
  slices.Insert of one element, whatever the room; what stands while With builds its value.
-/
import Derived.Test.YtcmalaabggohmaaValIns2
import Derived.Test.YtcmalaabggohmaaValPut
import Derived.Test.YtcmalaabggohmaaValGet
namespace Go.Proofs.Ytcmalaabggohmaa
open Go.RowKit

theorem NC_one (ns : List (List UInt8)) : ∀ u ∈ NC ns, u.oneCell' = true := fun u hu => by
  simp only [NC, List.mem_map] at hu
  obtain ⟨x, _, rfl⟩ := hu
  rfl
theorem own_form {w : World} {B : Nat} {e : TypeId} {sz : Nat} {v : Value} {n : Nat} {xs : List Value} (h : w.ownsRow B e sz v n xs) (hn : 0 < n) : ∃ g cap, v = .slice (some ⟨g, 0, none⟩) n cap ∧ n ≤ cap := by
  rcases h.2 with ⟨_, h0⟩ | ⟨g, cap, cur, hv, hb, hg, hnc, _⟩
  · omega
  · exact ⟨g, cap, hv, hnc⟩
theorem insert_names_any (B n i : Nat) (v : Value) (xs : List Value) (vb : Nat) (l : List UInt8) (w : World) (hown : w.ownsRow B 9 1 v n xs) (hB : B ≤ w.heap.size) (hn : n + 1 ≤ 90000) (hi : i ≤ n) (hone : ∀ u ∈ xs, u.oneCell' = true)
    (hvb : w.heap[vb]? = some (.cells #[.string (S l)] 9 (0, 0))) (hne : some vb ≠ v.ownBlock) :
    Calls Try.prog 44 #[v, .int .i64 (i : Int), .slice (some ⟨vb, 0, none⟩) 1 1] w fun e w' => (∃ v', e = .returned v' ∧ w'.ownsRow B 9 1 v' (n + 1) (xs.take i ++ [.string (S l)] ++ xs.drop i) ∧ (v'.ownBlock = v.ownBlock ∨ v'.ownBlock = some w.heap.size)) ∧ w.grownBy w' v.ownBlock := by
  have h1v : ∀ u ∈ [Value.string (S l)], u.oneCell' = true := fun u hu => by
    obtain rfl := List.mem_singleton.1 hu
    rfl
  by_cases hin : i = n
  · subst hin
    have := insert_names_end B i v xs vb [.string (S l)] w hown hB hn hvb rfl h1v
    rwa [Nat.mul_one] at this
  · obtain ⟨g, cap, rfl, hnc⟩ := own_form hown (by omega)
    by_cases hc : cap = n
    · subst hc
      have := insert_names_grow B cap i g xs vb [.string (S l)] w hown (by omega) hB hn hone hvb rfl h1v
      rwa [Nat.mul_one] at this
    · have := insert_names_shift B n i g cap xs vb [.string (S l)] w hown (by omega) (by omega) hn hone hvb (fun e => hne (by rw [e]; rfl)) rfl h1v
      rwa [Nat.mul_one] at this
theorem insert_items_any (B n i : Nat) (v : Value) (xs : List Value) (vb : Nat) (w : World) (hown : w.ownsRow B 25 5 v n xs) (hB : B ≤ w.heap.size) (hn : n + 1 ≤ 90000) (hi : i ≤ n) (hone : ∀ u ∈ xs, u.oneCell' = true)
    (hvb : w.heap[vb]? = some (.cells V5 25 (0, 0))) (hne : some vb ≠ v.ownBlock) :
    Calls Try.prog 45 #[v, .int .i64 (i : Int), .slice (some ⟨vb, 0, none⟩) 1 1] w fun e w' => (∃ v', e = .returned v' ∧ w'.ownsRow B 25 5 v' (n + 1) (xs.take (i * 5) ++ V5.toList ++ xs.drop (i * 5)) ∧ (v'.ownBlock = v.ownBlock ∨ v'.ownBlock = some w.heap.size)) ∧ w.grownBy w' v.ownBlock := by
  have h1v : ∀ u ∈ V5.toList, u.oneCell' = true := fun u hu => by
    simp only [V5, List.mem_cons, List.not_mem_nil, or_false] at hu
    rcases hu with rfl | rfl | rfl | rfl | rfl <;> rfl
  by_cases hin : i = n
  · subst hin
    exact insert_items_end B i v xs vb V5.toList w hown hB hn hvb rfl h1v
  · obtain ⟨g, cap, rfl, hnc⟩ := own_form hown (by omega)
    by_cases hc : cap = n
    · subst hc
      exact insert_items_grow B cap i g xs vb V5.toList w hown (by omega) hB hn hone hvb rfl h1v
    · exact insert_items_shift B n i g cap xs vb V5.toList w hown (by omega) (by omega) hn hone hvb (fun e => hne (by rw [e]; rfl)) rfl h1v
theorem HCSp.ones {P : Nat → Prop} {w : World} : ∀ {xs : List JV} {cs : List Value}, HCSp P w cs xs → ∀ u ∈ cs, u.oneCell' = true
  | [], _, h, u, hu => by
    rw [show _ = [] from h] at hu
    cases hu
  | x :: xs, _, ⟨c0, c1, c2, c3, c4, r, h1, h2, h3⟩, u, hu => by
    subst h1
    obtain ⟨ya, yb, yca, ycb, hcs, _⟩ := h2.one
    simp only [List.cons.injEq, and_true] at hcs
    obtain ⟨rfl, rfl, rfl, rfl, rfl⟩ := hcs
    simp only [List.mem_cons] at hu
    rcases hu with rfl | rfl | rfl | rfl | rfl | hu
    · rfl
    · rfl
    · rfl
    · rfl
    · rfl
    · exact HCSp.ones h3 u hu
theorem HCp.zero (P : Nat → Prop) (w : World) : HCp P w V5.toList JV.zero := by
  unfold JV.zero HCp
  exact ⟨none, none, 0, 0, rfl, ⟨by omega, by omega, Nat.zero_le _, Nat.zero_le _, Nat.zero_le _, fun x h => by simp at h⟩, .inl rfl, .inl rfl⟩
/-- while With builds its value -/
structure WtF (B ob : Nat) (w wr : World) (k0 n0 t0 x0 x1 x2 x3 x4 : Value) (ns : List (List UInt8)) (is : List JV) (a : Option Addr) (ca : Nat) (b : Option Addr) (cb : Nat) (cs : List Value) : Prop where
  below : Below w.heap.size w wr
  hx : VAt (w.heap.size + 1) wr x0 x1 x2 x3 x4
  hr : VAt (w.heap.size + 2) wr (.int .u8 0) (.int .i64 0) (.string ⟨#[]⟩) (.slice none 0 0) (.slice none 0 0)
  size : ob < wr.heap.size
  at1 : w.heap.size + 2 < B
  at2 : B ≤ ob
  o : VAt ob wr k0 n0 t0 (.slice a ns.length ca) (.slice b is.length cb)
  n : wr.ownsRow B 9 1 (.slice a ns.length ca) ns.length (NC ns)
  i : wr.ownsRow B 25 5 (.slice b is.length cb) is.length cs
  en : some ob ≠ (Value.slice a ns.length ca).ownBlock
  ei : some ob ≠ (Value.slice b is.length cb).ownBlock
  hc : HCSp (fun k => B ≤ k ∧ k ≠ ob ∧ some k ≠ (Value.slice a ns.length ca).ownBlock ∧ some k ≠ (Value.slice b is.length cb).ownBlock) wr cs is
theorem WtF.mem {B ob : Nat} {w wr w' : World} {k0 n0 t0 x0 x1 x2 x3 x4 : Value} {ns : List (List UInt8)} {is : List JV} {a : Option Addr} {ca : Nat} {b : Option Addr} {cb : Nat} {cs : List Value} (h : WtF B ob w wr k0 n0 t0 x0 x1 x2 x3 x4 ns is a ca b cb cs) (hb : Below wr.heap.size wr w') : WtF B ob w w' k0 n0 t0 x0 x1 x2 x3 x4 ns is a ca b cb cs := by
  obtain ⟨h1, h2, h3, h4, h5, h6, g1, g2, g3, g4, g5, g6⟩ := h
  exact ⟨h1.trans (hb.mono h1.size), h2.below hb, h3.below hb, Nat.lt_of_lt_of_le h4 hb.size, h5, h6, g1.below hb, own_stay g2 fun b e => hb.block b (g2.lt b e).2, own_stay g3 fun b e => hb.block b (g3.lt b e).2, g4, g5,
    HCSp.stay (fun b h hl => ⟨h, hb.block b hl⟩) _ _ g6⟩
theorem own_form2 {w : World} {B : Nat} {e : TypeId} {sz : Nat} {v : Value} {n : Nat} {xs : List Value} (h : w.ownsRow B e sz v n xs) : ∃ a ca, v = .slice a n ca := by
  rcases h.2 with ⟨h1, h0⟩ | ⟨g, cap, cur, hv, hb, hg, hnc, _⟩
  · exact ⟨none, 0, by rw [h1, h0]⟩
  · exact ⟨_, cap, hv⟩
/-- other names -/
theorem WtF.names {B ob : Nat} {w wr w2 : World} {k0 n0 t0 x0 x1 x2 x3 x4 : Value} {ns ns' : List (List UInt8)} {is : List JV} {a b : Option Addr} {ca cb : Nat} {cs : List Value} {a' : Option Addr} {ca' : Nat}
    (h : WtF B ob w wr k0 n0 t0 x0 x1 x2 x3 x4 ns is a ca b cb cs)
    (f1 : w2.ownsRow B 9 1 (.slice a' ns'.length ca') ns'.length (NC ns')) (f2 : wr.grownBy w2 (Value.slice a ns.length ca).ownBlock) (f3 : (Value.slice a' ns'.length ca').ownBlock = (Value.slice a ns.length ca).ownBlock ∨ (Value.slice a' ns'.length ca').ownBlock = some wr.heap.size) :
    VAt ob w2 k0 n0 t0 (.slice a ns.length ca) (.slice b is.length cb) ∧ WtF B ob w (w2.setCell ⟨ob, 3, none⟩ (.slice a' ns'.length ca')) k0 n0 t0 x0 x1 x2 x3 x4 ns' is a' ca' b cb cs := by
  obtain ⟨h1, h2, h3, h4, h5, h6, g1, g2, g3, g4, g5, g6⟩ := h
  have hlt := fun k e => g2.lt k e
  have hO : VAt ob w2 k0 n0 t0 (.slice a ns.length ca) (.slice b is.length cb) := (f2.block ob h4 g4).trans g1
  have hst : ∀ k, k < wr.heap.size → k ≠ ob → some k ≠ (Value.slice a ns.length ca).ownBlock → (w2.setCell ⟨ob, 3, none⟩ (.slice a' ns'.length ca')).heap[k]? = wr.heap[k]? := fun k hk hne hg => (heap_setCell_other w2 ⟨ob, 3, none⟩ k _ hne).trans (f2.block k hk hg)
  have hv : ∀ {k : Nat}, k < B → some k ≠ (Value.slice a ns.length ca).ownBlock := fun {k} hk e => by have := (hlt k e.symm).1; omega
  have hne' : some ob ≠ (Value.slice a' ns'.length ca').ownBlock := fun e => by
    rcases f3 with e2 | e2
    · rw [e2] at e; exact g4 e
    · rw [e2] at e
      simp only [Option.some.injEq] at e
      omega
  refine ⟨hO, ⟨?_, (hst _ (Array.getElem?_eq_some_iff.1 h2).1 (by omega) (hv (by omega))).trans h2, (hst _ (Array.getElem?_eq_some_iff.1 h3).1 (by omega) (hv (by omega))).trans h3, ?_, h5, h6, hO.set3 _, ?_, ?_, hne', g5, HCSp.stay (fun k hk hl => ⟨⟨hk.1, hk.2.1, ?_, hk.2.2.2⟩, hst k hl hk.2.1 hk.2.2.1⟩) _ _ g6⟩⟩
  · exact ⟨f2.os.trans h1.os, f2.tape.trans h1.tape, f2.output.trans h1.output, Nat.le_trans h1.size (by have := f2.size; simpa using this), fun k hk => (hst k (Nat.lt_of_lt_of_le hk h1.size) (by omega) (hv (by omega))).trans (h1.block k hk)⟩
  · have := f2.size
    simp
    omega
  · exact own_stay f1 fun k e => heap_setCell_other w2 ⟨ob, 3, none⟩ k _ fun h => hne' (by rw [e, show k = ob from h])
  · exact own_stay g3 fun k e => hst k (g3.lt k e).2 (fun h => g5 (by rw [← h]; exact e.symm)) (own_apart g3 g2 (by decide) k e)
  · rcases f3 with e | e
    · rw [e]; exact hk.2.2.1
    · rw [e]
      intro e2
      simp only [Option.some.injEq] at e2
      omega
/-- other Items -/
theorem WtF.items {B ob : Nat} {w wr w2 : World} {k0 n0 t0 x0 x1 x2 x3 x4 : Value} {ns : List (List UInt8)} {is is' : List JV} {a b : Option Addr} {ca cb : Nat} {cs cs' : List Value} {b' : Option Addr} {cb' : Nat}
    (h : WtF B ob w wr k0 n0 t0 x0 x1 x2 x3 x4 ns is a ca b cb cs)
    (f1 : w2.ownsRow B 25 5 (.slice b' is'.length cb') is'.length cs') (f2 : wr.grownBy w2 (Value.slice b is.length cb).ownBlock) (f3 : (Value.slice b' is'.length cb').ownBlock = (Value.slice b is.length cb).ownBlock ∨ (Value.slice b' is'.length cb').ownBlock = some wr.heap.size)
    (f4 : ∀ P w3, HCSp P w3 cs is → HCSp P w3 cs' is') :
    VAt ob w2 k0 n0 t0 (.slice a ns.length ca) (.slice b is.length cb) ∧ WtF B ob w (w2.setCell ⟨ob, 4, none⟩ (.slice b' is'.length cb')) k0 n0 t0 x0 x1 x2 x3 x4 ns is' a ca b' cb' cs' := by
  obtain ⟨h1, h2, h3, h4, h5, h6, g1, g2, g3, g4, g5, g6⟩ := h
  have hlt := fun k e => g3.lt k e
  have hO : VAt ob w2 k0 n0 t0 (.slice a ns.length ca) (.slice b is.length cb) := (f2.block ob h4 g5).trans g1
  have hst : ∀ k, k < wr.heap.size → k ≠ ob → some k ≠ (Value.slice b is.length cb).ownBlock → (w2.setCell ⟨ob, 4, none⟩ (.slice b' is'.length cb')).heap[k]? = wr.heap[k]? := fun k hk hne hg => (heap_setCell_other w2 ⟨ob, 4, none⟩ k _ hne).trans (f2.block k hk hg)
  have hv : ∀ {k : Nat}, k < B → some k ≠ (Value.slice b is.length cb).ownBlock := fun {k} hk e => by have := (hlt k e.symm).1; omega
  have hne' : some ob ≠ (Value.slice b' is'.length cb').ownBlock := fun e => by
    rcases f3 with e2 | e2
    · rw [e2] at e; exact g5 e
    · rw [e2] at e
      simp only [Option.some.injEq] at e
      omega
  refine ⟨hO, ⟨?_, (hst _ (Array.getElem?_eq_some_iff.1 h2).1 (by omega) (hv (by omega))).trans h2, (hst _ (Array.getElem?_eq_some_iff.1 h3).1 (by omega) (hv (by omega))).trans h3, ?_, h5, h6, hO.set4 _, ?_, ?_, g4, hne', f4 _ _ (HCSp.stay (fun k hk hl => ⟨⟨hk.1, hk.2.1, hk.2.2.1, ?_⟩, hst k hl hk.2.1 hk.2.2.2⟩) _ _ g6)⟩⟩
  · exact ⟨f2.os.trans h1.os, f2.tape.trans h1.tape, f2.output.trans h1.output, Nat.le_trans h1.size (by have := f2.size; simpa using this), fun k hk => (hst k (Nat.lt_of_lt_of_le hk h1.size) (by omega) (hv (by omega))).trans (h1.block k hk)⟩
  · have := f2.size
    simp
    omega
  · exact own_stay g2 fun k e => hst k (g2.lt k e).2 (fun h => g4 (by rw [← h]; exact e.symm)) (own_apart g2 g3 (by decide) k e)
  · exact own_stay f1 fun k e => heap_setCell_other w2 ⟨ob, 4, none⟩ k _ fun h => hne' (by rw [e, show k = ob from h])
  · rcases f3 with e | e
    · rw [e]; exact hk.2.2.2
    · rw [e]
      intro e2
      simp only [Option.some.injEq] at e2
      omega
theorem set5_other (w : World) (b k : Nat) (hne : k ≠ b) (v0 v1 v2 v3 v4 : Value) : (((((w.setCell ⟨b, 0, none⟩ v0).setCell ⟨b, 1, none⟩ v1).setCell ⟨b, 2, none⟩ v2).setCell ⟨b, 3, none⟩ v3).setCell ⟨b, 4, none⟩ v4).heap[k]? = w.heap[k]? := by
  rw [heap_setCell_other _ ⟨b, 4, none⟩ k _ hne, heap_setCell_other _ ⟨b, 3, none⟩ k _ hne, heap_setCell_other _ ⟨b, 2, none⟩ k _ hne, heap_setCell_other _ ⟨b, 1, none⟩ k _ hne, heap_setCell_other _ ⟨b, 0, none⟩ k _ hne]
/-- the Item is put -/
theorem wt_fin {B ob : Nat} {w wr w' : World} {k0 n0 t0 : Value} {ns : List (List UInt8)} {is : List JV} {a : Option Addr} {g : Nat} {ca cb p : Nat} {cs : List Value} {d0 d1 d2 d3 d4 : Value} {y : JV}
    (h1 : Below w.heap.size w wr) (h3 : VAt (w.heap.size + 2) wr (.int .u8 0) (.int .i64 0) (.string ⟨#[]⟩) (.slice none 0 0) (.slice none 0 0)) (h4 : ob < wr.heap.size) (h5 : w.heap.size + 2 < B)
    (g1 : VAt ob wr k0 n0 t0 (.slice a ns.length ca) (.slice (some ⟨g, 0, none⟩) is.length cb)) (g2 : wr.ownsRow B 9 1 (.slice a ns.length ca) ns.length (NC ns)) (g3 : wr.ownsRow B 25 5 (.slice (some ⟨g, 0, none⟩) is.length cb) is.length cs)
    (g5 : some ob ≠ (Value.slice (some ⟨g, 0, none⟩) is.length cb).ownBlock)
    (g6 : HCSp (fun k => B ≤ k ∧ k ≠ ob ∧ some k ≠ (Value.slice a ns.length ca).ownBlock ∧ some k ≠ (Value.slice (some ⟨g, 0, none⟩) is.length cb).ownBlock) wr cs is)
    (r1 : w'.ownsRow B 25 5 (.slice (some ⟨g, 0, none⟩) is.length cb) is.length (cs.take (p * 5) ++ [d0, d1, d2, d3, d4] ++ cs.drop (p * 5 + 5))) (r2 : HCp (fun b => wr.heap.size ≤ b) w' [d0, d1, d2, d3, d4] y) (r3 : wr.grownBy w' (some g)) (hp : p < is.length) :
    VAt ob w' k0 n0 t0 (.slice a ns.length ca) (.slice (some ⟨g, 0, none⟩) is.length cb) ∧ VAt (w.heap.size + 2) w' (.int .u8 0) (.int .i64 0) (.string ⟨#[]⟩) (.slice none 0 0) (.slice none 0 0) ∧ Below w.heap.size w w' ∧
      ∀ (k : Nat) (n : Int) (t : List UInt8), JB k n t ns (is.take p ++ [y] ++ is.drop (p + 1)).length → ∀ v0 v1 v2 v3 v4, HO w.heap.size (((((w'.setCell ⟨w.heap.size + 2, 0, none⟩ v0).setCell ⟨w.heap.size + 2, 1, none⟩ v1).setCell ⟨w.heap.size + 2, 2, none⟩ v2).setCell ⟨w.heap.size + 2, 3, none⟩ v3).setCell ⟨w.heap.size + 2, 4, none⟩ v4)
        (.agg #[.int .u8 (k : Int), .int .i64 n, .string (S t), .slice a ns.length ca, .slice (some ⟨g, 0, none⟩) is.length cb]) (.mk k n t ns (is.take p ++ [y] ++ is.drop (p + 1))) := by
  have hgB := (g3.lt g rfl)
  have hob : ob ≠ g := fun e => g5 (by rw [e]; rfl)
  have hlen : (is.take p ++ [y] ++ is.drop (p + 1)).length = is.length := by
    simp only [List.length_append, List.length_take, List.length_drop, List.length_cons, List.length_nil]
    omega
  have ng : ∀ k, (Value.slice a ns.length ca).ownBlock = some k → k ≠ g := fun k e h => (own_apart g2 g3 (by decide) k e) (by rw [h]; rfl)
  refine ⟨(r3.block ob h4 (by simpa using hob)).trans g1, (r3.block _ (Array.getElem?_eq_some_iff.1 h3).1 (by simp; omega)).trans h3, ⟨r3.os.trans h1.os, r3.tape.trans h1.tape, r3.output.trans h1.output, Nat.le_trans h1.size r3.size, fun k hk => (r3.block k (Nat.lt_of_lt_of_le hk h1.size) (by simp; omega)).trans (h1.block k hk)⟩, fun k n t hJ v0 v1 v2 v3 v4 => ?_⟩
  have S5 := fun k (hk : B ≤ k) => set5_other w' (w.heap.size + 2) k (by omega) v0 v1 v2 v3 v4
  refine ⟨.slice a ns.length ca, .slice (some ⟨g, 0, none⟩) is.length cb, cs.take (p * 5) ++ [d0, d1, d2, d3, d4] ++ cs.drop (p * 5 + 5), rfl, hJ, own_mono (B := B) (own_stay g2 fun k e => (S5 k (g2.lt k e).1).trans (r3.block k (g2.lt k e).2 (by simpa using ng k e))) (by omega), ?_, ?_⟩
  · show World.ownsRow _ _ _ _ _ (is.take p ++ [y] ++ is.drop (p + 1)).length _
    rw [hlen]
    exact own_mono (B := B) (own_stay r1 fun k e => S5 k (r1.lt k e).1) (by omega)
  · show HCSp _ _ _ (is.take p ++ [y] ++ is.drop (p + 1))
    have st : Stay (fun k => B ≤ k ∧ k ≠ ob ∧ some k ≠ (Value.slice a ns.length ca).ownBlock ∧ some k ≠ (Value.slice (some ⟨g, 0, none⟩) is.length cb).ownBlock) (fun b => w.heap.size ≤ b ∧ some b ≠ (Value.slice a ns.length ca).ownBlock ∧ some b ≠ (Value.slice (some ⟨g, 0, none⟩) is.length cb).ownBlock) wr (((((w'.setCell ⟨w.heap.size + 2, 0, none⟩ v0).setCell ⟨w.heap.size + 2, 1, none⟩ v1).setCell ⟨w.heap.size + 2, 2, none⟩ v2).setCell ⟨w.heap.size + 2, 3, none⟩ v3).setCell ⟨w.heap.size + 2, 4, none⟩ v4) := fun k hk hl =>
      ⟨⟨by have := hk.1; omega, hk.2.2⟩, (S5 k hk.1).trans (r3.block k hl hk.2.2.2)⟩
    have gs := HCSp.stay st _ _ g6
    have hd := HCSp.drop (p + 1) gs
    rw [show (p + 1) * 5 = p * 5 + 5 by omega] at hd
    refine HCSp.app (HCSp.app (HCSp.take p gs) (HCSp.one (HCp.stay (fun k hk _ => ⟨⟨by have := h1.size; omega, fun e => ?_, fun e => ?_⟩, S5 k (by omega)⟩) _ _ r2))) hd
    · have := (g2.lt k e.symm).2
      omega
    · have := (g3.lt k e.symm).2
      omega
end Go.Proofs.Ytcmalaabggohmaa
