/-
  Values of whose blocks it is told which ones they are: what a call has made anew; what stays, and what is overwritten.
-/
import Derived.Test.YtcmalaabggohmaaValRefWo
namespace Go.Proofs.Ytcmalaabggohmaa
open Go.RowKit

mutual
/-- the five cells cs are the value, and all its blocks are P's, and may be written -/
def HCp (P : Nat → Prop) (w : World) (cs : List Value) : JV → Prop
  | .mk k n t ns is => ∃ (a b : Option Addr) (ca cb : Nat), cs = [.int .u8 (k : Int), .int .i64 n, .string (S t), .slice a ns.length ca, .slice b is.length cb] ∧ JB k n t ns is.length ∧
      (ns = [] ∨ ∃ blk off, a = some ⟨blk, off, none⟩ ∧ P blk ∧ ∀ i x, ns[i]? = some x → w.cell? ⟨blk, off + i, none⟩ = some (.string (S x)) ∧ w.frozen? ⟨blk, off + i, none⟩ = false) ∧
      (is = [] ∨ ∃ blk off, b = some ⟨blk, off, none⟩ ∧ P blk ∧ HIp P w blk off is)
/-- from off on block blk hold the values -/
def HIp (P : Nat → Prop) (w : World) (blk : Nat) (off : Nat) : List JV → Prop
  | [] => True
  | x :: xs => (∃ c0 c1 c2 c3 c4, w.cell? ⟨blk, off, none⟩ = some c0 ∧ w.cell? ⟨blk, off + 1, none⟩ = some c1 ∧ w.cell? ⟨blk, off + 2, none⟩ = some c2 ∧ w.cell? ⟨blk, off + 3, none⟩ = some c3 ∧ w.cell? ⟨blk, off + 4, none⟩ = some c4 ∧
      w.frozen? ⟨blk, off + 2, none⟩ = false ∧ HCp P w [c0, c1, c2, c3, c4] x) ∧ HIp P w blk (off + 5) xs
end
mutual
theorem HCp.hc {P : Nat → Prop} {w : World} : ∀ (x : JV) (cs : List Value), HCp P w cs x → HC w cs x
  | .mk k n t ns is, cs, h => by
    unfold HCp at h
    unfold HC
    obtain ⟨a, b, ca, cb, h1, h2, h3, h4⟩ := h
    refine ⟨a, b, ca, cb, h1, h2, ?_, ?_⟩
    · intro i x hx
      rcases h3 with rfl | ⟨blk, off, e, _, h3⟩
      · simp at hx
      · exact ⟨blk, off, e, (h3 i x hx).1⟩
    · rcases h4 with h4 | ⟨blk, off, e, _, h4⟩
      · exact .inl h4
      · exact .inr ⟨blk, off, e, HIp.hi is blk off h4⟩
theorem HIp.hi {P : Nat → Prop} {w : World} : ∀ (xs : List JV) (blk off : Nat), HIp P w blk off xs → HI w blk off xs
  | [], _, _, _ => by unfold HI; trivial
  | x :: xs, blk, off, h => by
    unfold HIp at h
    unfold HI
    obtain ⟨⟨c0, c1, c2, c3, c4, g0, g1, g2, g3, g4, _, hc⟩, hr⟩ := h
    exact ⟨⟨c0, c1, c2, c3, c4, g0, g1, g2, g3, g4, HCp.hc x _ hc⟩, HIp.hi xs blk (off + 5) hr⟩
end
/-- blocks of P's that are there stay, and are Q's -/
def Stay (P Q : Nat → Prop) (w w' : World) : Prop := ∀ b, P b → b < w.heap.size → Q b ∧ w'.heap[b]? = w.heap[b]?
theorem Stay.cell {P Q : Nat → Prop} {w w' : World} (h : Stay P Q w w') {b o : Nat} (hp : P b) {c : Value} (hc : w.cell? ⟨b, o, none⟩ = some c) : w'.cell? ⟨b, o, none⟩ = some c :=
  (World.cell?_of_block (h b hp (World.block_lt_of_cell? w _ hc)).2).trans hc
theorem Stay.frozen {P Q : Nat → Prop} {w w' : World} (h : Stay P Q w w') {b o o' : Nat} (hp : P b) {c : Value} (hc : w.cell? ⟨b, o, none⟩ = some c) {f : Bool} (hf : w.frozen? ⟨b, o', none⟩ = f) : w'.frozen? ⟨b, o', none⟩ = f :=
  (World.frozen?_of_block (a := ⟨b, o', none⟩) (h b hp (World.block_lt_of_cell? w _ hc)).2).trans hf
mutual
theorem HCp.stay {P Q : Nat → Prop} {w w' : World} (hs : Stay P Q w w') : ∀ (x : JV) (cs : List Value), HCp P w cs x → HCp Q w' cs x
  | .mk k n t ns is, cs, h => by
    unfold HCp at h ⊢
    obtain ⟨a, b, ca, cb, h1, h2, h3, h4⟩ := h
    refine ⟨a, b, ca, cb, h1, h2, ?_, ?_⟩
    · rcases h3 with rfl | ⟨blk, off, e, hp, h3⟩
      · exact .inl rfl
      · rcases ns with _ | ⟨n0, ns⟩
        · exact .inl rfl
        · refine .inr ⟨blk, off, e, ?_, fun i x hx => ?_⟩
          · exact (hs blk hp (World.block_lt_of_cell? w _ (h3 0 _ rfl).1)).1
          · obtain ⟨g1, g2⟩ := h3 i x hx
            exact ⟨hs.cell hp g1, hs.frozen hp g1 g2⟩
    · rcases h4 with h4 | ⟨blk, off, e, hp, h4⟩
      · exact .inl h4
      · rcases is with _ | ⟨x0, is⟩
        · exact .inl rfl
        · refine .inr ⟨blk, off, e, ?_, HIp.stay hs (x0 :: is) blk off hp h4⟩
          unfold HIp at h4
          obtain ⟨⟨c0, _, _, _, _, g0, _⟩, _⟩ := h4
          exact (hs blk hp (World.block_lt_of_cell? w _ g0)).1
theorem HIp.stay {P Q : Nat → Prop} {w w' : World} (hs : Stay P Q w w') : ∀ (xs : List JV) (blk off : Nat), P blk → HIp P w blk off xs → HIp Q w' blk off xs
  | [], _, _, _, _ => by unfold HIp; trivial
  | x :: xs, blk, off, hp, h => by
    unfold HIp at h ⊢
    obtain ⟨⟨c0, c1, c2, c3, c4, g0, g1, g2, g3, g4, gf, hc⟩, hr⟩ := h
    exact ⟨⟨c0, c1, c2, c3, c4, hs.cell hp g0, hs.cell hp g1, hs.cell hp g2, hs.cell hp g3, hs.cell hp g4, hs.frozen hp g0 gf, HCp.stay hs x _ hc⟩, HIp.stay hs xs blk (off + 5) hp hr⟩
end
theorem HIp.get {P : Nat → Prop} {w : World} {blk : Nat} : ∀ {xs : List JV} {off i : Nat} {x : JV}, HIp P w blk off xs → xs[i]? = some x →
    ∃ c0 c1 c2 c3 c4, w.cell? ⟨blk, off + i * 5, none⟩ = some c0 ∧ w.cell? ⟨blk, off + i * 5 + 1, none⟩ = some c1 ∧ w.cell? ⟨blk, off + i * 5 + 2, none⟩ = some c2 ∧ w.cell? ⟨blk, off + i * 5 + 3, none⟩ = some c3 ∧ w.cell? ⟨blk, off + i * 5 + 4, none⟩ = some c4 ∧
      w.frozen? ⟨blk, off + i * 5 + 2, none⟩ = false ∧ HCp P w [c0, c1, c2, c3, c4] x
  | [], _, i, _, _, hx => by simp at hx
  | y :: ys, off, 0, x, h, hx => by
    obtain rfl : y = x := by simpa using hx
    unfold HIp at h
    simpa using h.1
  | y :: ys, off, i + 1, x, h, hx => by
    unfold HIp at h
    have := HIp.get h.2 (show ys[i]? = some x by simpa using hx)
    rw [show off + (i + 1) * 5 = off + 5 + i * 5 by omega]
    exact this
/-- cs are the cells of values, all of whose blocks are P's -/
def HCSp (P : Nat → Prop) (w : World) : List Value → List JV → Prop
  | cs, [] => cs = []
  | cs, x :: xs => ∃ c0 c1 c2 c3 c4 r, cs = c0 :: c1 :: c2 :: c3 :: c4 :: r ∧ HCp P w [c0, c1, c2, c3, c4] x ∧ HCSp P w r xs
theorem HCSp.stay {P Q : Nat → Prop} {w w' : World} (hs : Stay P Q w w') : ∀ (xs : List JV) (cs : List Value), HCSp P w cs xs → HCSp Q w' cs xs
  | [], _, h => h
  | x :: xs, _, ⟨c0, c1, c2, c3, c4, r, h1, h2, h3⟩ => ⟨c0, c1, c2, c3, c4, r, h1, HCp.stay hs x _ h2, HCSp.stay hs xs r h3⟩
theorem HCSp.hcs {P : Nat → Prop} {w : World} : ∀ (xs : List JV) (cs : List Value), HCSp P w cs xs → HCS w cs xs
  | [], _, h => h
  | x :: xs, _, ⟨c0, c1, c2, c3, c4, r, h1, h2, h3⟩ => ⟨c0, c1, c2, c3, c4, r, h1, HCp.hc x _ h2, HCSp.hcs xs r h3⟩
theorem HCSp.nil (P : Nat → Prop) (w : World) : HCSp P w [] [] := rfl
theorem HCSp.app {P : Nat → Prop} {w : World} : ∀ {xs : List JV} {cs : List Value} {ys : List JV} {ds : List Value}, HCSp P w cs xs → HCSp P w ds ys → HCSp P w (cs ++ ds) (xs ++ ys)
  | [], _, _, _, h, h' => by
    rw [show _ = [] from h]
    exact h'
  | y :: ys, _, _, _, ⟨d0, d1, d2, d3, d4, r, h1, h2, h3⟩, h' => by
    rw [h1]
    exact ⟨d0, d1, d2, d3, d4, _, rfl, h2, HCSp.app h3 h'⟩
theorem HCSp.one {P : Nat → Prop} {w : World} {x : JV} {c0 c1 c2 c3 c4 : Value} (hx : HCp P w [c0, c1, c2, c3, c4] x) : HCSp P w [c0, c1, c2, c3, c4] [x] := ⟨c0, c1, c2, c3, c4, [], rfl, hx, rfl⟩
theorem HCSp.take {P : Nat → Prop} {w : World} : ∀ {xs : List JV} {cs : List Value} (i : Nat), HCSp P w cs xs → HCSp P w (cs.take (i * 5)) (xs.take i)
  | [], _, i, h => by
    rw [show _ = [] from h, List.take_nil, List.take_nil]
    rfl
  | x :: xs, _, 0, h => by rw [Nat.zero_mul, List.take_zero, List.take_zero]; rfl
  | x :: xs, _, i + 1, ⟨d0, d1, d2, d3, d4, r, h1, h2, h3⟩ => by
    rw [h1, show (i + 1) * 5 = i * 5 + 1 + 1 + 1 + 1 + 1 by omega]
    simp only [List.take_succ_cons]
    exact ⟨d0, d1, d2, d3, d4, _, rfl, h2, HCSp.take i h3⟩
theorem HCSp.drop {P : Nat → Prop} {w : World} : ∀ {xs : List JV} {cs : List Value} (i : Nat), HCSp P w cs xs → HCSp P w (cs.drop (i * 5)) (xs.drop i)
  | [], _, i, h => by
    rw [show _ = [] from h, List.drop_nil, List.drop_nil]
    rfl
  | x :: xs, _, 0, h => by rw [Nat.zero_mul, List.drop_zero, List.drop_zero]; exact h
  | x :: xs, _, i + 1, ⟨d0, d1, d2, d3, d4, r, h1, h2, h3⟩ => by
    rw [h1, show (i + 1) * 5 = i * 5 + 1 + 1 + 1 + 1 + 1 by omega]
    simp only [List.drop_succ_cons]
    exact HCSp.drop i h3
theorem HCp.one {P : Nat → Prop} {w : World} {cs : List Value} {x : JV} (h : HCp P w cs x) : ∃ (a b : Option Addr) (ca cb : Nat), cs = [.int .u8 (x.k : Int), .int .i64 x.n, .string (S x.t), .slice a x.ns.length ca, .slice b x.is.length cb] ∧ JB x.k x.n x.t x.ns x.is.length ∧
      (x.ns = [] ∨ ∃ blk off, a = some ⟨blk, off, none⟩ ∧ P blk ∧ ∀ i z, x.ns[i]? = some z → w.cell? ⟨blk, off + i, none⟩ = some (.string (S z)) ∧ w.frozen? ⟨blk, off + i, none⟩ = false) ∧
      (x.is = [] ∨ ∃ blk off, b = some ⟨blk, off, none⟩ ∧ P blk ∧ HIp P w blk off x.is) := by
  match x, h with
  | .mk k n t ns is, h => unfold HCp at h; exact h
theorem HIp.of_cells {P : Nat → Prop} {w : World} {blk : Nat} (hf : ∀ o, w.frozen? ⟨blk, o, none⟩ = false) : ∀ {xs : List JV} {cs : List Value} {off : Nat}, HCSp P w cs xs → (∀ j c, cs[j]? = some c → w.cell? ⟨blk, off + j, none⟩ = some c) → HIp P w blk off xs
  | [], _, _, _, _ => by unfold HIp; trivial
  | x :: xs, _, off, ⟨c0, c1, c2, c3, c4, r, h1, h2, h3⟩, h => by
    subst h1
    unfold HIp
    refine ⟨⟨c0, c1, c2, c3, c4, h 0 c0 rfl, h 1 c1 rfl, h 2 c2 rfl, h 3 c3 rfl, h 4 c4 rfl, hf _, h2⟩, HIp.of_cells hf h3 fun j c hj => ?_⟩
    have := h (j + 5) c (by simpa using hj)
    rw [show off + (j + 5) = off + 5 + j by omega] at this
    exact this
/-- a row of the call's own: its cells, and that they may be written -/
theorem own_cells {w : World} {B : Nat} {e : TypeId} {sz : Nat} {v : Value} {n : Nat} {xs : List Value} (h : w.ownsRow B e sz v n xs) : (v = .slice none 0 0 ∧ n = 0) ∨
    ∃ g cap, v = .slice (some ⟨g, 0, none⟩) n cap ∧ B ≤ g ∧ g < w.heap.size ∧ n ≤ cap ∧ (∀ j c, xs[j]? = some c → w.cell? ⟨g, j, none⟩ = some c) ∧ ∀ o, w.frozen? ⟨g, o, none⟩ = false := by
  rcases h.2 with h1 | ⟨g, cap, cur, rfl, hb, hg, hn, _⟩
  · exact .inl h1
  · refine .inr ⟨g, cap, rfl, hb, (Array.getElem?_eq_some_iff.1 hg).1, hn, fun j c hj => ?_, fun o => ?_⟩
    · have := h.cells (g := g) rfl j c hj
      rwa [show ((⟨g, 0, none⟩ : Addr).add j) = ⟨g, j, none⟩ by simp [Addr.add]; omega] at this
    · unfold World.frozen?
      rw [hg]
      simp
/-- u is the value x, in memory from block B on, with rows of its own -/
def HO (B : Nat) (w : World) (u : Value) (x : JV) : Prop := ∃ nv xv cs, u = .agg #[.int .u8 (x.k : Int), .int .i64 x.n, .string (S x.t), nv, xv] ∧ JB x.k x.n x.t x.ns x.is.length ∧
  w.ownsRow B 9 1 nv x.ns.length (NC x.ns) ∧ w.ownsRow B 25 5 xv x.is.length cs ∧ HCSp (fun b => B ≤ b ∧ some b ≠ nv.ownBlock ∧ some b ≠ xv.ownBlock) w cs x.is
theorem JV.eta (x : JV) : x = .mk x.k x.n x.t x.ns x.is := by
  match x with
  | .mk k n t ns is => rfl
/-- its cells, wherever they go -/
theorem HO.hcp {B : Nat} {w : World} {u : Value} {x : JV} (h : HO B w u x) : ∃ cs, u = .agg cs.toArray ∧ HCp (fun b => B ≤ b) w cs x := by
  obtain ⟨nv, xv, cs, rfl, hB, o1, o2, hc⟩ := h
  rw [x.eta] at hB o1 o2 hc ⊢
  generalize x.k = k at *
  generalize x.n = n at *
  generalize x.t = t at *
  generalize x.ns = ns at *
  generalize x.is = is at *
  have hs : Stay (fun b => B ≤ b ∧ some b ≠ nv.ownBlock ∧ some b ≠ xv.ownBlock) (fun b => B ≤ b) w w := fun b hb _ => ⟨hb.1, rfl⟩
  have hc' := HCSp.stay hs _ _ hc
  have h1 : ∃ a ca, nv = .slice a ns.length ca ∧ (ns = [] ∨ ∃ blk off, a = some ⟨blk, off, none⟩ ∧ B ≤ blk ∧ ∀ i x, ns[i]? = some x → w.cell? ⟨blk, off + i, none⟩ = some (.string (S x)) ∧ w.frozen? ⟨blk, off + i, none⟩ = false) := by
    rcases own_cells o1 with ⟨h1, h2⟩ | ⟨g, cap, h1, h2, h3, _, h4, h5⟩
    · exact ⟨none, 0, by rw [h1]; simp only [JV.ns] at h2; rw [h2], .inl (List.length_eq_zero_iff.1 h2)⟩
    · refine ⟨_, cap, h1, .inr ⟨g, 0, rfl, h2, fun i x hx => ⟨?_, h5 _⟩⟩⟩
      rw [Nat.zero_add]
      exact h4 i _ (by simp only [JV.ns, NC, List.getElem?_map, hx]; rfl)
  have h2 : ∃ b cb, xv = .slice b is.length cb ∧ (is = [] ∨ ∃ blk off, b = some ⟨blk, off, none⟩ ∧ B ≤ blk ∧ HIp (fun b => B ≤ b) w blk off is) := by
    rcases own_cells o2 with ⟨h1, h2⟩ | ⟨g, cap, h1, h2, h3, _, h4, h5⟩
    · exact ⟨none, 0, by rw [h1]; simp only [JV.is] at h2; rw [h2], .inl (List.length_eq_zero_iff.1 h2)⟩
    · refine ⟨_, cap, h1, .inr ⟨g, 0, rfl, h2, HIp.of_cells h5 hc' fun j c hj => ?_⟩⟩
      rw [Nat.zero_add]
      exact h4 j c hj
  obtain ⟨a, ca, rfl, h1⟩ := h1
  obtain ⟨b, cb, rfl, h2⟩ := h2
  refine ⟨_, rfl, ?_⟩
  unfold HCp
  exact ⟨a, b, ca, cb, rfl, hB, h1, h2⟩
theorem HO.hv {B : Nat} {w : World} {u : Value} {x : JV} (h : HO B w u x) : HV w u x := by
  obtain ⟨cs, h1, h2⟩ := h.hcp
  exact ⟨cs, h1, HCp.hc _ _ h2⟩
theorem own_stay {w w' : World} {B : Nat} {e : TypeId} {sz : Nat} {v : Value} {n : Nat} {xs : List Value} (h : w.ownsRow B e sz v n xs) (hs : ∀ b, v.ownBlock = some b → w'.heap[b]? = w.heap[b]?) : w'.ownsRow B e sz v n xs := by
  refine ⟨h.1, ?_⟩
  rcases h.2 with h1 | ⟨g, cap, cur, rfl, hb, hg, r⟩
  · exact .inl h1
  · exact .inr ⟨g, cap, cur, rfl, hb, (hs g rfl).trans hg, r⟩
/-- what lies from B on stays -/
theorem HO.stay {B : Nat} {w w' : World} {u : Value} {x : JV} (h : HO B w u x) (hs : ∀ b, B ≤ b → b < w.heap.size → w'.heap[b]? = w.heap[b]?) : HO B w' u x := by
  obtain ⟨nv, xv, cs, h1, hB, o1, o2, hc⟩ := h
  exact ⟨nv, xv, cs, h1, hB, own_stay o1 fun b hb => hs b (o1.lt b hb).1 (o1.lt b hb).2, own_stay o2 fun b hb => hs b (o2.lt b hb).1 (o2.lt b hb).2, HCSp.stay (fun b hb hl => ⟨hb, hs b hb.1 hl⟩) _ _ hc⟩
theorem HO.below {B : Nat} {w w' : World} {u : Value} {x : JV} (h : HO B w u x) (hb : Below w.heap.size w w') : HO B w' u x := h.stay fun b _ hl => hb.block b hl
end Go.Proofs.Ytcmalaabggohmaa
