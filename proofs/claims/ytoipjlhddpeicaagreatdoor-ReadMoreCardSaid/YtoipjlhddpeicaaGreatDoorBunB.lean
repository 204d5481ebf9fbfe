/-
  ReadOut, ReadObj, ReadFrom, ReadWhole, ReadProg, ReadEx, ReadMathW, ReadAwake, ReadFact, ReadLawA: one text.
-/
import Derived.Test.YtoipjlhddpeicaaGreatDoorBunA
import Derived.Test.YtoipjlhddpeicaaGreatDoorIter
import Derived.Lib.AppendZeros
import Derived.Deep.AppendLies
import Derived.Test.YtoipjlhddpeicaaGreatDoorValSize
import Derived.Test.YtoipjlhddpeicaaGreatDoorValRefSame
import Derived.Test.YtoipjlhddpeicaaGreatDoorBunV
namespace Go.Proofs.YtoipjlhddpeicaaGreatDoor
section
open Go.RowKit Go.Maps

structure OI (rb mb ob : Nat) (w wr : World) (ns : List (List UInt8)) (is : List JV) (k : Nat) (nv xv : Value) : Prop where
  kr : Kr rb w wr
  low : w.heap.size ≤ mb
  rbl : rb < w.heap.size
  row : ∃ vs, wr.ownsMap Tryz.prog 9 RV mb ns.length (.map (ME ns vs)) ∧ VS (fun b => mb + 1 ≤ b ∧ b < ob) wr vs is ∧ ns.length = vs.length
  rise : Rd.Rise ns
  mob : mb < ob
  nown : wr.ownsRow (mb + 1) 9 1 nv ns.length (NC ns)
  nlow : ∀ b, nv.ownBlock = some b → b < ob
  out : VAt ob wr (.int .u8 5) (.int .i64 0) (.string ⟨#[]⟩) nv xv
  own : ∃ cs, wr.ownsRow (ob + 1) 26 5 xv k cs ∧ HCSp (fun b => mb + 1 ≤ b ∧ b < ob) wr cs (is.take k)
theorem OI.step {rb mb ob : Nat} {w wr : World} {ns : List (List UInt8)} {is : List JV} {k : Nat} {nv xv : Value} (h : OI rb mb ob w wr ns is k nv xv) (hk : k < ns.length) (hn : ns.length ≤ 60000) {l : List UInt8} (hl : ns[k]? = some l) (hll : l.length ≤ maxLen) :
    ∃ (uk un : Int) (ut : ByteArray) (ua ub : Option Addr) (ui uj uca ucb : Nat) (pb : Option Addr) (lb kb : Nat) (W3 w4 : World),
      W3 = wr.alloc (.cells #[.int .u8 uk, .int .i64 un, .string ut, .slice ua ui uca, .slice ub uj ucb] 26) ∧
      (Instr.lookup 120 (.map (some mb)) (.string (S l)) false).run Tryz.prog wr = .ok (.agg #[.int .u8 uk, .int .i64 un, .string ut, .slice ua ui uca, .slice ub uj ucb]) wr ∧
      (Builtin.append_ #[24, 24] 24 #[xv, .slice (some ⟨wr.heap.size, 0, none⟩) 1 1]).run Tryz.prog W3 = .ok (.slice pb lb kb) w4 ∧
      VAt ob w4 (.int .u8 5) (.int .i64 0) (.string ⟨#[]⟩) nv xv ∧ (∀ q, q < ob → w4.heap[q]? = wr.heap[q]?) ∧ wr.heap.size ≤ w4.heap.size ∧
      OI rb mb ob w (w4.setCell ⟨ob, 4, none⟩ (.slice pb lb kb)) ns is (k + 1) nv (.slice pb lb kb) := by
  obtain ⟨i0, hi0, hz0, hz1, hz2⟩ := info_parts info_val
  obtain ⟨vs, m1, m2, m3⟩ := h.row
  obtain ⟨cs, o1, o2⟩ := h.own
  have hik : k < is.length := by rw [← m2.len, ← m3]; exact hk
  obtain ⟨x, hx⟩ : ∃ x, is[k]? = some x := ⟨_, List.getElem?_eq_getElem hik⟩
  obtain ⟨v, hv, hu⟩ := m2.at' hx
  obtain ⟨v', ps, hr, hR⟩ := m1.lookup members_keyed Tryz.underlying120 (zero_val wr) (zd := .held _) (zp := []) rfl (key_S hll)
  rw [ME_at ns vs k v m3 (rise_nodup h.rise) hl hv] at hR
  simp only [RV, Option.some.injEq, Prod.mk.injEq, DataW.held.injEq] at hR
  obtain ⟨rfl, _⟩ := hR
  obtain ⟨ks, rfl, hc⟩ := hu
  obtain ⟨ya, yb, yca, ycb, rfl, hJ, _⟩ := hc.one
  obtain ⟨W3, hW3⟩ : ∃ W, W = wr.alloc (.cells #[.int .u8 (x.k : Int), .int .i64 x.n, .string (S x.t), .slice ya x.ns.length yca, .slice yb x.is.length ycb] 26) := ⟨_, rfl⟩
  have b3 : Below wr.heap.size wr W3 := by rw [hW3]; exact (Below.refl _ _).alloc (Nat.le_refl _) _
  have hob : ob < wr.heap.size := (Array.getElem?_eq_some_iff.1 h.out).1
  have o3 : W3.ownsRow (ob + 1) 26 5 xv k cs := by rw [hW3]; exact o1.alloc _
  have hone : ∀ u ∈ [Value.int .u8 (x.k : Int), .int .i64 x.n, .string (S x.t), .slice ya x.ns.length yca, .slice yb x.is.length ycb], u.oneCell' = true := fun u hu => by
    simp only [List.mem_cons, List.not_mem_nil, or_false] at hu
    rcases hu with rfl | rfl | rfl | rfl | rfl <;> rfl
  obtain ⟨vB, w4, hr2, p2, g2, _, g4⟩ := run_append_own_at (P := Tryz.prog) W3 (ob + 1) 24 24 26 i0 (.agg V5) 5 80 Tryz.underlying24 hi0 hz0 hz1 hz2 rfl (by decide) xv k cs o3 ⟨wr.heap.size, 0, none⟩ 1 1 [.int .u8 (x.k : Int), .int .i64 x.n, .string (S x.t), .slice ya x.ns.length yca, .slice yb x.is.length ycb] rfl
    (by rw [hW3]; exact World.news_of_block (cs := #[.int .u8 (x.k : Int), .int .i64 x.n, .string (S x.t), .slice ya x.ns.length yca, .slice yb x.is.length ycb]) (t := 26) (fr := (0, 0)) (heap_alloc_new wr _)) hone (by unfold maxLen; omega) (by omega) (by have := b3.size; omega)
  obtain ⟨pb, kb, rfl⟩ := len_slice p2
  obtain ⟨lb, hlb⟩ : ∃ z, z = k + 1 := ⟨_, rfl⟩
  rw [← hlb] at hr2 p2
  have st : ∀ q, q < wr.heap.size → some q ≠ xv.ownBlock → w4.heap[q]? = wr.heap[q]? := fun q hq he => (g2.block q (Nat.lt_of_lt_of_le hq b3.size) he).trans (b3.block q hq)
  have lowx : ∀ q, q ≤ ob → some q ≠ xv.ownBlock := fun q hq e => by have := (o1.lt q e.symm).1; omega
  have s4 : wr.heap.size ≤ w4.heap.size := Nat.le_trans b3.size g2.size
  have O4 : VAt ob w4 (.int .u8 5) (.int .i64 0) (.string ⟨#[]⟩) nv xv := (st ob hob (lowx ob (Nat.le_refl _))).trans h.out
  have lo : ∀ q, q < ob → (w4.setCell ⟨ob, 4, none⟩ (.slice pb lb kb)).heap[q]? = wr.heap[q]? := fun q hq => (heap_setCell_other w4 ⟨ob, 4, none⟩ q _ (by show q ≠ ob; omega)).trans (st q (by omega) (lowx q (by omega)))
  refine ⟨(x.k : Int), x.n, S x.t, ya, yb, x.ns.length, x.is.length, yca, ycb, pb, lb, kb, W3, w4, hW3, hr, hr2, O4, fun q hq => st q (by omega) (lowx q (by omega)), s4, ?_⟩
  have hrb := h.rbl
  have hlow := h.low
  have hmob := h.mob
  refine ⟨⟨?_, ?_, ?_, ?_, fun q hq hne => (lo q (by omega)).trans (h.kr.block q hq hne)⟩, hlow, hrb, ⟨vs, owns_stay m1 (lo mb hmob), VS.stay (fun b hb _ => ⟨hb, lo b hb.2⟩) m2, m3⟩, h.rise, hmob, own_stay h.nown fun b e => lo b (h.nlow b e), h.nlow, O4.set4 _, cs ++ [.int .u8 (x.k : Int), .int .i64 x.n, .string (S x.t), .slice ya x.ns.length yca, .slice yb x.is.length ycb], ?_, ?_⟩
  · exact g2.os.trans (b3.os.trans h.kr.os)
  · exact g2.tape.trans (b3.tape.trans h.kr.tape)
  · exact g2.output.trans (b3.output.trans h.kr.output)
  · have := h.kr.size; simp; omega
  · rw [hlb] at p2 ⊢
    exact ownsRow_setCell_below (a := ⟨ob, 4, none⟩) p2 (by show ob < _; omega) _
  · rw [List.take_add_one, hx]
    exact HCSp.app (HCSp.stay (fun b hb _ => ⟨hb, lo b hb.2⟩) _ _ o2) (HCSp.one (HCp.stay (fun b hb _ => ⟨hb, lo b hb.2⟩) _ _ hc))
theorem OI.hf {rb mb ob : Nat} {w wr : World} {ns : List (List UInt8)} {is : List JV} {k : Nat} {nv xv : Value} (h : OI rb mb ob w wr ns is k nv xv) (hk : k = ns.length) (hn : ns.length ≤ 60000) (hl : ∀ z ∈ ns, z.length ≤ maxLen) : HF (mb + 1) wr (.agg #[.int .u8 5, .int .i64 0, .string ⟨#[]⟩, nv, xv]) (.mk 5 0 [] ns is) := by
  obtain ⟨vs, _, m2, m3⟩ := h.row
  have hil : ns.length = is.length := by rw [m3, m2.len]
  obtain ⟨cs, o1, o2⟩ := h.own
  rw [hk, show is.take ns.length = is by rw [hil]; exact List.take_length] at o2
  rw [hk] at o1
  have o2' := HCSp.stay (Q := fun b => mb + 1 ≤ b) (fun b hb _ => ⟨hb.1, rfl⟩) _ _ o2
  have h1 : ∃ a ca, nv = .slice a ns.length ca ∧ (ns = [] ∨ ∃ blk off, a = some ⟨blk, off, none⟩ ∧ mb + 1 ≤ blk ∧ ∀ i x, ns[i]? = some x → wr.cell? ⟨blk, off + i, none⟩ = some (.string (S x)) ∧ wr.frozen? ⟨blk, off + i, none⟩ = false) := by
    rcases own_cells h.nown with ⟨h1, h2⟩ | ⟨g, cap, h1, h2, h3, _, h4, h5⟩
    · exact ⟨none, 0, by rw [h1, h2], .inl (List.length_eq_zero_iff.1 h2)⟩
    · refine ⟨_, cap, h1, .inr ⟨g, 0, rfl, h2, fun i x hx => ⟨?_, h5 _⟩⟩⟩
      rw [Nat.zero_add]
      exact h4 i _ (by simp only [NC, List.getElem?_map, hx]; rfl)
  have hmo := h.mob
  have h2 : ∃ b cb, xv = .slice b is.length cb ∧ (is = [] ∨ ∃ blk off, b = some ⟨blk, off, none⟩ ∧ mb + 1 ≤ blk ∧ HIp (fun b => mb + 1 ≤ b) wr blk off is) := by
    rcases own_cells o1 with ⟨h1, h2⟩ | ⟨g, cap, h1, h2, h3, _, h4, h5⟩
    · rw [hil] at h2
      exact ⟨none, 0, by rw [h1, h2], .inl (List.length_eq_zero_iff.1 h2)⟩
    · refine ⟨_, cap, by rw [h1, hil], .inr ⟨g, 0, rfl, by omega, HIp.of_cells h5 o2' fun j c hj => ?_⟩⟩
      rw [Nat.zero_add]
      exact h4 j c hj
  obtain ⟨a, ca, rfl, h1⟩ := h1
  obtain ⟨b, cb, rfl, h2⟩ := h2
  refine ⟨[.int .u8 5, .int .i64 0, .string ⟨#[]⟩, .slice a ns.length ca, .slice b is.length cb], rfl, ?_⟩
  unfold HCp
  exact ⟨a, b, ca, cb, rfl, ⟨by omega, by omega, Nat.zero_le _, by unfold maxLen; omega, by unfold maxLen; omega, hl⟩, h1, h2⟩
end

section
open Go.RowKit Go.Maps Go.Sort

theorem LO.names_le {rb mb : Nat} {X : Nat → Prop} {w : World} {ns : List (List UInt8)} {is : List JV} (h : LO rb mb X w ns is) : ∀ z ∈ ns, z.length ≤ maxLen := by
  obtain ⟨vs, h1, _, h3⟩ := h.row
  have := strKeys_le h1 Tryz.underlying9
  rwa [ME_keys ns vs h3] at this
theorem members_sorted {rb mb : Nat} {X : Nat → Prop} {w : World} {ns : List (List UInt8)} {is : List JV} (h : LO rb mb X w ns is) (hn : ns.length ≤ 60000) :
    Calls Tryz.prog 105 #[.map (some mb)] w (fun e w' => e = .returned (.func (.func 118) #[] #[.pointer (some ⟨w.heap.size, 0, none⟩)]) ∧ w' = w.alloc (.cells #[.map (some mb)] 120)) ∧
    Calls Tryz.prog 104 #[.func (.func 118) #[] #[.pointer (some ⟨w.heap.size, 0, none⟩)]] (w.alloc (.cells #[.map (some mb)] 120)) fun e w' => ∃ (a : Option Addr) (c : Nat), e = .returned (.slice a ns.length c) ∧
      w'.ownsRow (w.heap.size + 1) 9 1 (.slice a ns.length c) ns.length (NC ns) ∧ Below (w.heap.size + 1) (w.alloc (.cells #[.map (some mb)] 120)) w' := by
  obtain ⟨vs, h1, h2, h3⟩ := h.row
  refine ⟨callsIn_wide.1 (keys_at (some mb) w), ?_⟩
  have hc := callsIn_wide.1 (sorted_at mb ns.length _ RV w h1 (by rw [ME_size ns vs h3]; unfold maxLen; omega) (by rw [ME_size ns vs h3]; omega))
  have hs : (w.alloc (.cells #[.map (some mb)] 120)).heap.size = w.heap.size + 1 := by simp
  rw [hs] at hc
  refine hc.mono ?_
  rintro e w' ⟨v, ss, rfl, hp, ho, _, hb⟩
  rw [ME_keys ns vs h3] at hp
  rw [sort_rise h.rise hp, hp.length_eq] at ho
  obtain ⟨a, c, rfl⟩ : ∃ a c, v = .slice a ns.length c := by
    rcases ho.2 with ⟨rfl, h0⟩ | ⟨g, cap, cur, rfl, _⟩
    · exact ⟨none, 0, by rw [h0]⟩
    · exact ⟨_, _, rfl⟩
  exact ⟨a, c, rfl, ho, hb⟩
set_option maxHeartbeats 4000000 in
set_option maxRecDepth 5000 in
theorem object_any {w0 w : World} {rb : Nat} {l : List UInt8} {E : Nat × Nat} {K : Nat} (hF : FromOK w0 rb l E K) {ms : List Lm.Mark} {p pl n d : Nat} (hlen : ms.length ≤ K) (hS : RS w0 rb l w p pl n (d + 1)) (hT : TS l p ms E) (hn : n ≤ 8192) (hd : d + 1 ≤ 12) :
    Calls Tryz.prog 81 #[.pointer (some ⟨rb, 0, none⟩)] w fun en w' => ∃ r, RO E d ms n r ∧ NRes w0 rb l E d w r en w' := by
  obtain ⟨b0, hb0⟩ : ∃ b, b = w.heap.size := ⟨_, rfl⟩
  obtain ⟨W1, hW1⟩ : ∃ W, W = w.alloc (.cells #[.pointer (some ⟨rb, 0, none⟩)] 77) := ⟨_, rfl⟩
  obtain ⟨W2, hW2⟩ : ∃ W, W = W1.alloc (.cells V5 26) := ⟨_, rfl⟩
  obtain ⟨W3, hW3⟩ : ∃ W, W = W2.alloc (.map #[] 0) := ⟨_, rfl⟩
  obtain ⟨W4, hW4⟩ : ∃ W, W = W3.alloc (.cells #[.map (some (b0 + 2))] 120) := ⟨_, rfl⟩
  have s1 : W1.heap.size = b0 + 1 := by rw [hW1, hb0]; simp
  have s2 : W2.heap.size = b0 + 2 := by rw [hW2]; simp [s1]
  have s3 : W3.heap.size = b0 + 3 := by rw [hW3]; simp [s2]
  have s4 : W4.heap.size = b0 + 4 := by rw [hW4]; simp [s3]
  have g1 : Below w.heap.size w W1 := by rw [hW1]; exact (Below.refl _ _).alloc (Nat.le_refl _) _
  have q12 : Below W1.heap.size W1 W2 := by rw [hW2]; exact (Below.refl _ _).alloc (Nat.le_refl _) _
  have q23 : Below W2.heap.size W2 W3 := by rw [hW3]; exact (Below.refl _ _).alloc (Nat.le_refl _) _
  have q34 : Below W3.heap.size W3 W4 := by rw [hW4]; exact (Below.refl _ _).alloc (Nat.le_refl _) _
  have g4 : Below w.heap.size w W4 := ((g1.trans (q12.mono g1.size)).trans (q23.mono (by rw [s2]; omega))).trans (q34.mono (by rw [s3]; omega))
  have P1 : PB b0 rb W1 := by rw [hW1, hb0]; exact heap_alloc_new ..
  have P4 : PB b0 rb W4 := (q34.block b0 (by omega)).trans ((q23.block b0 (by omega)).trans ((q12.block b0 (by omega)).trans P1))
  have V2 : VAt (b0 + 1) W2 (.int .u8 0) (.int .i64 0) (.string ⟨#[]⟩) (.slice none 0 0) (.slice none 0 0) := by rw [hW2, ← s1]; exact heap_alloc_new ..
  have V4 : VAt (b0 + 1) W4 (.int .u8 0) (.int .i64 0) (.string ⟨#[]⟩) (.slice none 0 0) (.slice none 0 0) := (q34.block (b0 + 1) (by omega)).trans ((q23.block (b0 + 1) (by omega)).trans V2)
  have M3 : W3.ownsMap Tryz.prog 9 RV (b0 + 2) 0 (.map []) := by rw [hW3, ← s2]; exact World.ownsMap_made ..
  have C4 : CB (b0 + 3) (b0 + 2) W4 := by rw [hW4, ← s3]; exact heap_alloc_new ..
  have hrb : rb < b0 := by have := hS.lt; omega
  have L4 : LO rb (b0 + 2) (fun _ => False) W4 [] [] := ⟨⟨[], owns_stay M3 (q34.block (b0 + 2) (by omega)), trivial, rfl⟩, List.Pairwise.nil, by omega, fun _ h => h.elim⟩
  have hw0 : Hid (w0.heap.size ≤ b0) := by rw [hb0]; exact hS.below.size
  have cP := parts_obj hF hlen (hS.grow g4) hT hn hd L4 P4 C4 (by omega) (by omega) (by omega) (by omega)
  have HV4 := Lib.hid V4
  have HC4 := Lib.hid C4
  have HG4 := Lib.hid g4
  have HB0 := Lib.hid hb0
  have HS4 := Lib.hid s4
  have pc1 := P1.cell
  have pc4 := P4.cell
  have cc4 := C4.cell
  clear g1 g4 q12 q23 q34 P1 P4 V2 V4 M3 C4 L4 hS hT hF hlen s1 s2 s3 s4
  rw [show V5 = #[.int .u8 0, .int .i64 0, .string ⟨#[]⟩, .slice none 0 0, .slice none 0 0] from rfl] at hW2
  have hmk : ∀ W : World, (Instr.makeMap 120 none).run Tryz.prog W = .ok (.map (some W.heap.size)) (W.alloc (.map #[] 0)) := fun W => by kernel_rfl
  go_enter Tryz.func81, Tryz.ntmps81
  go_wp2_with fail
  rw [← hW1, ← hW2, ← hW3, ← hb0, show b0 + 1 + 1 + 1 = b0 + 3 from rfl, show b0 + 1 + 1 = b0 + 2 from rfl, ← hW4]
  clear hW1 hW2 hW3 hW4 pc1 pc4 cc4 hb0 hmk
  refine cP.mono ?_; rintro en w5 ⟨r, hR, k5, ns, is, p', pl', n', e, rfl, hL, hlen, s5, hrm⟩
  have c5 : CB (b0 + 3) (b0 + 2) w5 := HC4.out.km (by omega) (by omega) k5
  have v5 : VAt (b0 + 1) w5 (.int .u8 0) (.int .i64 0) (.string ⟨#[]⟩) (.slice none 0 0) (.slice none 0 0) := (k5.block (b0 + 1) (by rw [HS4.out]; omega) (by omega) (by omega)).trans HV4.out
  have hnl : ns.length ≤ 60000 := by rw [hL.len]; omega
  obtain ⟨cK, cS⟩ := members_sorted hL hnl
  have hkr5 : Kr rb w w5 := ⟨k5.os.trans HG4.out.os, k5.tape.trans HG4.out.tape, k5.output.trans HG4.out.output, Nat.le_trans HG4.out.size k5.size, fun b hb hne => (k5.block b (Nat.lt_of_lt_of_le hb HG4.out.size) hne (by rw [← HB0.out] at hb; omega)).trans (HG4.out.block b hb)⟩
  have h5s : b0 + 4 ≤ w5.heap.size := by rw [← HS4.out]; exact k5.size
  have HKR5 := Lib.hid hkr5
  have HR := Lib.hid hR
  have HL5 := Lib.hid hL
  have HLEN := Lib.hid hlen
  have HS5 := Lib.hid s5
  have HRM := Lib.hid hrm
  have HV5 := Lib.hid v5
  have HC5 := Lib.hid c5
  have cc := c5.cell
  clear cP hR k5 hL hlen s5 hrm hkr5 v5 c5
  go_wp2_with fail
  refine cK.mono ?_; rintro en w6 ⟨rfl, rfl⟩
  obtain ⟨z, hz⟩ : ∃ z, z = ns.length := ⟨_, rfl⟩
  rw [← hz] at cS
  have HZ := Lib.hid hz
  clear cK hz
  go_wp2_with fail
  refine cS.mono ?_; rintro en w7 ⟨na, nc, rfl, hN, hb7⟩
  have b7 : Below w5.heap.size w5 w7 := ((Below.refl w5.heap.size w5).alloc (Nat.le_refl _) (.cells #[.map (some (b0 + 2))] 120)).trans (hb7.mono (by omega))
  obtain ⟨ob, hob⟩ : ∃ b, b = w7.heap.size := ⟨_, rfl⟩
  obtain ⟨W8, hW8⟩ : ∃ W, W = w7.alloc (.cells #[.int .u8 5, .int .i64 0, .string ⟨#[]⟩, .slice na z nc, .slice none 0 0] 26) := ⟨_, rfl⟩
  have g8 : Below w7.heap.size w7 W8 := by rw [hW8]; exact (Below.refl _ _).alloc (Nat.le_refl _) _
  have b8 : Below w5.heap.size w5 W8 := b7.trans (g8.mono b7.size)
  have h58 : w5.heap.size ≤ ob := by rw [hob]; exact b7.size
  have O8 : VAt ob W8 (.int .u8 5) (.int .i64 0) (.string ⟨#[]⟩) (.slice na z nc) (.slice none 0 0) := by rw [hW8, hob]; exact VAt.new ..
  have N8 : W8.ownsRow (w5.heap.size + 1) 9 1 (.slice na z nc) z (NC ns) := by rw [hW8]; exact hN.alloc _
  have hnlow : ∀ b, (Value.slice na z nc).ownBlock = some b → b < ob := fun b e => by rw [hob]; exact (hN.lt b e).2
  have HI0 : Hid (OI rb (b0 + 2) ob w W8 ns is 0 (.slice na z nc) (.slice none 0 0)) := by
    obtain ⟨vs, m1, m2, m3⟩ := HL5.out.row
    have hl5 := HL5.out.size
    refine ⟨HKR5.out.trans (Kr.of_below b8), by rw [← HB0.out]; omega, by rw [← HB0.out]; exact hrb, ⟨vs, owns_stay m1 (b8.block _ hl5), VS.stay (fun b hb hl => ⟨⟨hb.1, by omega⟩, b8.block b hl⟩) m2, m3⟩, HL5.out.rise, by omega, ?_, hnlow, O8, [], World.ownsRow_nil .., HCSp.nil _ _⟩
    rw [← HZ.out]
    exact ⟨N8.1, by
      rcases N8.2 with h | ⟨g, cap, cur, h1, h2, h3⟩
      · exact .inl h
      · exact .inr ⟨g, cap, cur, h1, by omega, h3⟩⟩
  have HC8 : Hid (CB (b0 + 3) (b0 + 2) W8) := (b8.block _ (Array.getElem?_eq_some_iff.1 HC5.out).1).trans HC5.out
  have HV8 : Hid (VAt (b0 + 1) W8 (.int .u8 0) (.int .i64 0) (.string ⟨#[]⟩) (.slice none 0 0) (.slice none 0 0)) := HV5.out.below b8
  have HS8 := Lib.hid (HS5.out.grow b8)
  have HN8 := Lib.hid N8
  have hobb : b0 + 4 ≤ ob := by omega
  clear cS hN hb7 b7 g8 b8 O8 N8 hnlow
  go_wp2_with fail
  rw [← hW8, ← hob]
  clear hW8 hob cc
  have hz6 : z ≤ 60000 := by rw [HZ.out]; exact hnl
  go_loopw [20] (fun iv wr => ∃ i : Nat, iv = .int .i64 (i : Int) ∧ i ≤ z ∧ ∃ xv, OI rb (b0 + 2) ob w wr ns is i (.slice na z nc) xv ∧ CB (b0 + 3) (b0 + 2) wr ∧ VAt (b0 + 1) wr (.int .u8 0) (.int .i64 0) (.string ⟨#[]⟩) (.slice none 0 0) (.slice none 0 0) ∧ RS w0 rb l wr p' pl' n' (d + 1)) (fun iv _ => z - (intOf iv).toNat)
  case atStart => exact ⟨0, rfl, Nat.zero_le _, _, HI0.out, HC8.out, HV8.out, HS8.out⟩
  case round =>
    obtain ⟨i, rfl, hi, xv, hO, hC, hV, hRS⟩ := hrel
    clear HI0 HC8 HV8 HS8
    obtain ⟨xa, xc, rfl⟩ : ∃ xa xc, xv = .slice xa i xc := by
      obtain ⟨cs, h1, _⟩ := hO.own
      exact len_slice h1
    by_cases hlt : (i : Int) < (z : Int)
    · have hiz : i < ns.length := by rw [← HZ.out]; omega
      obtain ⟨q, hq⟩ : ∃ q, ns[i]? = some q := ⟨_, List.getElem?_eq_getElem hiz⟩
      have hql : q.length ≤ maxLen := HL5.out.names_le q (List.mem_of_getElem? hq)
      obtain ⟨uk, un, ut, ua, ub, ui, uj, uca, ucb, pb, lb, kb, U3, w4, hU3, hlk, hap, O4, lo4, s4, hO'⟩ := hO.step hiz hnl hq hql
      have hnown := hO.nown
      obtain ⟨g, hg⟩ : ∃ g, na = some ⟨g, 0, none⟩ := by
        rcases hnown.2 with ⟨_, h0⟩ | ⟨g, cap, cur, e0, _⟩
        · omega
        · simp only [Value.slice.injEq] at e0
          exact ⟨g, e0.1⟩
      subst hg
      have hname : wr.cell? ⟨g, i, none⟩ = some (.string (S q)) := by
        have := hnown.cells (g := g) rfl i (.string (S q)) (by simp [NC, hq])
        rw [show ((⟨g, 0, none⟩ : Addr).add i) = ⟨g, i, none⟩ by simp [Addr.add]; omega] at this
        exact this
      obtain ⟨⟨y0, y1, y2, y3, y4⟩, yf⟩ := hO.out.cells
      obtain ⟨⟨o0, o1, o2, o3, o4⟩, of⟩ := O4.cells
      have cc := hC.cell
      have HO' := Lib.hid hO'
      have hC' : Hid (CB (b0 + 3) (b0 + 2) (w4.setCell ⟨ob, 4, none⟩ (.slice pb lb kb))) := (heap_setCell_other w4 ⟨ob, 4, none⟩ (b0 + 3) _ (by show b0 + 3 ≠ ob; omega)).trans ((lo4 (b0 + 3) (by omega)).trans hC)
      have hV' : Hid (VAt (b0 + 1) (w4.setCell ⟨ob, 4, none⟩ (.slice pb lb kb)) (.int .u8 0) (.int .i64 0) (.string ⟨#[]⟩) (.slice none 0 0) (.slice none 0 0)) := (heap_setCell_other w4 ⟨ob, 4, none⟩ (b0 + 1) _ (by show b0 + 1 ≠ ob; omega)).trans ((lo4 (b0 + 1) (by omega)).trans hV)
      have hS' : Hid (RS w0 rb l (w4.setCell ⟨ob, 4, none⟩ (.slice pb lb kb)) p' pl' n' (d + 1)) := by
        have hb := hRS.below
        have k' := hO'.kr
        have k1 := hO.kr
        have ho := fun (b : Nat) (h : b < ob) => (heap_setCell_other w4 ⟨ob, 4, none⟩ b (.slice pb lb kb) (by show b ≠ ob; omega)).trans (lo4 b h)
        have hw0' := hw0.out
        exact hRS.other (ho rb (by omega)) ⟨k'.os.trans (k1.os.symm.trans hb.os), k'.tape.trans (k1.tape.symm.trans hb.tape), k'.output.trans (k1.output.symm.trans hb.output), by have := hb.size; simp; omega, fun b h => (ho b (by omega)).trans (hb.block b h)⟩
      rw [hU3] at hap
      clear hO hC hV hRS hO' hnown hq hiz hql O4 lo4
      go_wp2_with (at_builtin; refine Lib.wpList_append_run _ rfl _ _ _ _ rfl _ _ rfl rfl _ _ hap ?_)
      go_roundw
      case rel => exact ⟨i + 1, by go_num, by omega, _, HO'.out, hC'.out, hV'.out, hS'.out⟩
      case measure => simp [intOf]; omega
    · obtain rfl : i = z := by omega
      have HH := Lib.hid (hO.hf HZ.out hnl HL5.out.names_le)
      have HKr := Lib.hid hO.kr
      have HVz := Lib.hid hV
      have HSz := Lib.hid hRS
      obtain ⟨⟨o0, o1, o2, o3, o4⟩, of⟩ := hO.out.cells
      obtain ⟨⟨y0, y1, y2, y3, y4⟩, yf⟩ := hV.cells
      clear hO hC hV hRS
      go_wp2_with fail
      refine bodyPost_ret (results_val (fn := Tryz.f81) (t := 2) (u := 3) rfl _ _ rfl (HVz.out.set5 _ _ _ _ _) rfl) rfl ?_
      have hk : w.heap.size ≤ b0 + 1 := by rw [← HB0.out]; omega
      exact ⟨r, HR.out, HKr.out.five hk _ _ _ _ _, _, _, p', pl', n', e, rfl, HH.out.stay (fun b hb _ => ⟨by omega, mk5_other wr (b0 + 1) b (by omega) _ _ _ _ _⟩), HSz.out.lex (by have := hw0.out; omega) (by omega) _ _ _ _ _, HRM.out⟩
end

section
open Go.RowKit

/-- from's own blocks: the mark's box, the result's -/
theorem from_head {w0 w : World} {rb : Nat} {l : List UInt8} {p pl n d : Nat} (hS : RS w0 rb l w p pl n d) (v0 v1 v2 v3 v4 : Value) :
    ∃ W2, W2 = (w.alloc (.cells #[v0, v1, v2, v3, v4] 52)).alloc (.cells #[.int .u8 0, .int .i64 0, .string ⟨#[]⟩, .slice none 0 0, .slice none 0 0] 26) ∧ Below w.heap.size w W2 ∧ MkAt w.heap.size W2 v0 v1 v2 v3 v4 ∧ VAt (w.heap.size + 1) W2 (.int .u8 0) (.int .i64 0) (.string ⟨#[]⟩) (.slice none 0 0) (.slice none 0 0) ∧ RS w0 rb l W2 p pl n d := by
  obtain ⟨W1, hW1⟩ : ∃ W, W = w.alloc (.cells #[v0, v1, v2, v3, v4] 52) := ⟨_, rfl⟩
  obtain ⟨W2, hW2⟩ : ∃ W, W = W1.alloc (.cells #[.int .u8 0, .int .i64 0, .string ⟨#[]⟩, .slice none 0 0, .slice none 0 0] 26) := ⟨_, rfl⟩
  have s1 : W1.heap.size = w.heap.size + 1 := by rw [hW1]; simp
  have g1 : Below w.heap.size w W1 := by rw [hW1]; exact (Below.refl _ _).alloc (Nat.le_refl _) _
  have g12 : Below W1.heap.size W1 W2 := by rw [hW2]; exact (Below.refl _ _).alloc (Nat.le_refl _) _
  have g2 := g1.trans (g12.mono g1.size)
  have M1 : MkAt w.heap.size W1 v0 v1 v2 v3 v4 := by rw [hW1]; exact MkAt.new ..
  refine ⟨W2, by rw [hW2, hW1], g2, (g12.block _ (by rw [s1]; omega)).trans M1, by rw [hW2, ← s1]; exact VAt.new .., hS.grow g2⟩
set_option maxHeartbeats 4000000 in
set_option maxRecDepth 5000 in
theorem from_step {w0 : World} {rb : Nat} {l : List UInt8} {E : Nat × Nat} {K : Nat} (hF : FromOK w0 rb l E K) : FromOK w0 rb l E (K + 1) := by
  intro m ms w p n d kI aI bI hlen hS hT hm hn hd hk ha hb
  obtain ⟨W2, hW2, g2, M2, V2, S2⟩ := from_head hS (.int .u8 kI) (.int .i64 aI) (.int .i64 bI) (.int .i64 m.n) (.string (S m.t))
  obtain ⟨b1, hb1⟩ : ∃ b, b = w.heap.size + 1 := ⟨_, rfl⟩
  rw [← hb1] at V2
  have hrb : rb < w.heap.size := hS.lt
  have hw0 : Hid (w0.heap.size ≤ w.heap.size) := hS.below.size
  have HG2 := Lib.hid g2
  have HV2 := Lib.hid V2
  have HM2 := Lib.hid M2
  have HS2 := Lib.hid S2
  have HT := Lib.hid hT
  have HMK := Lib.hid hm
  have HFF := Lib.hid hF
  have HLEN : Hid (ms.length ≤ K) := by show ms.length ≤ K; simp at hlen; omega
  have HK := Lib.hid hk
  have HB1 := Lib.hid hb1
  obtain ⟨cb, hcb⟩ : ∃ c, Rd.begins m.k = c := ⟨_, rfl⟩
  have cB := rbegins_any m.k kI aI bI m.n (S m.t) W2 hk hcb
  have HCB := Lib.hid hcb
  obtain ⟨⟨y0, y1, y2, y3, y4⟩, yf⟩ := MkAt.cells M2
  obtain ⟨⟨q0, q1, q2, q3, q4⟩, qf⟩ := VAt.cells V2
  clear g2 V2 M2 S2 hS hT hm hF hlen hcb ha hb hk hb1
  rw [hW2] at y0 y1 y2 y3 y4 yf
  go_enter Tryz.func61, Tryz.ntmps61
  go_wp2_with fail
  rw [← hW2, ← HB1.out]
  clear hW2 y0 y1 y2 y3 y4 yf q0 q1 q2 q3 q4 qf
  refine cB.mono ?_; rintro en w3 ⟨rfl, g3⟩
  have S3 := HS2.out.grow g3
  have HG3 := Lib.hid (HG2.out.trans (g3.mono HG2.out.size))
  have HV3 := Lib.hid (HV2.out.below g3)
  have HM3 : Hid (MkAt w.heap.size w3 (.int .u8 kI) (.int .i64 aI) (.int .i64 bI) (.int .i64 m.n) (.string (S m.t))) := (g3.block _ (Array.getElem?_eq_some_iff.1 HM2.out).1).trans HM2.out
  have HS3 := Lib.hid S3
  clear cB g3 S3
  have hb1 : b1 ≠ rb := by rw [HB1.out]; omega
  -- a result that is told
  have EX : ∀ (w' : World) (r : Rd.Res), (∃ f, Rd.P E f .v (m :: ms) n d = some r) → Kr rb w w' → ∀ (u : Value) (y : JV) (p' pl' n' e : Nat) {en : Ending}, en = .returned (.tuple #[u, .int .i64 (e : Int)]) → HF w.heap.size w' u y → RS w0 rb l w' p' pl' n' d → RM l E p' pl' n' e y r → ∃ f r, Rd.P E f .v (m :: ms) n d = some r ∧ FRes w0 rb l E d w r en w' := fun w' r hf k u y p' pl' n' e en he hu hs hr => by
    obtain ⟨f, hf⟩ := hf
    exact ⟨f, r, hf, k, u, y, p', pl', n', e, he, hu, hs, hr⟩
  have HEX := Lib.hid EX
  clear EX
  cases cb with
  | false =>
    obtain ⟨⟨q0, q1, q2, q3, q4⟩, qf⟩ := VAt.cells HV3.out
    go_wp2_with fail
    refine bodyPost_ret (results_val (fn := Tryz.f61) (t := 4) (u := 5) rfl _ _ rfl (HV3.out.set5 _ _ _ _ _) rfl) rfl ?_
    have hw1 : w.heap.size ≤ b1 := by rw [HB1.out]; omega
    exact HEX.out _ _ ⟨1, Rd.P_v' (f := 0) (.form HCB.out)⟩ ((Kr.of_below HG3.out).five hw1 _ _ _ _ _) _ (.mk 0 0 [] [] []) p m.a n 3 rfl (HF.zero _ _) (HS3.out.lex (by have := hw0.out; omega) hb1.symm _ _ _ _ _) ⟨rfl, by decide, rfl⟩
  | true =>
    obtain ⟨nI, hnI⟩ : ∃ z : Int, z = (n : Int) := ⟨_, rfl⟩
    obtain ⟨zI, hzI⟩ : ∃ z : Int, z = ((n + 1 : Nat) : Int) := ⟨_, rfl⟩
    have hw1 : wrap64 (nI + 1) = zI := by unfold wrap64; omega
    obtain ⟨W4, hW4⟩ : ∃ W, W = w3.setCell ⟨rb, 3, none⟩ (.int .i64 zI) := ⟨_, rfl⟩
    have S4 : RS w0 rb l W4 p m.a (n + 1) d := by rw [hW4, hzI]; exact HS3.out.count _
    have V4 : VAt b1 W4 (.int .u8 0) (.int .i64 0) (.string ⟨#[]⟩) (.slice none 0 0) (.slice none 0 0) := by rw [hW4]; exact (heap_setCell_other w3 ⟨rb, 3, none⟩ b1 _ (by show b1 ≠ rb; omega)).trans HV3.out
    have M4 : MkAt w.heap.size W4 (.int .u8 kI) (.int .i64 aI) (.int .i64 bI) (.int .i64 m.n) (.string (S m.t)) := by rw [hW4]; exact (heap_setCell_other w3 ⟨rb, 3, none⟩ w.heap.size _ (by show w.heap.size ≠ rb; omega)).trans HM3.out
    have HK4 : Hid (Kr rb w W4) := by rw [hW4]; exact (Kr.of_below HG3.out).set 3 _
    have HS4 := Lib.hid S4
    have HV4 := Lib.hid V4
    obtain ⟨⟨r0, r1, r2, r3, r4⟩, rf⟩ := row5_cells HS3.out.at'
    rw [← hnI] at r3
    obtain ⟨⟨t0, t1, t2, t3, t4⟩, tf⟩ := row5_cells S4.at'
    rw [← hzI] at t3
    obtain ⟨⟨q0, q1, q2, q3, q4⟩, qf⟩ := VAt.cells V4
    obtain ⟨⟨y0, y1, y2, y3, y4⟩, yf⟩ := MkAt.cells M4
    have HNI := Lib.hid hnI
    have HZI := Lib.hid hzI
    clear S4 V4 M4 hnI hzI r0 r1 r2 r4 t0 t1 t2 t4
    rw [hW4] at q0 q1 q2 q3 q4 qf y0 y1 y2 y3 y4 yf t3 tf
    by_cases h8 : (8192 : Int) < zI
    · have hn8 : Hid (8192 ≤ n) := by have := HZI.out; show 8192 ≤ n; omega
      go_wp2_with fail
      rw [← hW4]
      refine bodyPost_ret (results_val (fn := Tryz.f61) (t := 4) (u := 5) rfl _ _ rfl (HV4.out.set5 _ _ _ _ _) rfl) rfl ?_
      have hw1 : w.heap.size ≤ b1 := by rw [HB1.out]; omega
      exact HEX.out _ _ ⟨1, Rd.P_v' (f := 0) (.long HCB.out hn8.out)⟩ (HK4.out.five hw1 _ _ _ _ _) _ (.mk 0 0 [] [] []) p m.a (n + 1) 5 rfl (HF.zero _ _) (HS4.out.lex (by have := hw0.out; omega) hb1.symm _ _ _ _ _) ⟨rfl, by decide, rfl⟩
    have hn1 : n + 1 ≤ 8192 := by have := HZI.out; omega
    have hn2 : Hid (n < 8192) := hn1
    by_cases h3 : kI = 3
    · subst h3
      have hk : Hid (m.k = 3) := by have := HK.out; show m.k = 3; omega
      have cN := nested_any (Q := RL E d ms (n + 1)) HS4.out hd (.inl rfl) fun hlt W hW => list_any HFF.out HLEN.out hW HT.out hn1 (by omega)
      go_wp2_with fail
      rw [← hW4]
      clear hW4 q0 q1 q2 q3 q4 qf y0 y1 y2 y3 y4 yf r3 rf t3 tf
      refine cN.mono ?_; rintro en w5 ⟨r, hr, k5, u, y, p', pl', n', e, rfl, hu, s5, hrm⟩
      obtain ⟨uk, un, ut, ua, ub, ui, uj, uca, ucb, rfl⟩ := hu.open'
      have V5' := HV4.out.kr hb1 k5
      have HV5 := Lib.hid V5'
      obtain ⟨⟨q0, q1, q2, q3, q4⟩, qf⟩ := VAt.cells V5'
      have h45 : b1 < W4.heap.size := (Array.getElem?_eq_some_iff.1 HV4.out).1
      have HH := Lib.hid hu
      have HK5 := Lib.hid (HK4.out.trans k5)
      have HS5 := Lib.hid s5
      have HR := Lib.hid hr
      have HRM := Lib.hid hrm
      clear cN hr k5 hu s5 hrm V5'
      go_wp2_with fail
      refine bodyPost_ret (results_val (fn := Tryz.f61) (t := 4) (u := 5) rfl _ _ rfl (HV5.out.set5 _ _ _ _ _) rfl) rfl ?_
      have hw1 : w.heap.size ≤ b1 := by rw [HB1.out]; omega
      refine HEX.out _ r ?_ (HK5.out.five hw1 _ _ _ _ _) _ y p' pl' n' e rfl (HH.out.stay (fun b hb _ => ⟨by omega, mk5_other w5 b1 b (by omega) _ _ _ _ _⟩)) (HS5.out.lex (by have := hw0.out; omega) hb1.symm _ _ _ _ _) HRM.out
      · rcases HR.out with ⟨h12, rfl⟩ | ⟨hlt, ⟨rfl, rfl⟩ | ⟨m1, ms2, rfl, h4, rfl⟩ | ⟨m1, ms2, f, rfl, h4, hP⟩⟩
        · exact ⟨1, Rd.P_v' (f := 0) (.deep (.inr hk.out) hn2.out (by omega))⟩
        · exact ⟨1, Rd.P_v' (f := 0) (.cut (.inr hk.out) hn2.out hlt)⟩
        · exact ⟨1, Rd.P_v' (f := 0) (.nolist hk.out hn2.out hlt h4)⟩
        · exact ⟨f + 1, Rd.P_v' (.list hk.out hn2.out hlt h4 hP)⟩
    by_cases h1 : kI = 1
    · subst h1
      have hk : Hid (m.k = 1) := by have := HK.out; show m.k = 1; omega
      have cN := nested_any (Q := RO E d ms (n + 1)) HS4.out hd (.inr rfl) fun hlt W hW => object_any HFF.out HLEN.out hW HT.out hn1 (by omega)
      go_wp2_with fail
      rw [← hW4]
      clear hW4 q0 q1 q2 q3 q4 qf y0 y1 y2 y3 y4 yf r3 rf t3 tf
      refine cN.mono ?_; rintro en w5 ⟨r, hr, k5, u, y, p', pl', n', e, rfl, hu, s5, hrm⟩
      obtain ⟨uk, un, ut, ua, ub, ui, uj, uca, ucb, rfl⟩ := hu.open'
      have V5' := HV4.out.kr hb1 k5
      have HV5 := Lib.hid V5'
      obtain ⟨⟨q0, q1, q2, q3, q4⟩, qf⟩ := VAt.cells V5'
      have h45 : b1 < W4.heap.size := (Array.getElem?_eq_some_iff.1 HV4.out).1
      have HH := Lib.hid hu
      have HK5 := Lib.hid (HK4.out.trans k5)
      have HS5 := Lib.hid s5
      have HR := Lib.hid hr
      have HRM := Lib.hid hrm
      clear cN hr k5 hu s5 hrm V5'
      go_wp2_with fail
      refine bodyPost_ret (results_val (fn := Tryz.f61) (t := 4) (u := 5) rfl _ _ rfl (HV5.out.set5 _ _ _ _ _) rfl) rfl ?_
      have hw1 : w.heap.size ≤ b1 := by rw [HB1.out]; omega
      refine HEX.out _ r ?_ (HK5.out.five hw1 _ _ _ _ _) _ y p' pl' n' e rfl (HH.out.stay (fun b hb _ => ⟨by omega, mk5_other w5 b1 b (by omega) _ _ _ _ _⟩)) (HS5.out.lex (by have := hw0.out; omega) hb1.symm _ _ _ _ _) HRM.out
      · rcases HR.out with ⟨h12, rfl⟩ | ⟨hlt, ⟨rfl, rfl⟩ | ⟨m1, ms2, rfl, h4, rfl⟩ | ⟨m1, ms2, f, rfl, h4, hP⟩⟩
        · exact ⟨1, Rd.P_v' (f := 0) (.deep (.inl hk.out) hn2.out (by omega))⟩
        · exact ⟨1, Rd.P_v' (f := 0) (.cut (.inl hk.out) hn2.out hlt)⟩
        · exact ⟨1, Rd.P_v' (f := 0) (.noobj hk.out hn2.out hlt h4)⟩
        · exact ⟨f + 1, Rd.P_v' (.obj hk.out hn2.out hlt h4 hP)⟩
    have hk7 : 7 ≤ m.k := by
      have h := HCB.out
      unfold Rd.begins at h
      simp at h
      have := HK.out
      omega
    have hk7' := Lib.hid hk7
    have e3 : (kI == 3) = false := beq_eq_false_iff_ne.2 h3
    have e1 : (kI == 1) = false := beq_eq_false_iff_ne.2 h1
    have cN := alone_any m kI aI bI W4 HK.out hk7 HMK.out.1.2 HMK.out.2.1 (by have := HMK.out.2.2.1; unfold maxLen; omega)
    clear h3 h1 hk7
    go_wp2_with fail
    rw [← hW4]
    clear hW4 q0 q1 q2 q3 q4 qf y0 y1 y2 y3 y4 yf r3 rf t3 tf
    refine cN.mono ?_; rintro en w5 ⟨⟨u, rfl, hu⟩, g5⟩
    have hu5 := hu w.heap.size w5
    obtain ⟨uk, un, ut, ua, ub, ui, uj, uca, ucb, rfl⟩ := hu5.open'
    have V5' := HV4.out.below g5
    have HV5 := Lib.hid V5'
    obtain ⟨⟨q0, q1, q2, q3, q4⟩, qf⟩ := VAt.cells V5'
    have HH := Lib.hid hu
    have HK5 := Lib.hid (HK4.out.trans (Kr.of_below g5))
    have HS5 := Lib.hid (HS4.out.grow g5)
    clear cN hu hu5 g5 V5'
    go_wp2_with fail
    refine bodyPost_ret (results_val (fn := Tryz.f61) (t := 4) (u := 5) rfl _ _ rfl (HV5.out.set5 _ _ _ _ _) rfl) rfl ?_
    have hw1 : w.heap.size ≤ b1 := by rw [HB1.out]; omega
    exact HEX.out _ (.ok (Rd.atom m) ms (n + 1)) ⟨1, Rd.P_v' (f := 0) (.atom HCB.out hn2.out hk7'.out)⟩ (HK5.out.five hw1 _ _ _ _ _) _ (Rd.atom m) p m.a (n + 1) 0 rfl (HH.out _ _) (HS5.out.lex (by have := hw0.out; omega) hb1.symm _ _ _ _ _) ⟨rfl, rfl, rfl, HT.out⟩
theorem from_all {w0 : World} {rb : Nat} {l : List UInt8} {E : Nat × Nat} : ∀ K, FromOK w0 rb l E K
  | 0 => fun m ms w p n d kI aI bI h => by simp at h
  | K + 1 => from_step (from_all K)
end

section
open Go.RowKit

/-- what the whole text comes to: value, place, error, out of what its first value comes to -/
def RT (E : Nat × Nat) : Rd.Res → JV → Nat → Nat → Prop
  | .bad p e, _, pl, er => er = e ∧ pl = p ∧ e ≠ 0
  | .ok x [] _, y, pl, er => er = E.2 ∧ (E.2 = 0 → y = x) ∧ (E.2 ≠ 0 → pl = E.1)
  | .ok _ (m :: _) _, _, pl, er => er = 11 ∧ pl = m.a
theorem VAt.five {b B : Nat} {w : World} {c0 c1 c2 c3 c4 : Value} (h : VAt b w c0 c1 c2 c3 c4) (hne : b ≠ B) (v0 v1 v2 v3 v4 : Value) : VAt b (((((w.setCell ⟨B, 0, none⟩ v0).setCell ⟨B, 1, none⟩ v1).setCell ⟨B, 2, none⟩ v2).setCell ⟨B, 3, none⟩ v3).setCell ⟨B, 4, none⟩ v4) c0 c1 c2 c3 c4 := (mk5_other w B b hne _ _ _ _ _).trans h
/-- the next mark, told by what there is -/
theorem TS.take {l : List UInt8} {p : Nat} {ms : List Lm.Mark} {E : Nat × Nat} (h : TS l p ms E) : ∃ m e, Lm.mark l (Lm.skip l p) = (m, e) ∧ ((ms = [] ∧ e = E.2 ∧ E.1 = (if e = 0 then m.a else Lm.skip l p) ∧ (e = 0 → m.k = 11)) ∨ (∃ ms1, ms = m :: ms1 ∧ e = 0 ∧ m.k ≠ 11)) := by
  cases h with
  | stop h => exact ⟨_, _, h, .inl ⟨rfl, rfl, rfl, fun _ => rfl⟩⟩
  | bad h he => exact ⟨_, _, h, .inl ⟨rfl, rfl, (if_neg he).symm, fun h0 => absurd h0 he⟩⟩
  | more h hk hs => exact ⟨_, _, h, .inr ⟨_, rfl, rfl, hk⟩⟩
set_option maxHeartbeats 4000000 in
set_option maxRecDepth 5000 in
theorem whole_any {w0 w : World} {rb : Nat} {l : List UInt8} {E : Nat × Nat} {ms : List Lm.Mark} {pl : Nat} (hS : RS w0 rb l w 0 pl 0 0) (hT : TS l 0 ms E) :
    Calls Tryz.prog 26 #[.pointer (some ⟨rb, 0, none⟩)] w fun en w' => ∃ f r, Rd.P E f .v ms 0 0 = some r ∧ Kr rb w w' ∧ ∃ (u : Value) (y : JV) (p' pl' n' e : Nat), en = .returned (.tuple #[u, .int .i64 (e : Int)]) ∧ HF w.heap.size w' u y ∧ RS w0 rb l w' p' pl' n' 0 ∧ RT E r y pl' e := by
  obtain ⟨b0, hb0⟩ : ∃ b, b = w.heap.size := ⟨_, rfl⟩
  obtain ⟨W1, hW1⟩ : ∃ W, W = w.alloc (.cells #[.int .u8 0, .int .i64 0, .string ⟨#[]⟩, .slice none 0 0, .slice none 0 0] 26) := ⟨_, rfl⟩
  have g1 : Below w.heap.size w W1 := by rw [hW1]; exact (Below.refl _ _).alloc (Nat.le_refl _) _
  have V1 : VAt b0 W1 (.int .u8 0) (.int .i64 0) (.string ⟨#[]⟩) (.slice none 0 0) (.slice none 0 0) := by rw [hW1, hb0]; exact VAt.new ..
  have S1 := hS.grow g1
  have hrb : rb < b0 := by have := hS.lt; omega
  have hw0 : Hid (w0.heap.size ≤ b0) := by rw [hb0]; exact hS.below.size
  have hne : b0 ≠ rb := by omega
  have cV := rvalue_any (from_all ms.length) (Nat.le_refl _) S1 hT (Nat.zero_le _) (Nat.zero_le _)
  have HG1 := Lib.hid g1
  have HB0 := Lib.hid hb0
  have HV1 := Lib.hid V1
  have hB : w.heap.size ≤ b0 := by omega
  clear S1 g1 V1 hS hT
  go_enter Tryz.func26, Tryz.ntmps26
  go_wp2_with fail
  rw [← hW1, ← hb0]
  clear hW1 hb0
  refine cV.mono ?_; rintro en w2 ⟨f, r, hP, k2, u, y, p', pl', n', e, rfl, hu, s2, hr⟩
  obtain ⟨uk, un, ut, ua, ub, ui, uj, uca, ucb, rfl⟩ := hu.open'
  obtain ⟨b2, hb2⟩ : ∃ b, b = w2.heap.size := ⟨_, rfl⟩
  obtain ⟨W3, hW3⟩ : ∃ W, W = w2.alloc (.cells #[.int .u8 uk, .int .i64 un, .string ut, .slice ua ui uca, .slice ub uj ucb] 26) := ⟨_, rfl⟩
  have g3 : Below w2.heap.size w2 W3 := by rw [hW3]; exact (Below.refl _ _).alloc (Nat.le_refl _) _
  have h02 : Hid (b0 < w2.heap.size) := Nat.lt_of_lt_of_le (Array.getElem?_eq_some_iff.1 HV1.out).1 k2.size
  have V3 := (HV1.out.kr hne k2).below g3
  have U3 : VAt b2 W3 (.int .u8 uk) (.int .i64 un) (.string ut) (.slice ua ui uca) (.slice ub uj ucb) := by rw [hW3, hb2]; exact VAt.new ..
  have h1s : b0 + 1 ≤ W1.heap.size := (Array.getElem?_eq_some_iff.1 HV1.out).1
  have HF3 : Hid (HF (b0 + 1) W3 (.agg #[.int .u8 uk, .int .i64 un, .string ut, .slice ua ui uca, .slice ub uj ucb]) y) := hu.stay fun b hb hl => ⟨by omega, g3.block b hl⟩
  have HK3 : Hid (Kr rb w W3) := ((Kr.of_below HG1.out).trans k2).trans (Kr.of_below g3)
  have S3 := s2.grow g3
  have HS3 := Lib.hid S3
  have HV3 := Lib.hid V3
  have HU3 := Lib.hid U3
  have HP := Lib.hid hP
  have HR := Lib.hid hr
  obtain ⟨⟨q0, q1, q2, q3, q4⟩, qf⟩ := VAt.cells V3
  obtain ⟨eI, heI⟩ : ∃ L : Int, L = (e : Int) := ⟨_, rfl⟩
  have HE := Lib.hid heI
  rw [← heI]
  clear cV hP k2 hu s2 hr g3 V3 U3 S3 heI
  rw [hW3] at q0 q1 q2 q3 q4 qf
  by_cases he : eI = 0
  case neg =>
    have hb : (eI != 0) = true := bne_iff_ne.2 he
    have he0 : Hid (e ≠ 0) := by have := HE.out; show e ≠ 0; omega
    clear he
    go_wp2_with fail
    rw [← hW3]
    refine bodyPost_ret (results_val (fn := Tryz.f26) (t := 2) (u := 3) rfl _ _ rfl (HV3.out.set5 _ _ _ _ _) rfl) rfl ?_
    refine ⟨f, r, HP.out, HK3.out.five hB _ _ _ _ _, _, .mk 0 0 [] [] [], p', pl', n', e, by rw [HE.out]; rfl, HF.zero _ _, HS3.out.lex hw0.out hne.symm _ _ _ _ _, ?_⟩
    have hR := HR.out
    cases r with
    | ok x ms' n4 => exact absurd hR.1 he0.out
    | bad p1 er => exact ⟨hR.1, hR.2.2, hR.2.1⟩
  subst he
  obtain ⟨x, ms', n4, rfl, hn4, hy, T3⟩ : ∃ x ms' n4, r = .ok x ms' n4 ∧ n' = n4 ∧ y = x ∧ TS l p' ms' E := by
    have hR := HR.out
    have := HE.out
    cases r with
    | ok x ms' n4 => exact ⟨x, ms', n4, rfl, hR.2.2.1, hR.2.1, hR.2.2.2⟩
    | bad p1 er =>
      have h1 := hR.1
      have h2 := hR.2.1
      omega
  obtain ⟨m, te, hm, hways⟩ := T3.take
  have cT := take_any HS3.out hm
  have HWY := Lib.hid hways
  have HYX := Lib.hid hy
  obtain ⟨kI, hkI⟩ : ∃ L : Int, L = ((m.k : Nat) : Int) := ⟨_, rfl⟩
  obtain ⟨aI, haI⟩ : ∃ L : Int, L = ((m.a : Nat) : Int) := ⟨_, rfl⟩
  obtain ⟨bI, hbI⟩ : ∃ L : Int, L = ((m.b : Nat) : Int) := ⟨_, rfl⟩
  obtain ⟨tI, htI⟩ : ∃ L : Int, L = ((te : Nat) : Int) := ⟨_, rfl⟩
  have cT : Calls Tryz.prog 42 #[.pointer (some ⟨rb, 0, none⟩)] W3 fun en w' => en = .returned (.tuple #[.agg #[.int .u8 kI, .int .i64 aI, .int .i64 bI, .int .i64 m.n, .string (S m.t)], .int .i64 tI]) ∧ Kr rb W3 w' ∧ RS w0 rb l w' (if te = 0 then m.b else p') (if te = 0 then m.a else Lm.skip l p') n' 0 := by
    rw [hkI, haI, hbI, htI]
    exact cT
  have HKI := Lib.hid hkI
  have HTI := Lib.hid htI
  clear hm hways hy hkI haI hbI htI T3
  go_wp2_with fail
  rw [← hW3, ← hb2]
  clear hW3 q0 q1 q2 q3 q4 qf
  refine cT.mono ?_; rintro en w4 ⟨rfl, k4, s4⟩
  obtain ⟨W5, hW5⟩ : ∃ W, W = w4.alloc (.cells #[.int .u8 kI, .int .i64 aI, .int .i64 bI, .int .i64 m.n, .string (S m.t)] 52) := ⟨_, rfl⟩
  have g5 : Below w4.heap.size w4 W5 := by rw [hW5]; exact (Below.refl _ _).alloc (Nat.le_refl _) _
  have hne2 : b2 ≠ rb := by have := h02.out; omega
  have V5' := (HV3.out.kr hne k4).below g5
  have U5 := (HU3.out.kr hne2 k4).below g5
  have M5 : MkAt w4.heap.size W5 (.int .u8 kI) (.int .i64 aI) (.int .i64 bI) (.int .i64 m.n) (.string (S m.t)) := by rw [hW5]; exact MkAt.new ..
  have HK5 := Lib.hid ((HK3.out.trans k4).trans (Kr.of_below g5))
  have HS5 := Lib.hid (s4.grow g5)
  have HF5 : Hid (HF (b0 + 1) W5 (.agg #[.int .u8 uk, .int .i64 un, .string ut, .slice ua ui uca, .slice ub uj ucb]) y) := HF3.out.stay fun b hb hl => ⟨hb, (g5.block b (Nat.lt_of_lt_of_le hl k4.size)).trans (k4.block b hl (by omega))⟩
  have HV5 := Lib.hid V5'
  obtain ⟨⟨q0, q1, q2, q3, q4⟩, qf⟩ := VAt.cells V5'
  obtain ⟨⟨y0, y1, y2, y3, y4⟩, yf⟩ := VAt.cells U5
  obtain ⟨⟨z0, z1, z2, z3, z4⟩, zf⟩ := MkAt.cells M5
  clear cT k4 s4 g5 V5' U5 M5 hb2
  rw [hW5] at q0 q1 q2 q3 q4 qf y0 y1 y2 y3 y4 yf z0 z1 z2 z3 z4 zf
  have FIN : Hid (∀ en : Ending, en = .returned (.tuple #[.agg #[.int .u8 uk, .int .i64 un, .string ut, .slice ua ui uca, .slice ub uj ucb], .int .i64 tI]) → (te ≠ 0 ∨ m.k = 11) → ∃ f r, Rd.P E f .v ms 0 0 = some r ∧ Kr rb w (((((W5.setCell ⟨b0, 0, none⟩ (.int .u8 uk)).setCell ⟨b0, 1, none⟩ (.int .i64 un)).setCell ⟨b0, 2, none⟩ (.string ut)).setCell ⟨b0, 3, none⟩ (.slice ua ui uca)).setCell ⟨b0, 4, none⟩ (.slice ub uj ucb)) ∧ ∃ (u : Value) (y : JV) (p' pl' n' e : Nat), en = .returned (.tuple #[u, .int .i64 (e : Int)]) ∧ HF w.heap.size (((((W5.setCell ⟨b0, 0, none⟩ (.int .u8 uk)).setCell ⟨b0, 1, none⟩ (.int .i64 un)).setCell ⟨b0, 2, none⟩ (.string ut)).setCell ⟨b0, 3, none⟩ (.slice ua ui uca)).setCell ⟨b0, 4, none⟩ (.slice ub uj ucb)) u y ∧ RS w0 rb l (((((W5.setCell ⟨b0, 0, none⟩ (.int .u8 uk)).setCell ⟨b0, 1, none⟩ (.int .i64 un)).setCell ⟨b0, 2, none⟩ (.string ut)).setCell ⟨b0, 3, none⟩ (.slice ua ui uca)).setCell ⟨b0, 4, none⟩ (.slice ub uj ucb)) p' pl' n' 0 ∧ RT E r y pl' e) := fun en he hor => by
    refine ⟨f, _, HP.out, HK5.out.five hB _ _ _ _ _, _, y, _, _, n', te, by rw [he, HTI.out], HF5.out.stay (fun b hb _ => ⟨by omega, mk5_other W5 b0 b (by omega) _ _ _ _ _⟩), HS5.out.lex hw0.out hne.symm _ _ _ _ _, ?_⟩
    rcases HWY.out with ⟨rfl, h2, h3, h4⟩ | ⟨ms1, rfl, h2, h3⟩
    · exact ⟨h2, fun _ => HYX.out, fun h => h3.symm⟩
    · rcases hor with h | h
      · exact absurd h2 h
      · exact absurd h h3
  by_cases ht : tI = 0
  · subst ht
    have ht0 : Hid (te = 0) := by have := HTI.out; show te = 0; omega
    by_cases h11 : kI = 11
    · subst h11
      have hk : Hid (m.k = 11) := by have := HKI.out; show m.k = 11; omega
      go_wp2_with fail
      rw [← hW5]
      refine bodyPost_ret (results_val (fn := Tryz.f26) (t := 2) (u := 3) rfl _ _ rfl (HV5.out.set5 _ _ _ _ _) rfl) rfl ?_
      exact FIN.out _ rfl (.inr hk.out)
    · have hb : (kI != 11) = true := bne_iff_ne.2 h11
      have hk : Hid (m.k ≠ 11) := by have := HKI.out; show m.k ≠ 11; omega
      clear h11
      go_wp2_with fail
      rw [← hW5]
      refine bodyPost_ret (results_val (fn := Tryz.f26) (t := 2) (u := 3) rfl _ _ rfl (HV5.out.set5 _ _ _ _ _) rfl) rfl ?_
      refine ⟨f, _, HP.out, HK5.out.five hB _ _ _ _ _, _, .mk 0 0 [] [] [], _, _, n', 11, rfl, HF.zero _ _, HS5.out.lex hw0.out hne.symm _ _ _ _ _, ?_⟩
      rcases HWY.out with ⟨rfl, h2, h3, h4⟩ | ⟨ms1, rfl, h2, h3⟩
      · exact absurd (h4 ht0.out) hk.out
      · exact ⟨rfl, if_pos ht0.out⟩
  · have hb : (tI == 0) = false := beq_eq_false_iff_ne.2 ht
    have ht0 : Hid (te ≠ 0) := by have := HTI.out; show te ≠ 0; omega
    clear ht
    go_wp2_with fail
    rw [← hW5]
    refine bodyPost_ret (results_val (fn := Tryz.f26) (t := 2) (u := 3) rfl _ _ rfl (HV5.out.set5 _ _ _ _ _) rfl) rfl ?_
    exact FIN.out _ rfl (.inl ht0.out)
end

section
open Go.RowKit

/-- what Read is to tell of a text -/
def RdIs (l : List UInt8) (x : JV) (pl e : Nat) : Prop := (65536 < l.length ∧ x = .mk 0 0 [] [] [] ∧ pl = 0 ∧ e = 5) ∨ (l.length ≤ 65536 ∧ ∃ ms E f r y pl', TS l 0 ms E ∧ Rd.P E f .v ms 0 0 = some r ∧ RT E r y pl' e ∧ (e = 0 → x = y ∧ pl = 0) ∧ (e ≠ 0 → x = .mk 0 0 [] [] [] ∧ pl = pl'))
theorem RT.det {E : Nat × Nat} {r : Rd.Res} {y y' : JV} {pl pl' e e' : Nat} (h : RT E r y pl e) (h' : RT E r y' pl' e') : e = e' ∧ (e = 0 → y = y') ∧ (e ≠ 0 → pl = pl') := by
  match r, h, h' with
  | .bad p e0, h, h' => exact ⟨h.1.trans h'.1.symm, fun h0 => absurd (h.1.symm.trans h0) h.2.2, fun _ => h.2.1.trans h'.2.1.symm⟩
  | .ok x [] n, h, h' => exact ⟨h.1.trans h'.1.symm, fun h0 => (h.2.1 (h.1.symm.trans h0)).trans (h'.2.1 (h.1.symm.trans h0)).symm, fun h0 => (h.2.2 (fun e0 => h0 (h.1.trans e0))).trans (h'.2.2 (fun e0 => h0 (h.1.trans e0))).symm⟩
  | .ok x (m :: ms) n, h, h' => exact ⟨h.1.trans h'.1.symm, fun h0 => by have := h.1; omega, fun _ => h.2.trans h'.2.symm⟩
/-- there is one answer -/
theorem RdIs.det {l : List UInt8} {x x' : JV} {pl pl' e e' : Nat} (h : RdIs l x pl e) (h' : RdIs l x' pl' e') : x = x' ∧ pl = pl' ∧ e = e' := by
  rcases h with ⟨h0, h1, h2, h3⟩ | ⟨h0, ms, E, f, r, y, q, hT, hP, hR, h4, h5⟩
  · rcases h' with ⟨_, g1, g2, g3⟩ | ⟨g0, _⟩
    · exact ⟨h1.trans g1.symm, h2.trans g2.symm, h3.trans g3.symm⟩
    · omega
  · rcases h' with ⟨g0, _⟩ | ⟨g0, ms', E', f', r', y', q', hT', hP', hR', g4, g5⟩
    · omega
    · obtain ⟨rfl, rfl⟩ := TS.det hT hT'
      obtain rfl := Rd.P_det hP hP'
      obtain ⟨he, h6, h7⟩ := hR.det hR'
      subst he
      by_cases h0 : e = 0
      · exact ⟨(h4 h0).1.trans ((h6 h0).trans (g4 h0).1.symm), (h4 h0).2.trans (g4 h0).2.symm, rfl⟩
      · exact ⟨(h5 h0).1.trans (g5 h0).1.symm, (h5 h0).2.trans ((h7 h0).trans (g5 h0).2.symm), rfl⟩
theorem results_rd {fn : Func} {t u v : Tmp} (h : fn.results = #[.cell t 26, .tmp u, .tmp v]) (tmps : Array Value) (w : World) {b : Nat} {m : Array Value} {fr : Nat × Nat}
    (ht : tmps.getD t undef = .pointer (some ⟨b, 0, none⟩)) (hg : w.heap[b]? = some (.cells m 26 fr)) (hm : m.size = 5) :
    (results fn tmps).run Tryz.prog w = .ok (.tuple #[.agg m, tmps.getD u undef, tmps.getD v undef]) w := by
  have hl := run_loadVar_row (P := Tryz.prog) w b 26 26 m fr _ hg Tryz.underlying26 rfl (by rw [hm]; exact value_size)
  have ht' : tmps[t]?.getD undef = .pointer (some ⟨b, 0, none⟩) := by rw [← Array.getD_eq_getD_getElem?]; exact ht
  simp [results, h, ht', asAddr, hl]
/-- a value's five cells are written over, at once -/
theorem VAt.store {b : Nat} {w : World} {c0 c1 c2 c3 c4 : Value} (h : VAt b w c0 c1 c2 c3 c4) (d0 d1 d2 d3 d4 : Value) (hone : ∀ u ∈ [d0, d1, d2, d3, d4], u.oneCell' = true) :
    ∃ w', (Instr.storeAt 26 (.pointer (some ⟨b, 0, none⟩)) (.agg #[d0, d1, d2, d3, d4])).run Tryz.prog w = .ok () w' ∧ VAt b w' d0 d1 d2 d3 d4 ∧ w'.os = w.os ∧ w'.tape = w.tape ∧ w'.output = w.output ∧ w'.heap.size = w.heap.size ∧ ∀ k, k ≠ b → w'.heap[k]? = w.heap[k]? :=
  ⟨_, row_five w b 0 #[c0, c1, c2, c3, c4] h (by simp) d0 d1 d2 d3 d4 hone, setRow_heap w b _ _ _ _ h, rfl, rfl, rfl, by simp, fun k hk => setRow_other w b k _ hk⟩
theorem wpList_valStore {ops : Array Oper} {rest : List Oper} {o : Oper} {a : Act} {w : World} {Q : Exit → Act → World → Prop} (hg : o.guard = none) (x y : Operand) (ho : o.op = .store 26 x y) (hd : o.dst = none) {b : Nat} {c0 c1 c2 c3 c4 d0 d1 d2 d3 d4 : Value} (hx : a.eval x = .pointer (some ⟨b, 0, none⟩)) (hy : a.eval y = .agg #[d0, d1, d2, d3, d4])
    (hv : VAt b w c0 c1 c2 c3 c4) (hone : ∀ u ∈ [d0, d1, d2, d3, d4], u.oneCell' = true)
    (h : ∀ w', VAt b w' d0 d1 d2 d3 d4 → (w'.os = w.os ∧ w'.tape = w.tape ∧ w'.output = w.output ∧ w'.heap.size = w.heap.size ∧ ∀ k, k ≠ b → w'.heap[k]? = w.heap[k]?) → wpList Tryz.prog ops Q rest a w') : wpList Tryz.prog ops Q (o :: rest) a w := by
  obtain ⟨w', hr, hv', hk⟩ := hv.store d0 d1 d2 d3 d4 hone
  exact wpList_plain hg fun K hK => op_store ho hx hy hd hr (hK _ _ (h w' hv' hk))
set_option maxHeartbeats 4000000 in
set_option maxRecDepth 5000 in
theorem readRead_any (l : List UInt8) (w : World) (hw : TabL w) :
    Calls Tryz.prog 13 #[.string (S l)] w fun en w' => ∃ (u : Value) (x : JV) (pl e : Nat), en = .returned (.tuple #[u, .int .i64 (pl : Int), .int .i64 (e : Int)]) ∧ RdIs l x pl e ∧ HF w.heap.size w' u x ∧ Below w.heap.size w w' := by
  obtain ⟨b0, hb0⟩ : ∃ b, b = w.heap.size := ⟨_, rfl⟩
  obtain ⟨W1, hW1⟩ : ∃ W, W = w.alloc (.cells #[.int .u8 0, .int .i64 0, .string ⟨#[]⟩, .slice none 0 0, .slice none 0 0] 26) := ⟨_, rfl⟩
  obtain ⟨W2, hW2⟩ : ∃ W, W = W1.alloc (.cells #[.string (S l), .int .i64 0, .int .i64 0, .int .i64 0, .int .i64 0] 60) := ⟨_, rfl⟩
  have s1 : W1.heap.size = b0 + 1 := by rw [hW1, hb0]; simp
  have g1 : Below w.heap.size w W1 := by rw [hW1]; exact (Below.refl _ _).alloc (Nat.le_refl _) _
  have g12 : Below W1.heap.size W1 W2 := by rw [hW2]; exact (Below.refl _ _).alloc (Nat.le_refl _) _
  have g2 : Below w.heap.size w W2 := g1.trans (g12.mono g1.size)
  have V1 : VAt b0 W1 (.int .u8 0) (.int .i64 0) (.string ⟨#[]⟩) (.slice none 0 0) (.slice none 0 0) := by rw [hW1, hb0]; exact VAt.new ..
  have V2 := V1.below g12
  have R2 : RAt (b0 + 1) W2 l 0 0 0 0 := by rw [hW2, ← s1]; exact heap_alloc_new ..
  obtain ⟨L, hL⟩ : ∃ L : Int, L = (l.length : Int) := ⟨_, rfl⟩
  have hsz : ((S l).size : Int) = L := by rw [S_size, hL]
  have HL := Lib.hid hL
  have HG1 := Lib.hid g1
  have HG2 := Lib.hid g2
  have HV1 := Lib.hid V1
  have HV2 := Lib.hid V2
  have HB0 := Lib.hid hb0
  clear hL
  obtain ⟨⟨q0, q1, q2, q3, q4⟩, qf⟩ := VAt.cells V1
  by_cases h6 : (65536 : Int) < L
  · have h6' : Hid (65536 < l.length) := by have := HL.out; show 65536 < l.length; omega
    clear g1 g12 g2 V1 V2 R2
    go_enter Tryz.func13, Tryz.ntmps13
    go_wp2_with fail
    rw [← hW1]
    have V1' : VAt w.heap.size W1 (.int .u8 0) (.int .i64 0) (.string ⟨#[]⟩) (.slice none 0 0) (.slice none 0 0) := by rw [← hb0]; exact HV1.out
    refine bodyPost_ret (results_rd (fn := Tryz.f13) (t := 2) (u := 3) (v := 4) rfl _ _ rfl V1' rfl) rfl ?_
    exact ⟨_, _, 0, 5, rfl, .inl ⟨h6'.out, rfl, rfl, rfl⟩, HF.zero _ _, HG1.out⟩
  have h6' : Hid (l.length ≤ 65536) := by have := HL.out; show l.length ≤ 65536; omega
  obtain ⟨ms, E, hT⟩ := TS.exists l (l.length + 1) 0 (Nat.zero_le _) (by omega)
  have S2 : RS w (b0 + 1) l W2 0 0 0 0 := ⟨hw, g2, by rw [hb0]; omega, R2, h6'.out, Nat.zero_le _⟩
  have cW := whole_any S2 hT
  have HT := Lib.hid hT
  clear g1 g12 g2 V1 V2 R2 S2 hT q0 q1 q2 q3 q4 qf
  go_enter Tryz.func13, Tryz.ntmps13
  go_wp2_with fail
  rw [← hW1, ← hW2, ← hb0]
  clear hW1 hW2 hsz hb0
  refine cW.mono ?_; rintro en w3 ⟨f, r, hP, k3, u, y, p', pl', n', e, rfl, hu, s3, hrt⟩
  obtain ⟨uk, un, ut, ua, ub, ui, uj, uca, ucb, rfl⟩ := hu.open'
  have hne : b0 ≠ b0 + 1 := by omega
  have V3 := HV2.out.kr hne k3
  have HV3 := Lib.hid V3
  have hB3 : Hid (Below w.heap.size w w3) := k3.below HG2.out (by rw [← HB0.out]; omega) HG2.out.size
  have h2s : Hid (b0 + 1 ≤ W2.heap.size) := (Array.getElem?_eq_some_iff.1 HV2.out).1
  have HH := Lib.hid hu
  have HP := Lib.hid hP
  have HRT := Lib.hid hrt
  have HS3 := Lib.hid s3
  obtain ⟨⟨q0, q1, q2, q3, q4⟩, qf⟩ := VAt.cells V3
  obtain ⟨⟨r0, r1, r2, r3, r4⟩, rf⟩ := row5_cells s3.at'
  obtain ⟨eI, heI⟩ : ∃ z : Int, z = (e : Int) := ⟨_, rfl⟩
  obtain ⟨pI, hpI⟩ : ∃ z : Int, z = (pl' : Int) := ⟨_, rfl⟩
  rw [← hpI] at r2
  rw [← heI]
  have HE := Lib.hid heI
  have HPI := Lib.hid hpI
  clear cW hP k3 hu s3 hrt V3 r0 r1 r3 r4 heI hpI
  have hone : ∀ u ∈ [Value.int .u8 uk, .int .i64 un, .string ut, .slice ua ui uca, .slice ub uj ucb], u.oneCell' = true := fun u hu => by
    simp only [List.mem_cons, List.not_mem_nil, or_false] at hu
    rcases hu with rfl | rfl | rfl | rfl | rfl <;> rfl
  have HONE := Lib.hid hone
  clear hone q0 q1 q2 q3 q4 qf r2 rf
  by_cases he : eI = 0
  · subst he
    have he0 : Hid (e = 0) := by have := HE.out; show e = 0; omega
    go_wp2_with (first | (refine wpList_valStore rfl _ _ rfl rfl rfl rfl HV3.out HONE.out ?_; intro W4 V4 a4; obtain ⟨⟨q0, q1, q2, q3, q4⟩, qf⟩ := VAt.cells V4) | (refine wpList_valStore rfl _ _ rfl rfl rfl rfl V4 HONE.out ?_; intro W5 V5 a5))
    refine bodyPost_ret (results_rd (fn := Tryz.f13) (t := 2) (u := 3) (v := 4) rfl _ _ rfl V5 rfl) rfl ?_
    obtain ⟨x1, x2, x3, x4, x5⟩ := a4
    obtain ⟨z1, z2, z3, z4, z5⟩ := a5
    have hb := hB3.out
    have h2 := h2s.out
    have hbb := HB0.out
    have hsame : ∀ k, k ≠ b0 → W5.heap[k]? = w3.heap[k]? := fun k hk => (z5 k hk).trans (x5 k hk)
    exact ⟨_, y, 0, 0, rfl, .inr ⟨h6'.out, ms, E, f, r, y, pl', HT.out, HP.out, by have := HRT.out; rw [he0.out] at this; exact this, fun _ => ⟨rfl, rfl⟩, fun h => absurd rfl h⟩, HH.out.stay fun b hb hl => ⟨by omega, hsame b (by omega)⟩, ⟨z1.trans (x1.trans hb.os), z2.trans (x2.trans hb.tape), z3.trans (x3.trans hb.output), by rw [z4, x4]; exact hb.size, fun k hk => (hsame k (by omega)).trans (hb.block k hk)⟩⟩
  · have hb : (eI != 0) = true := bne_iff_ne.2 he
    have he0 : Hid (e ≠ 0) := by have := HE.out; show e ≠ 0; omega
    clear he
    go_wp2_with (refine wpList_valStore rfl _ _ rfl rfl rfl rfl HV3.out HONE.out ?_; intro W4 V4 a4)
    have RR4 : RAt (b0 + 1) W4 l p' pl' n' 0 := (a4.2.2.2.2 (b0 + 1) (by omega)).trans HS3.out.at'
    obtain ⟨⟨r0, r1, r2, r3, r4⟩, rf⟩ := row5_cells RR4
    rw [← HPI.out] at r2
    obtain ⟨⟨q0, q1, q2, q3, q4⟩, qf⟩ := VAt.cells V4
    have HA4 := Lib.hid a4
    have HV4 := Lib.hid V4
    clear RR4 r0 r1 r3 r4 a4 V4
    go_region
    go_wp2_with fail
    refine bodyPost_ret (results_rd (fn := Tryz.f13) (t := 2) (u := 3) (v := 4) rfl _ _ rfl (HV4.out.set5 _ _ _ _ _) rfl) rfl ?_
    obtain ⟨x1, x2, x3, x4, x5⟩ := HA4.out
    have hb := hB3.out
    have hbb := HB0.out
    refine ⟨_, .mk 0 0 [] [] [], pl', e, by rw [HPI.out, HE.out]; rfl, .inr ⟨h6'.out, ms, E, f, r, y, pl', HT.out, HP.out, HRT.out, fun h => absurd h he0.out, fun _ => ⟨rfl, rfl⟩⟩, HF.zero _ _, Below.drew (below_val ?_ (by omega) _ _ _ _ _)⟩
    exact ⟨x1.trans hb.os, x2.trans hb.tape, x3.trans hb.output, by rw [x4]; exact hb.size, fun k hk => (x5 k (by omega)).trans (hb.block k hk)⟩
end

section
open Go.RowKit

def T1 : List UInt8 := [123, 34, 98, 34, 58, 91, 49, 44, 116, 114, 117, 101, 93, 44, 34, 97, 34, 58, 34, 120, 34, 125]
def T2 : List UInt8 := [91, 49, 32, 50, 93]
def T3 : List UInt8 := [123, 34, 97, 34, 58, 49, 44, 34, 97, 34, 58, 50, 125]
def T4 : List UInt8 := [49, 32, 50]
def J1 : JV := .mk 5 0 [] [[97], [98]] [.mk 3 0 [120] [] [], .mk 4 0 [] [] [.mk 2 1 [] [] [], .mk 1 1 [] [] []]]
def J0 : JV := .mk 0 0 [] [] []
theorem ts2 : TS T2 0 [⟨3, 0, 1, 0, []⟩, ⟨9, 1, 2, 1, []⟩, ⟨9, 3, 4, 2, []⟩, ⟨4, 4, 5, 0, []⟩] (5, 0) :=
  .more (by kernel_rfl) (by decide) (.more (by kernel_rfl) (by decide) (.more (by kernel_rfl) (by decide) (.more (by kernel_rfl) (by decide) (.stop (by kernel_rfl)))))
theorem is2 : RdIs T2 J0 3 3 := .inr ⟨by decide, _, _, 5, .bad 3 3, J0, 3, ts2, by kernel_rfl, ⟨rfl, rfl, by decide⟩, (fun h => by cases h), fun _ => ⟨rfl, rfl⟩⟩
theorem ts4 : TS T4 0 [⟨9, 0, 1, 1, []⟩, ⟨9, 2, 3, 2, []⟩] (3, 0) := .more (by kernel_rfl) (by decide) (.more (by kernel_rfl) (by decide) (.stop (by kernel_rfl)))
theorem is4 : RdIs T4 J0 2 11 := .inr ⟨by decide, _, _, 5, .ok (.mk 2 1 [] [] []) [⟨9, 2, 3, 2, []⟩] 1, J0, 2, ts4, by kernel_rfl, ⟨rfl, rfl⟩, (fun h => by cases h), fun _ => ⟨rfl, rfl⟩⟩
theorem ts3 : TS T3 0 [⟨1, 0, 1, 0, []⟩, ⟨10, 1, 4, 0, [97]⟩, ⟨6, 4, 5, 0, []⟩, ⟨9, 5, 6, 1, []⟩, ⟨5, 6, 7, 0, []⟩, ⟨10, 7, 10, 0, [97]⟩, ⟨6, 10, 11, 0, []⟩, ⟨9, 11, 12, 2, []⟩, ⟨2, 12, 13, 0, []⟩] (13, 0) :=
  .more (by kernel_rfl) (by decide) (.more (by kernel_rfl) (by decide) (.more (by kernel_rfl) (by decide) (.more (by kernel_rfl) (by decide) (.more (by kernel_rfl) (by decide) (.more (by kernel_rfl) (by decide) (.more (by kernel_rfl) (by decide) (.more (by kernel_rfl) (by decide) (.more (by kernel_rfl) (by decide) (.stop (by kernel_rfl))))))))))
theorem is3 : RdIs T3 J0 7 7 := .inr ⟨by decide, _, _, 6, .bad 7 7, J0, 7, ts3, by kernel_rfl, ⟨rfl, rfl, by decide⟩, (fun h => by cases h), fun _ => ⟨rfl, rfl⟩⟩
theorem ts1 : TS T1 0 [⟨1, 0, 1, 0, []⟩, ⟨10, 1, 4, 0, [98]⟩, ⟨6, 4, 5, 0, []⟩, ⟨3, 5, 6, 0, []⟩, ⟨9, 6, 7, 1, []⟩, ⟨5, 7, 8, 0, []⟩, ⟨7, 8, 12, 0, []⟩, ⟨4, 12, 13, 0, []⟩, ⟨5, 13, 14, 0, []⟩, ⟨10, 14, 17, 0, [97]⟩, ⟨6, 17, 18, 0, []⟩, ⟨10, 18, 21, 0, [120]⟩, ⟨2, 21, 22, 0, []⟩] (22, 0) :=
  .more (by kernel_rfl) (by decide) (.more (by kernel_rfl) (by decide) (.more (by kernel_rfl) (by decide) (.more (by kernel_rfl) (by decide) (.more (by kernel_rfl) (by decide) (.more (by kernel_rfl) (by decide) (.more (by kernel_rfl) (by decide) (.more (by kernel_rfl) (by decide) (.more (by kernel_rfl) (by decide) (.more (by kernel_rfl) (by decide) (.more (by kernel_rfl) (by decide) (.more (by kernel_rfl) (by decide) (.more (by kernel_rfl) (by decide) (.stop (by kernel_rfl))))))))))))))
theorem is1 : RdIs T1 J1 0 0 := .inr ⟨by decide, _, _, 9, .ok J1 [] 5, J1, 0, ts1, by kernel_rfl, ⟨rfl, fun _ => rfl, fun h => absurd rfl h⟩, fun _ => ⟨rfl, rfl⟩, fun h => absurd rfl h⟩
/-- Read of a text of which it is known what it is to tell -/
theorem rd_call {l : List UInt8} {x : JV} {pl e : Nat} (hI : RdIs l x pl e) (w : World) (hw : TabL w) :
    Calls Tryz.prog 13 #[.string (S l)] w fun en w' => ∃ (kI nI : Int) (t : ByteArray) (a b : Option Addr) (i j ca cb : Nat), en = .returned (.tuple #[.agg #[.int .u8 kI, .int .i64 nI, .string t, .slice a i ca, .slice b j cb], .int .i64 (pl : Int), .int .i64 (e : Int)]) ∧ HV w' (.agg #[.int .u8 kI, .int .i64 nI, .string t, .slice a i ca, .slice b j cb]) x ∧ Below w.heap.size w w' := by
  refine (readRead_any l w hw).mono ?_
  rintro en w' ⟨u, x', pl', e', rfl, hr, hu, hb⟩
  obtain ⟨rfl, rfl, rfl⟩ := hI.det hr
  obtain ⟨kI, nI, t, a, b, i, j, ca, cb, rfl⟩ := hu.open'
  obtain ⟨cs, e, h⟩ := hu
  exact ⟨_, _, _, _, _, _, _, _, _, rfl, ⟨cs, e, h.hc⟩, hb⟩
end

section
open Go.RowKit
namespace Rd

/-- the bytes of the marks' texts -/
def TT : List Lm.Mark → Nat
  | [] => 0
  | m :: ms => m.t.length + TT ms
theorem insN_wn {l : List UInt8} : ∀ ns : List (List UInt8), JV.wn (insN l ns) = 2 + l.length + JV.wn ns
  | [] => rfl
  | x :: xs => by
    rw [insN]
    split
    · rw [JV.wn, insN_wn xs, JV.wn]; omega
    · rw [JV.wn]
theorem insI_wts {l : List UInt8} {y : JV} : ∀ (ns : List (List UInt8)) (is : List JV), ns.length = is.length → JV.wts (insI l y ns is) = JV.wts is + y.wt
  | [], [], _ => by simp [insI, JV.wts]
  | x :: xs, z :: zs, h => by
    rw [insI]
    split
    · rw [JV.wts, insI_wts xs zs (by simpa using h), JV.wts]; omega
    · rw [JV.wts, JV.wts]; omega
theorem atom_wt (m : Lm.Mark) : (atom m).wt ≤ 4 + m.t.length := by
  unfold atom
  split
  · simp [JV.wt, JV.wn, JV.wts]
  · split
    · simp [JV.wt, JV.wn, JV.wts]
    · split
      · simp [JV.wt, JV.wn, JV.wts]
      · simp [JV.wt, JV.wn, JV.wts]
def WB : St → JV → Nat → Nat → List Lm.Mark → List Lm.Mark → Prop
  | .v, x, n, n', ms, r => x.wt + 6 * n + TT r + 2 ≤ 6 * n' + TT ms
  | .l acc, x, n, n', ms, r => x.wt + 6 * n + TT r ≤ 4 + JV.wts acc + 6 * n' + TT ms
  | .o ns is, x, n, n', ms, r => ns.length = is.length → x.wt + 6 * n + TT r ≤ 4 + JV.wn ns + JV.wts is + 6 * n' + TT ms
theorem P_wt {E : Nat × Nat} : ∀ (f : Nat) (s : St) (ms : List Lm.Mark) (n d : Nat) (x : JV) (r : List Lm.Mark) (n' : Nat), P E f s ms n d = some (.ok x r n') → WB s x n n' ms r
  | 0, _, _, _, _, _, _, _, h => by cases h
  | f + 1, .v, ms, n, d, x, r, n', h => by
    have ih := P_wt (E := E) f
    have hw := P_v h
    cases hw with
    | @atom m _ _ _ h hn hk =>
      have := atom_wt m
      show _ + _ + _ + 2 ≤ _
      rw [TT]
      omega
    | nolist h hn hd h1 => simp only [WB, TT, JV.wt, JV.wn, JV.wts, List.length_nil]; omega
    | list h hn hd h1 hr =>
      have := ih _ _ _ _ _ _ _ hr
      simp only [WB, TT, JV.wts] at this ⊢
      omega
    | noobj h hn hd h1 => simp only [WB, TT, JV.wt, JV.wn, JV.wts, List.length_nil]; omega
    | obj h hn hd h1 hr =>
      have := ih _ _ _ _ _ _ _ hr rfl
      simp only [TT, JV.wts, JV.wn] at this
      simp only [WB, TT]
      omega
  | f + 1, .l acc, ms, n, d, x, r, n', h => by
    have ih := P_wt (E := E) f
    have hw := P_l h
    cases hw with
    | last hv =>
      have := ih _ _ _ _ _ _ _ hv
      simp only [WB, TT, JV.wt, JV.wn, JV.wts_snoc, List.length_nil] at this ⊢
      omega
    | next hv h1 hr =>
      have h1 := ih _ _ _ _ _ _ _ hv
      have h2 := ih _ _ _ _ _ _ _ hr
      simp only [WB, TT, JV.wts_snoc] at h1 h2 ⊢
      omega
  | f + 1, .o ns is, ms, n, d, x, r, n', h => by
    have ih := P_wt (E := E) f
    have hw := P_o h
    intro hl
    cases hw with
    | last _ _ _ hv =>
      have := ih _ _ _ _ _ _ _ hv
      simp only [WB, TT, JV.wt, insN_wn, insI_wts ns is hl, List.length_nil] at this ⊢
      omega
    | next _ _ _ hv h1 hr =>
      have h1 := ih _ _ _ _ _ _ _ hv
      have h2 := ih _ _ _ _ _ _ _ hr (by rw [insN_len, insI_len ns is hl, hl])
      simp only [WB, TT, insN_wn, insI_wts ns is hl] at h1 h2 ⊢
      omega
end Rd
theorem tok_t {u : List UInt8} {m : Lm.Mark} (h : Lm.tok u = (m, 0)) : m.t.length ≤ m.b := by
  cases u with
  | nil =>
    rw [Lm.tok] at h
    simp only [Prod.mk.injEq, and_true] at h
    rw [← h]
    exact Nat.zero_le _
  | cons c r =>
    rw [Lm.tok] at h
    by_cases h1 : Lm.punct c ≠ 0
    · rw [if_pos h1] at h
      simp only [Prod.mk.injEq, and_true] at h
      rw [← h]
      exact Nat.zero_le _
    rw [if_neg h1] at h
    by_cases h2 : c = 34
    · rw [if_pos h2] at h
      obtain ⟨v, k, e, hx⟩ : ∃ v k e, Qm.RDF r 0 = (v, k, e) := ⟨_, _, _, rfl⟩
      rw [hx] at h
      by_cases he : e = 0
      · subst he
        rw [if_pos rfl] at h
        simp only [Prod.mk.injEq, and_true] at h
        obtain ⟨_, _, _, _, g5, _⟩ := Qm.RDF_within (r.length + 1) r 0 v k (by omega) (by omega) hx
        rw [← h]
        show v.length ≤ 1 + k
        omega
      · rw [if_neg he] at h
        simp only [Prod.mk.injEq] at h
        exact absurd h.2 he
    rw [if_neg h2] at h
    by_cases h3 : Lm.numb c = true
    · rw [if_pos h3] at h
      unfold Lm.tokN at h
      split at h
      · split at h
        · simp only [Prod.mk.injEq, and_true] at h
          rw [← h]
          exact Nat.zero_le _
        · simp at h
      · simp at h
    rw [if_neg h3] at h
    split at h
    · simp only [Prod.mk.injEq, and_true] at h
      rw [← h]
      exact Nat.zero_le _
    · split at h
      · simp only [Prod.mk.injEq, and_true] at h
        rw [← h]
        exact Nat.zero_le _
      · simp at h
theorem mark_t {l : List UInt8} {p : Nat} {m : Lm.Mark} (hp : p ≤ l.length) (h : Lm.mark l p = (m, 0)) : m.t.length + p ≤ m.b := by
  rw [Lm.mark_tok l p hp] at h
  obtain ⟨m0, e, hx⟩ : ∃ m0 e, Lm.tok (l.drop p) = (m0, e) := ⟨_, _, rfl⟩
  rw [hx] at h
  by_cases he : e = 0
  · subst he
    rw [Lm.put_ok] at h
    simp only [Prod.mk.injEq, and_true] at h
    have := tok_t hx
    rw [← h]
    show m0.t.length + p ≤ p + m0.b
    omega
  · rw [Lm.put_no _ _ he] at h
    simp only [Prod.mk.injEq] at h
    exact absurd h.2 he
/-- the texts' bytes are among the text's -/
theorem TS.tt {l : List UInt8} {p : Nat} {ms : List Lm.Mark} {E : Nat × Nat} (h : TS l p ms E) : p ≤ l.length → Rd.TT ms + p ≤ l.length := by
  induction h with
  | stop => intro hp; simpa [Rd.TT] using hp
  | bad => intro hp; simpa [Rd.TT] using hp
  | @more p m ms E h hk hs ih =>
    intro hp
    have hs := Lm.skip_le hp
    have hg := Lm.skip_ge l p
    have ht := mark_t hs h
    have hb : m.b ≤ l.length := by
      rcases Lm.mark_ways l (Lm.skip l p) hs with ⟨h1, _⟩ | ⟨h1, _⟩ | ⟨_, _, _, _, _, h1⟩
      · rw [h] at h1; exact absurd rfl h1
      · rw [h] at h1; simp only [Prod.mk.injEq, and_true] at h1; rw [h1] at hk; exact absurd rfl hk
      · rw [h] at h1; exact h1
    have := ih hb
    rw [Rd.TT]
    omega
/-- what is read has no more than so much -/
theorem read_wt {l : List UInt8} {ms : List Lm.Mark} {E : Nat × Nat} {f : Nat} {x : JV} {r : List Lm.Mark} {n' : Nat} (hT : TS l 0 ms E) (hP : Rd.P E f .v ms 0 0 = some (.ok x r n')) (hl : l.length ≤ 20000) : x.wt ≤ 90000 := by
  have h1 : x.wt + 6 * 0 + Rd.TT r + 2 ≤ 6 * n' + Rd.TT ms := Rd.P_wt _ _ _ _ _ _ _ _ hP
  have h2 := (Rd.P_grow _ _ _ _ _ _ _ _ hP).2
  have h3 := hT.tt (Nat.zero_le _)
  omega
end

section
open Go.RowKit

set_option maxHeartbeats 8000000 in
set_option maxRecDepth 5000 in
theorem awake_any (w : World) (hw : TabL w) : Calls Tryz.prog 12 #[] w fun e w' => e = .returned (.bool true) ∧ Below w.heap.size w w' := by
  have c1 := rd_call is1 w hw
  go_enter Tryz.func12, Tryz.ntmps12
  go_wp2_with fail
  refine c1.mono ?_; rintro e w1 ⟨ak, an, at', aa, ab, ai, aj, aca, acb, rfl, hA, g1⟩
  obtain ⟨W1, hW1⟩ : ∃ W, W = w1.alloc (.cells #[.int .u8 ak, .int .i64 an, .string at', .slice aa ai aca, .slice ab aj acb] 26) := ⟨_, rfl⟩
  have q1 : Below w1.heap.size w1 W1 := by rw [hW1]; exact (Below.refl _ _).alloc (Nat.le_refl _) _
  have B1 := g1.trans (q1.mono g1.size)
  have A1 := hA.below q1
  have V1 : VAt w1.heap.size W1 (.int .u8 ak) (.int .i64 an) (.string at') (.slice aa ai aca) (.slice ab aj acb) := by rw [hW1]; exact VAt.new ..
  obtain ⟨b1, hb1⟩ : ∃ b, b = w1.heap.size := ⟨_, rfl⟩
  rw [← hb1] at V1
  have c2 := rd_call is2 W1 (hw.below B1)
  clear c1 hA g1 q1
  go_wp2_with fail
  rw [← hW1, ← hb1]
  clear hW1 hb1
  refine c2.mono ?_; rintro e w2 ⟨bk, bn, bt, ba, bb, bi, bj, bca, bcb, rfl, _, g2⟩
  obtain ⟨W2, hW2⟩ : ∃ W, W = w2.alloc (.cells #[.int .u8 bk, .int .i64 bn, .string bt, .slice ba bi bca, .slice bb bj bcb] 26) := ⟨_, rfl⟩
  have q2 : Below w2.heap.size w2 W2 := by rw [hW2]; exact (Below.refl _ _).alloc (Nat.le_refl _) _
  have B2 := B1.trans ((g2.trans (q2.mono g2.size)).mono B1.size)
  have A2 := (A1.below g2).below q2
  have V2 := (V1.below g2).below q2
  have c3 := rd_call is3 W2 (hw.below B2)
  clear c2 g2 q2 B1 A1 V1
  go_wp2_with fail
  rw [← hW2]
  clear hW2
  refine c3.mono ?_; rintro e w3 ⟨ck, cn, ct, ca, cb, ci, cj, cca, ccb, rfl, _, g3⟩
  obtain ⟨W3, hW3⟩ : ∃ W, W = w3.alloc (.cells #[.int .u8 ck, .int .i64 cn, .string ct, .slice ca ci cca, .slice cb cj ccb] 26) := ⟨_, rfl⟩
  have q3 : Below w3.heap.size w3 W3 := by rw [hW3]; exact (Below.refl _ _).alloc (Nat.le_refl _) _
  have B3 := B2.trans ((g3.trans (q3.mono g3.size)).mono B2.size)
  have A3 := (A2.below g3).below q3
  have V3 := (V2.below g3).below q3
  have c4 := rd_call is4 W3 (hw.below B3)
  clear c3 g3 q3 B2 A2 V2
  go_wp2_with fail
  rw [← hW3]
  clear hW3
  refine c4.mono ?_; rintro e w4 ⟨dk, dn, dt, da, db, di, dj, dca, dcb, rfl, _, g4⟩
  obtain ⟨W4, hW4⟩ : ∃ W, W = w4.alloc (.cells #[.int .u8 dk, .int .i64 dn, .string dt, .slice da di dca, .slice db dj dcb] 26) := ⟨_, rfl⟩
  have q4 : Below w4.heap.size w4 W4 := by rw [hW4]; exact (Below.refl _ _).alloc (Nat.le_refl _) _
  have B4 := B3.trans ((g4.trans (q4.mono g4.size)).mono B3.size)
  have A4 := (A3.below g4).below q4
  have V4 := (V3.below g4).below q4
  obtain ⟨nb, hnb⟩ : ∃ b, b = W4.heap.size := ⟨_, rfl⟩
  obtain ⟨U1, hU1⟩ : ∃ W, W = W4.alloc (.cells #[.string ⟨#[97]⟩, .string ⟨#[98]⟩] 9) := ⟨_, rfl⟩
  obtain ⟨U2, hU2⟩ : ∃ W, W = U1.alloc (.cells #[.int .u8 2, .int .i64 1, .string ⟨#[]⟩, .slice none 0 0, .slice none 0 0, .int .u8 1, .int .i64 1, .string ⟨#[]⟩, .slice none 0 0, .slice none 0 0] 26) := ⟨_, rfl⟩
  obtain ⟨U3, hU3⟩ : ∃ W, W = U2.alloc (.cells #[.int .u8 3, .int .i64 0, .string ⟨#[120]⟩, .slice none 0 0, .slice none 0 0, .int .u8 4, .int .i64 0, .string ⟨#[]⟩, .slice none 0 0, .slice (some ⟨nb + 1, 0, none⟩) 2 2] 26) := ⟨_, rfl⟩
  obtain ⟨U4, hU4⟩ : ∃ W, W = U3.alloc (.cells #[.int .u8 5, .int .i64 0, .string ⟨#[]⟩, .slice (some ⟨nb, 0, none⟩) 2 2, .slice (some ⟨nb + 2, 0, none⟩) 2 2] 26) := ⟨_, rfl⟩
  have s1 : U1.heap.size = nb + 1 := by rw [hU1, hnb]; simp
  have s2 : U2.heap.size = nb + 2 := by rw [hU2]; simp [s1]
  have s3 : U3.heap.size = nb + 3 := by rw [hU3]; simp [s2]
  have r1 : Below W4.heap.size W4 U1 := by rw [hU1]; exact (Below.refl _ _).alloc (Nat.le_refl _) _
  have r2 : Below U1.heap.size U1 U2 := by rw [hU2]; exact (Below.refl _ _).alloc (Nat.le_refl _) _
  have r3 : Below U2.heap.size U2 U3 := by rw [hU3]; exact (Below.refl _ _).alloc (Nat.le_refl _) _
  have r4 : Below U3.heap.size U3 U4 := by rw [hU4]; exact (Below.refl _ _).alloc (Nat.le_refl _) _
  have R4 : Below W4.heap.size W4 U4 := ((r1.trans (r2.mono r1.size)).trans (r3.mono (by omega))).trans (r4.mono (by omega))
  have N1 : U1.heap[nb]? = some (.cells (NC [[97], [98]]).toArray 9 (0, 0)) := by rw [hU1, hnb]; exact heap_alloc_new W4 _
  have N4 : U4.heap[nb]? = some (.cells (NC [[97], [98]]).toArray 9 (0, 0)) := (r4.block nb (by omega)).trans ((r3.block nb (by omega)).trans ((r2.block nb (by omega)).trans N1))
  have I2 : U2.heap[nb + 1]? = some (.cells ([.int .u8 2, .int .i64 1, .string (S []), .slice none 0 0, .slice none 0 0, .int .u8 1, .int .i64 1, .string (S []), .slice none 0 0, .slice none 0 0] : List Value).toArray 26 (0, 0)) := by rw [hU2, ← s1]; exact heap_alloc_new U1 _
  have I4 : U4.heap[nb + 1]? = some (.cells ([.int .u8 2, .int .i64 1, .string (S []), .slice none 0 0, .slice none 0 0, .int .u8 1, .int .i64 1, .string (S []), .slice none 0 0, .slice none 0 0] : List Value).toArray 26 (0, 0)) := (r4.block _ (by omega)).trans ((r3.block _ (by omega)).trans I2)
  have K3 : U3.heap[nb + 2]? = some (.cells ([.int .u8 3, .int .i64 0, .string (S [120]), .slice none 0 0, .slice none 0 0, .int .u8 4, .int .i64 0, .string (S []), .slice none 0 0, .slice (some ⟨nb + 1, 0, none⟩) 2 2] : List Value).toArray 26 (0, 0)) := by rw [hU3, ← s2]; exact heap_alloc_new U2 _
  have K4 : U4.heap[nb + 2]? = some (.cells ([.int .u8 3, .int .i64 0, .string (S [120]), .slice none 0 0, .slice none 0 0, .int .u8 4, .int .i64 0, .string (S []), .slice none 0 0, .slice (some ⟨nb + 1, 0, none⟩) 2 2] : List Value).toArray 26 (0, 0)) := (r4.block _ (by omega)).trans K3
  have bare : ∀ (k : Nat) (n : Int) (t : List UInt8), k < 256 → (-9223372036854775808 ≤ n ∧ n ≤ 9223372036854775807) → t.length ≤ maxLen → HC U4 [.int .u8 (k : Int), .int .i64 n, .string (S t), .slice none 0 0, .slice none 0 0] (.mk k n t [] []) := fun k n t h1 h2 h3 => (HCp.bare (fun _ => True) U4 k n t h1 h2 h3).hc
  have hcI : HCS U4 [.int .u8 2, .int .i64 1, .string (S []), .slice none 0 0, .slice none 0 0, .int .u8 1, .int .i64 1, .string (S []), .slice none 0 0, .slice none 0 0] [.mk 2 1 [] [] [], .mk 1 1 [] [] []] :=
    ⟨_, _, _, _, _, _, rfl, bare 2 1 [] (by omega) (by omega) (Nat.zero_le _), _, _, _, _, _, _, rfl, bare 1 1 [] (by omega) (by omega) (Nat.zero_le _), rfl⟩
  have hI := HI.of_block I4 hcI
  have hL : HC U4 [.int .u8 4, .int .i64 0, .string (S []), .slice none 0 0, .slice (some ⟨nb + 1, 0, none⟩) 2 2] (.mk 4 0 [] [] [.mk 2 1 [] [] [], .mk 1 1 [] [] []]) := by
    obtain ⟨cs, e, h⟩ := HV.of U4 4 0 [] [] [.mk 2 1 [] [] [], .mk 1 1 [] [] []] none (some ⟨nb + 1, 0, none⟩) 0 2 ⟨by omega, by omega, Nat.zero_le _, Nat.zero_le _, by decide, fun x h => by simp at h⟩ (NS.nil _ _) (.inr ⟨_, _, rfl, hI⟩)
    simp only [Value.agg.injEq] at e
    have e' := congrArg Array.toList e
    simp at e'
    rw [← e'] at h
    exact h
  have hcK : HCS U4 [.int .u8 3, .int .i64 0, .string (S [120]), .slice none 0 0, .slice none 0 0, .int .u8 4, .int .i64 0, .string (S []), .slice none 0 0, .slice (some ⟨nb + 1, 0, none⟩) 2 2] [.mk 3 0 [120] [] [], .mk 4 0 [] [] [.mk 2 1 [] [] [], .mk 1 1 [] [] []]] :=
    ⟨_, _, _, _, _, _, rfl, bare 3 0 [120] (by omega) (by omega) (by decide), _, _, _, _, _, _, rfl, hL, rfl⟩
  have hW : HV U4 (.agg #[.int .u8 5, .int .i64 0, .string ⟨#[]⟩, .slice (some ⟨nb, 0, none⟩) 2 2, .slice (some ⟨nb + 2, 0, none⟩) 2 2]) J1 :=
    HV.of U4 5 0 [] [[97], [98]] [.mk 3 0 [120] [] [], .mk 4 0 [] [] [.mk 2 1 [] [] [], .mk 1 1 [] [] []]] (some ⟨nb, 0, none⟩) (some ⟨nb + 2, 0, none⟩) 2 2 ⟨by omega, by omega, Nat.zero_le _, by decide, by decide, by decide⟩ (NS.of_block N4) (.inr ⟨_, _, rfl, HI.of_block K4 hcK⟩)
  have cS := refSame_any _ J1 J1 (Nat.le_refl _) U4 _ _ (A4.below R4) hW
  rw [JV.same_yes J1] at cS
  obtain ⟨⟨p0, p1, p2, p3, p4⟩, pf⟩ := (V4.below R4).cells
  have HB4 := Lib.hid (B4.trans (R4.mono B4.size))
  clear c4 g4 q4 B3 A3 V3 B4 A4 V4 s1 s2 s3 r1 r2 r3 r4 R4 N1 N4 I2 I4 K3 K4 bare hcI hI hL hcK hW
  rw [hU4, hU3, hU2, hU1, hW4] at p0 p1 p2 p3 p4 pf
  have hnb' : nb = (w4.alloc (.cells #[.int .u8 dk, .int .i64 dn, .string dt, .slice da di dca, .slice db dj dcb] 26)).heap.size := by rw [hnb, hW4]
  have HNB := Lib.hid hnb'
  rw [hnb'] at p0 p1 p2 p3 p4 pf
  simp at p0 p1 p2 p3 p4 pf
  clear hnb'
  go_wp2_with fail
  have e : w4.heap.size + 1 = nb := by rw [HNB.out]; simp
  rw [← hW4, e, show nb + 1 + 1 = nb + 2 from rfl, ← hU1, ← hU2, ← hU3, ← hU4]
  clear hW4 hU1 hU2 hU3 hU4 p0 p1 p2 p3 p4 pf e hnb
  refine cS.mono ?_; rintro e w5 ⟨rfl, b5⟩
  have HB5 := Lib.hid (HB4.out.trans (b5.mono HB4.out.size))
  clear cS b5
  go_wp2_with fail
  go_ret
  exact ⟨rfl, HB5.out⟩
end

section
open Go.RowKit

namespace Rd
/-- where what is wrong stands -/
def At (E : Nat × Nat) (ms : List Lm.Mark) (p : Nat) : Prop := p = E.1 ∨ ∃ m ∈ ms, p = m.a
theorem At.sub {E : Nat × Nat} {ms ms' : List Lm.Mark} {p : Nat} (h : At E ms p) (hs : ∀ m ∈ ms, m ∈ ms') : At E ms' p := by
  rcases h with h | ⟨m, hm, h⟩
  · exact .inl h
  · exact .inr ⟨m, hs m hm, h⟩
theorem At.head {E : Nat × Nat} (m : Lm.Mark) (ms : List Lm.Mark) : At E (m :: ms) m.a := .inr ⟨m, List.mem_cons_self, rfl⟩
theorem P_bad {E : Nat × Nat} : ∀ (f : Nat) (s : St) (ms : List Lm.Mark) (n d : Nat) (p e : Nat), P E f s ms n d = some (.bad p e) → At E ms p
  | 0, _, _, _, _, _, _, h => by cases h
  | f + 1, .v, ms, n, d, p, e, h => by
    have ih := P_bad (E := E) f
    have hw := P_v h
    cases hw with
    | short => exact .inl rfl
    | form => exact At.head _ _
    | long => exact At.head _ _
    | deep => exact At.head _ _
    | cut => exact .inl rfl
    | list h hn hd h1 hr => exact (ih _ _ _ _ _ _ hr).sub fun m hm => List.mem_cons_of_mem _ hm
    | obj h hn hd h1 hr => exact (ih _ _ _ _ _ _ hr).sub fun m hm => List.mem_cons_of_mem _ hm
  | f + 1, .l acc, ms, n, d, p, e, h => by
    have ih := P_bad (E := E) f
    have hw := P_l h
    cases hw with
    | item hv => exact ih _ _ _ _ _ _ hv
    | cut => exact .inl rfl
    | next hv h1 hr => exact (ih _ _ _ _ _ _ hr).sub fun m hm => P_rest hv m (List.mem_cons_of_mem _ hm)
    | form hv => exact .inr ⟨_, P_rest hv _ List.mem_cons_self, rfl⟩
  | f + 1, .o ns is, ms, n, d, p, e, h => by
    have ih := P_bad (E := E) f
    have hw := P_o h
    cases hw with
    | short => exact .inl rfl
    | form => exact At.head _ _
    | twice => exact At.head _ _
    | cut1 => exact .inl rfl
    | form1 => exact .inr ⟨_, List.mem_cons_of_mem _ List.mem_cons_self, rfl⟩
    | item _ _ _ hv => exact (ih _ _ _ _ _ _ hv).sub fun m hm => List.mem_cons_of_mem _ (List.mem_cons_of_mem _ hm)
    | cut => exact .inl rfl
    | next _ _ _ hv h1 hr => exact (ih _ _ _ _ _ _ hr).sub fun m hm => List.mem_cons_of_mem _ (List.mem_cons_of_mem _ (P_rest hv m (List.mem_cons_of_mem _ hm)))
    | form3 _ _ _ hv => exact .inr ⟨_, List.mem_cons_of_mem _ (List.mem_cons_of_mem _ (P_rest hv _ List.mem_cons_self)), rfl⟩
end Rd
theorem mark_at {l : List UInt8} {p : Nat} {m : Lm.Mark} (hp : p ≤ l.length) (h : Lm.mark l p = (m, 0)) : m.a = p ∧ m.b ≤ l.length := by
  rcases Lm.mark_ways l p hp with ⟨h1, _⟩ | ⟨h1, h2⟩ | ⟨_, _, _, h4, _, h6⟩
  · rw [h] at h1; exact absurd rfl h1
  · rw [h] at h1
    simp only [Prod.mk.injEq, and_true] at h1
    rw [h1]
    exact ⟨rfl, hp⟩
  · rw [h] at h4 h6
    exact ⟨h4, h6⟩
/-- all places are in the text, or its end -/
theorem TS.at' {l : List UInt8} {p : Nat} {ms : List Lm.Mark} {E : Nat × Nat} (h : TS l p ms E) : p ≤ l.length → E.1 ≤ l.length ∧ ∀ m ∈ ms, m.a ≤ l.length := by
  induction h with
  | stop => intro hp; exact ⟨Nat.le_refl _, fun m hm => by cases hm⟩
  | bad => intro hp; exact ⟨Lm.skip_le hp, fun m hm => by cases hm⟩
  | @more p m ms E h hk hs ih =>
    intro hp
    have hm := mark_at (Lm.skip_le hp) h
    obtain ⟨h1, h2⟩ := ih hm.2
    refine ⟨h1, fun z hz => ?_⟩
    rcases List.mem_cons.1 hz with rfl | hz
    · rw [hm.1]; exact Lm.skip_le hp
    · exact h2 z hz
theorem rd_may {l : List UInt8} {x : JV} {pl e : Nat} (h : RdIs l x pl e) (hl : l.length ≤ 20000) : (e = 0 → x.may = true ∧ x.wt ≤ 90000 ∧ pl = 0) ∧ (e ≠ 0 → x = J0 ∧ pl ≤ l.length) := by
  rcases h with ⟨h0, _⟩ | ⟨_, ms, E, f, r, y, q, hT, hP, hR, h4, h5⟩
  · omega
  have hat := hT.at' (Nat.zero_le _)
  have hin : ∀ p, Rd.At E ms p → p ≤ l.length := fun p h => by
    rcases h with rfl | ⟨m, hm, rfl⟩
    · exact hat.1
    · exact hat.2 m hm
  match r, hP, hR with
  | .bad p e0, hP, hR =>
    refine ⟨fun h => absurd (hR.1.symm.trans h) hR.2.2, fun h => ⟨(h5 h).1, ?_⟩⟩
    rw [(h5 h).2, hR.2.1]
    exact hin _ (Rd.P_bad _ _ _ _ _ _ _ hP)
  | .ok z [] n, hP, hR =>
    refine ⟨fun h => ?_, fun h => ⟨(h5 h).1, ?_⟩⟩
    · obtain rfl := (h4 h).1
      obtain rfl := hR.2.1 (hR.1.symm.trans h)
      obtain ⟨g1, g2, g3, g4⟩ : x.part = true ∧ n = 0 + x.cnt ∧ 0 + x.dep ≤ 12 ∧ n ≤ 8192 := Rd.P_good _ _ _ _ _ _ _ _ hP (fun m hm => (hT.ok (Nat.zero_le _) m hm).mt) (Nat.zero_le _)
      refine ⟨?_, read_wt hT hP hl, (h4 h).2⟩
      unfold JV.may
      rw [g1, decide_eq_true (by omega), decide_eq_true (by omega)]
      rfl
    · rw [(h5 h).2, hR.2.2 (fun h0 => h (hR.1.trans h0))]
      exact hat.1
  | .ok z (m :: ms') n, hP, hR =>
    have hR' : e = 11 ∧ q = m.a := hR
    refine ⟨fun h => by omega, fun h => ⟨(h5 h).1, ?_⟩⟩
    rw [(h5 h).2, hR'.2]
    exact hat.2 m (Rd.P_rest hP m List.mem_cons_self)
end

section
open Go.RowKit

set_option maxHeartbeats 8000000 in
set_option maxRecDepth 5000 in
theorem law_ReadMay (s : ByteArray) (w : World) (hs : s.size ≤ maxLen) (hT : TabL w) :
    Calls Tryz.prog 5 #[.string s] w fun e w' => e = .returned (.bool true) ∧ Below w.heap.size w w' := by
  obtain ⟨l, rfl⟩ := as_S s
  rw [S_size] at hs
  obtain ⟨L, hL⟩ : ∃ L : Int, L = (l.length : Int) := ⟨_, rfl⟩
  have hsz : ((S l).size : Int) = L := by rw [S_size, hL]
  have HL := Lib.hid hL
  clear hL hs
  by_cases h2 : (20000 : Int) < L
  · go_enter Tryz.func5, Tryz.ntmps5
    go_wp2_with fail
    refine (awake_any _ hT).mono ?_; rintro e w1 ⟨rfl, b1⟩
    go_wp2_with fail
    go_ret
    exact ⟨rfl, b1⟩
  have hl2 : Hid (l.length ≤ 20000) := by have := HL.out; show l.length ≤ 20000; omega
  go_enter Tryz.func5, Tryz.ntmps5
  go_wp2_with fail
  refine (awake_any _ hT).mono ?_; rintro e w1 ⟨rfl, b1⟩
  have T1 := hT.below b1
  have HB1 := Lib.hid b1
  have cR := readRead_any l w1 T1
  clear b1 T1
  go_wp2_with fail
  refine cR.mono ?_; rintro e w2 ⟨u, x, pl, er, rfl, hr, hu, b2⟩
  obtain ⟨hm1, hm2⟩ := rd_may hr hl2.out
  obtain ⟨uk, un, ut, ua, ub, ui, uj, uca, ucb, rfl⟩ := hu.open'
  obtain ⟨cs, ecs, hcp⟩ := hu
  have hv2 : HV w2 (.agg #[.int .u8 uk, .int .i64 un, .string ut, .slice ua ui uca, .slice ub uj ucb]) x := ⟨cs, ecs, hcp.hc⟩
  obtain ⟨W3, hW3⟩ : ∃ W, W = w2.alloc (.cells #[.int .u8 uk, .int .i64 un, .string ut, .slice ua ui uca, .slice ub uj ucb] 26) := ⟨_, rfl⟩
  have b3 : Below w2.heap.size w2 W3 := by rw [hW3]; exact (Below.refl _ _).alloc (Nat.le_refl _) _
  have hv3 := hv2.below b3
  have V3 : VAt w2.heap.size W3 (.int .u8 uk) (.int .i64 un) (.string ut) (.slice ua ui uca) (.slice ub uj ucb) := by rw [hW3]; exact VAt.new ..
  have B3 := HB1.out.trans ((b2.trans (b3.mono b2.size)).mono HB1.out.size)
  have HB3 := Lib.hid B3
  obtain ⟨eI, heI⟩ : ∃ z : Int, z = (er : Int) := ⟨_, rfl⟩
  obtain ⟨pI, hpI⟩ : ∃ z : Int, z = (pl : Int) := ⟨_, rfl⟩
  have HE := Lib.hid heI
  have HP := Lib.hid hpI
  rw [← heI, ← hpI]
  clear cR hr b2 b3 hv2 hcp ecs heI hpI B3
  by_cases he : eI = 0
  · subst he
    obtain ⟨g1, g2, g3⟩ := hm1 (by have := HE.out; omega)
    have hp0 : pI = 0 := by rw [HP.out, g3]; rfl
    have c1 := refMay_any x W3 _ g2 hv3
    rw [g1] at c1
    have HG1 := Lib.hid g1
    have HG2 := Lib.hid g2
    have HV3 := Lib.hid hv3
    have HVA := Lib.hid V3
    subst hp0
    clear hm1 hm2 g1 g2 g3 hv3 V3
    go_wp2_with fail
    rw [← hW3]
    clear hW3
    refine c1.mono ?_; rintro e w4 ⟨rfl, b4⟩
    have c2 := may_any x w4 _ HG2.out (HV3.out.below b4) HG1.out
    obtain ⟨⟨q0, q1, q2, q3, q4⟩, qf⟩ := (HVA.out.below b4).cells
    have HB4 := Lib.hid (HB3.out.trans (b4.mono HB3.out.size))
    clear c1 b4
    go_wp2_with fail
    refine c2.mono ?_; rintro e w5 ⟨rfl, b5⟩
    have HB5 := Lib.hid (HB4.out.trans (b5.mono HB4.out.size))
    clear c2 b5
    go_wp2_with fail
    go_ret
    exact ⟨rfl, HB5.out⟩
  · have hb : (eI != 0) = true := bne_iff_ne.2 he
    obtain ⟨g1, g2⟩ := hm2 (by have := HE.out; omega)
    subst g1
    have c1 := refSame_any _ J0 J0 (Nat.le_refl _) W3 _ _ hv3 (show HV W3 (.agg #[.int .u8 0, .int .i64 0, .string ⟨#[]⟩, .slice none 0 0, .slice none 0 0]) J0 from ⟨_, rfl, (HCp.bare (fun _ => True) W3 0 0 [] (by omega) (by omega) (Nat.zero_le _)).hc⟩)
    rw [JV.same_yes J0] at c1
    have h0 : (0 : Int) ≤ pI := by rw [HP.out]; omega
    have h1 : pI ≤ L := by rw [HP.out, HL.out]; omega
    clear hm1 hm2 g2 hv3 he V3
    go_wp2_with fail
    rw [← hW3]
    clear hW3
    refine c1.mono ?_; rintro e w4 ⟨rfl, b4⟩
    have HB4 := Lib.hid (HB3.out.trans (b4.mono HB3.out.size))
    clear c1 b4
    go_wp2_with fail
    go_ret
    exact ⟨rfl, HB4.out⟩
end
end Go.Proofs.YtoipjlhddpeicaaGreatDoor
