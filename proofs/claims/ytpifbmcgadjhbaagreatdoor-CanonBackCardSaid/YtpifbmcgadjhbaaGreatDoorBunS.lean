/-
  Iter, ReadOut, ReadObj, ReadFrom, ReadWhole, ReadProg, ReadEx, ValRefMay2, ReadFact, ReadMor, ReadStop, ReadTx, ReadFacts, ReadJoin, ValRefSame, ReadAwake: one text.
-/
import Derived.Shelf.SlIter.Nil
import Derived.Shelf.SortM.Plain
import Derived.Shelf.SortM.SortNone
import Derived.Ground.GgzProg
import Derived.Ground.SlgmProg
import Derived.Test.YtpifbmcgadjhbaaGreatDoorProg
import Derived.Test.YtpifbmcgadjhbaaGreatDoorBunR
import Derived.Lib.AppendZeros
import Derived.Deep.AppendLies
import Derived.Test.YtpifbmcgadjhbaaGreatDoorValRefMay
import Derived.Test.YtpifbmcgadjhbaaGreatDoorLexRows
import Derived.Test.YtpifbmcgadjhbaaGreatDoorValRefCnt
import Derived.BigQuiet
import Derived.Deep.QuietTactic
import Derived.Lib.QuietBelow
namespace Go.Proofs.YtpifbmcgadjhbaaGreatDoor
section
open Go.RowKit Go.Maps Go.Sort Go.Shelf
def keysL_ren : Go.Shelf.Ren := ⟨fun | 7 => 104 | 10 => 124 | n => n, fun | 23 => 125 | 26 => 9 | 3 => 26 | 28 => 129 | 0 => 0 | 27 => 128 | 33 => 31 | 4 => 4 | n => n, fun | n => n⟩
theorem keysL : Go.Proofs.SlLaysZ.n7 Tryz.prog keysL_ren := {
  mixed := by kernel_rfl
  f7 := ⟨Tryz.f104.name, by decide, Tryz.func104.trans (congrArg some (by kernel_rfl))⟩
  f10 := ⟨Tryz.f124.name, by decide, Tryz.func124.trans (congrArg some (by kernel_rfl))⟩
  t0 := Tryz.underlying0
  a0 := Tryz.isAgg0
  z0 := Tryz.sizeOf0
  v0 := Tryz.zeroValue0
  t4 := Tryz.underlying4
  a4 := Tryz.isAgg4
  z4 := Tryz.sizeOf4
  v4 := Tryz.zeroValue4
  t23 := Tryz.underlying125
  a23 := Tryz.isAgg125
  z23 := Tryz.sizeOf125
  v23 := Tryz.zeroValue125
  t26 := Tryz.underlying9
  a26 := Tryz.isAgg9
  z26 := Tryz.sizeOf9
  v26 := Tryz.zeroValue9
  t27 := Tryz.underlying128
  a27 := Tryz.isAgg128
  z27 := Tryz.sizeOf128
  v27 := Tryz.zeroValue128
  t28 := Tryz.underlying129
  a28 := Tryz.isAgg129
  z28 := Tryz.sizeOf129
  v28 := Tryz.zeroValue129
  t33 := Tryz.underlying31
  a33 := Tryz.isAgg31
  z33 := Tryz.sizeOf31
  v33 := Tryz.zeroValue31 }
def sortedL_ren : Go.Shelf.Ren := ⟨fun | 6 => 103 | 8 => 122 | 9 => 123 | 11 => 135 | 13 => 137 | 12 => 136 | 23 => 157 | 24 => 131 | 14 => 148 | 15 => 149 | 16 => 150 | 17 => 151 | 18 => 152 | 19 => 153 | 20 => 154 | 21 => 155 | 22 => 156 | 25 => 163 | 26 => 164 | 27 => 165 | 28 => 166 | 29 => 167 | 30 => 168 | 31 => 183 | n => n, fun | 26 => 9 | 28 => 129 | 24 => 23 | 0 => 0 | 3 => 3 | 37 => 51 | 48 => 151 | 50 => 139 | 4 => 4 | 40 => 164 | 39 => 163 | 45 => 96 | 5 => 5 | 9 => 9 | 51 => 173 | 55 => 177 | 57 => 194 | 58 => 195 | 33 => 31 | n => n, fun | n => n⟩
theorem sortedL : Go.Proofs.SlLaysZ.n6 Tryz.prog sortedL_ren := {
  mixed := by kernel_rfl
  f6 := ⟨Tryz.f103.name, by decide, Tryz.func103.trans (congrArg some (by kernel_rfl))⟩
  f8 := ⟨Tryz.f122.name, by decide, Tryz.func122.trans (congrArg some (by kernel_rfl))⟩
  f11 := ⟨Tryz.f135.name, by decide, Tryz.func135.trans (congrArg some (by kernel_rfl))⟩
  t0 := Tryz.underlying0
  a0 := Tryz.isAgg0
  z0 := Tryz.sizeOf0
  v0 := Tryz.zeroValue0
  t24 := Tryz.underlying23
  a24 := Tryz.isAgg23
  z24 := Tryz.sizeOf23
  v24 := Tryz.zeroValue23
  t26 := Tryz.underlying9
  a26 := Tryz.isAgg9
  z26 := Tryz.sizeOf9
  v26 := Tryz.zeroValue9
  t28 := Tryz.underlying129
  a28 := Tryz.isAgg129
  z28 := Tryz.sizeOf129
  v28 := Tryz.zeroValue129
  i26 := by kernel_rfl }
def sortL_ren : Go.Shelf.Ren := ⟨fun | 6 => 123 | 8 => 137 | 9 => 136 | 19 => 157 | 20 => 131 | 21 => 148 | 22 => 149 | 23 => 150 | 24 => 151 | 25 => 152 | 26 => 153 | 27 => 154 | 28 => 155 | 29 => 156 | 36 => 163 | 31 => 164 | 32 => 165 | 37 => 166 | 38 => 167 | 39 => 168 | 41 => 183 | n => n, fun | 27 => 23 | 29 => 9 | 3 => 3 | 32 => 51 | 26 => 23 | 0 => 0 | 44 => 151 | 46 => 139 | 4 => 4 | 36 => 164 | 35 => 163 | 41 => 96 | 5 => 5 | 9 => 9 | 53 => 173 | 57 => 177 | 63 => 194 | 64 => 195 | n => n, fun | n => n⟩
theorem sortL : Go.Proofs.SlLaysM.n6 Tryz.prog sortL_ren := {
  mixed := by kernel_rfl
  f6 := ⟨Tryz.f123.name, by decide, Tryz.func123.trans (congrArg some (by kernel_rfl))⟩
  f8 := Tryz.func137.trans (congrArg some (by kernel_rfl))
  f9 := ⟨Tryz.f136.name, by decide, Tryz.func136.trans (congrArg some (by kernel_rfl))⟩
  f19 := Tryz.func157.trans (congrArg some (by kernel_rfl))
  f20 := Tryz.func131.trans (congrArg some (by kernel_rfl))
  f21 := ⟨Tryz.f148.name, by decide, Tryz.func148.trans (congrArg some (by kernel_rfl))⟩
  f22 := ⟨Tryz.f149.name, by decide, Tryz.func149.trans (congrArg some (by kernel_rfl))⟩
  f23 := ⟨Tryz.f150.name, by decide, Tryz.func150.trans (congrArg some (by kernel_rfl))⟩
  f24 := ⟨Tryz.f151.name, by decide, Tryz.func151.trans (congrArg some (by kernel_rfl))⟩
  f25 := ⟨Tryz.f152.name, by decide, Tryz.func152.trans (congrArg some (by kernel_rfl))⟩
  f26 := ⟨Tryz.f153.name, by decide, Tryz.func153.trans (congrArg some (by kernel_rfl))⟩
  f27 := ⟨Tryz.f154.name, by decide, Tryz.func154.trans (congrArg some (by kernel_rfl))⟩
  f28 := ⟨Tryz.f155.name, by decide, Tryz.func155.trans (congrArg some (by kernel_rfl))⟩
  f29 := ⟨Tryz.f156.name, by decide, Tryz.func156.trans (congrArg some (by kernel_rfl))⟩
  f31 := Tryz.func164.trans (congrArg some (by kernel_rfl))
  f32 := Tryz.func165.trans (congrArg some (by kernel_rfl))
  f36 := ⟨Tryz.f163.name, by decide, Tryz.func163.trans (congrArg some (by kernel_rfl))⟩
  f37 := ⟨Tryz.f166.name, by decide, Tryz.func166.trans (congrArg some (by kernel_rfl))⟩
  f38 := ⟨Tryz.f167.name, by decide, Tryz.func167.trans (congrArg some (by kernel_rfl))⟩
  f39 := ⟨Tryz.f168.name, by decide, Tryz.func168.trans (congrArg some (by kernel_rfl))⟩
  f41 := ⟨Tryz.f183.name, by decide, Tryz.func183.trans (congrArg some (by kernel_rfl))⟩
  t0 := Tryz.underlying0
  a0 := Tryz.isAgg0
  z0 := Tryz.sizeOf0
  v0 := Tryz.zeroValue0
  t3 := Tryz.underlying3
  a3 := Tryz.isAgg3
  z3 := Tryz.sizeOf3
  v3 := Tryz.zeroValue3
  t4 := Tryz.underlying4
  a4 := Tryz.isAgg4
  z4 := Tryz.sizeOf4
  v4 := Tryz.zeroValue4
  t5 := Tryz.underlying5
  a5 := Tryz.isAgg5
  z5 := Tryz.sizeOf5
  v5 := Tryz.zeroValue5
  t9 := Tryz.underlying9
  a9 := Tryz.isAgg9
  z9 := Tryz.sizeOf9
  v9 := Tryz.zeroValue9
  t26 := Tryz.underlying23
  a26 := Tryz.isAgg23
  z26 := Tryz.sizeOf23
  v26 := Tryz.zeroValue23
  t27 := Tryz.underlying23
  a27 := Tryz.isAgg23
  z27 := Tryz.sizeOf23
  v27 := Tryz.zeroValue23
  t29 := Tryz.underlying9
  a29 := Tryz.isAgg9
  z29 := Tryz.sizeOf9
  v29 := Tryz.zeroValue9
  t32 := Tryz.underlying51
  a32 := Tryz.isAgg51
  z32 := Tryz.sizeOf51
  v32 := Tryz.zeroValue51
  t35 := Tryz.underlying163
  a35 := Tryz.isAgg163
  z35 := Tryz.sizeOf163
  v35 := Tryz.zeroValue163
  t36 := Tryz.underlying164
  a36 := Tryz.isAgg164
  z36 := Tryz.sizeOf164
  v36 := Tryz.zeroValue164
  t41 := Tryz.underlying96
  a41 := Tryz.isAgg96
  z41 := Tryz.sizeOf96
  v41 := Tryz.zeroValue96
  t44 := Tryz.underlying151
  a44 := Tryz.isAgg151
  z44 := Tryz.sizeOf151
  v44 := Tryz.zeroValue151
  t46 := Tryz.underlying139
  a46 := Tryz.isAgg139
  z46 := Tryz.sizeOf139
  v46 := Tryz.zeroValue139
  t53 := Tryz.underlying173
  a53 := Tryz.isAgg173
  z53 := Tryz.sizeOf173
  v53 := Tryz.zeroValue173
  t57 := Tryz.underlying177
  a57 := Tryz.isAgg177
  z57 := Tryz.sizeOf177
  v57 := Tryz.zeroValue177
  t63 := Tryz.underlying194
  a63 := Tryz.isAgg194
  z63 := Tryz.sizeOf194
  v63 := Tryz.zeroValue194
  t64 := Tryz.underlying195
  a64 := Tryz.isAgg195
  z64 := Tryz.sizeOf195
  v64 := Tryz.zeroValue195 }
theorem sorts_at (m : Nat) : AnyZ.SortsIn Tryz.prog sortedL_ren Fence.wide m :=
  ⟨fun blk off cap ss W hH hblk hsz => callsIn_wide.2 (AnyM.slices_Sort_string sortL blk off cap ss W hH hblk hsz),
   fun p cap W => callsIn_wide.2 (AnyM.slices_Sort_string_none sortL p cap W)⟩

theorem keys_at (mb : Option Nat) (W : World) : CallsIn Fence.wide 5 Tryz.prog 104 #[.map mb] W fun e w' => e = .returned (.func (.func 124) #[] #[.pointer (some ⟨W.heap.size, 0, none⟩)]) ∧ w' = W.alloc (.cells #[.map mb] 125) :=
  AnyZ.keys_in keysL Fence.wide 5 trivial rfl mb W

set_option maxHeartbeats 1000000 in
theorem sorted_at {H : Type} (b nn : Nat) (D0 : DataW H) (R : Value → Option (DataW H × List MemPlace)) (w : World) (hown : w.ownsMap Tryz.prog 9 R b nn D0) (hmax : Maps.size D0 ≤ maxLen) (hbytes : Maps.size D0 * 16 ≤ 140737488355328) :
    CallsIn Fence.wide 5 Tryz.prog 103 #[.func (.func 124) #[] #[.pointer (some ⟨w.heap.size, 0, none⟩)]] (w.alloc (.cells #[.map (some b)] 125)) fun e w' => ∃ (v : Value) (ss : List (List UInt8)), e = .returned v ∧ ss.Perm (strKeys D0) ∧
      w'.ownsRow (w.alloc (.cells #[.map (some b)] 125)).heap.size 9 1 v ss.length ((ss.mergeSort (fun x y => decide (x ≤ y))).map encStr) ∧ (v = .slice none 0 0 ↔ ss = []) ∧ Below (w.alloc (.cells #[.map (some b)] 125)).heap.size (w.alloc (.cells #[.map (some b)] 125)) w' := by
  have hbl := hown.lt
  have hseq : SeqGives Fence.wide 2 Tryz.prog 124 #[.pointer (some ⟨w.heap.size, 0, none⟩)] encStr (fun ss => ss.Perm (strKeys D0)) (Maps.size D0) (w.alloc (.cells #[.map (some b)] 125)) :=
    AnyZ.keys_gives (ρ := keysL_ren) { keysL with } Fence.wide _ trivial rfl (by omega) w.heap.size b nn D0 _ (by simp) (by simp) (by
      obtain ⟨es, clock, hb, Ft, hs, hD⟩ := hown
      exact ⟨es, clock, (Below.heap_alloc _ _ b hbl).trans hb, Ft, hs, hD⟩)
  exact AnyZ.sorted_in sortedL Fence.wide 5 trivial trivial trivial trivial rfl (by omega) (sorts_at _) (enters_of Tryz.func123 (by kernel_rfl) rfl) 124 #[.pointer (some ⟨w.heap.size, 0, none⟩)] trivial (enters_of Tryz.func124 (by kernel_rfl) rfl) _ _ hmax hbytes _ hseq
end

section
open Go.RowKit Go.Maps

structure OI (rb mb ob : Nat) (w wr : World) (ns : List (List UInt8)) (is : List JV) (k : Nat) (nv xv : Value) : Prop where
  kr : Kr rb w wr
  low : w.heap.size ≤ mb
  rbl : rb < w.heap.size
  row : ∃ vs, wr.ownsMap Tryz.prog 9 RV mb ns.length (.map (ME ns vs)) ∧ VS (fun b => mb + 1 ≤ b ∧ b < ob) wr vs is ∧ ns.length = vs.length
  rise : Rd.Rise ns
  mob : mb < ob
  nown : wr.ownsRow (mb + 1) 9 1 nv ns.length (NC ns)
  nlow : ∀ b, nv.ownBlock = some b → b < ob
  out : VAt ob wr (.int .u8 5) (.int .i64 0) (.string ⟨#[]⟩) nv xv
  own : ∃ cs, wr.ownsRow (ob + 1) 26 5 xv k cs ∧ HCSp (fun b => mb + 1 ≤ b ∧ b < ob) wr cs (is.take k)
theorem OI.step {rb mb ob : Nat} {w wr : World} {ns : List (List UInt8)} {is : List JV} {k : Nat} {nv xv : Value} (h : OI rb mb ob w wr ns is k nv xv) (hk : k < ns.length) (hn : ns.length ≤ 60000) {l : List UInt8} (hl : ns[k]? = some l) (hll : l.length ≤ maxLen) :
    ∃ (uk un : Int) (ut : ByteArray) (ua ub : Option Addr) (ui uj uca ucb : Nat) (pb : Option Addr) (lb kb : Nat) (W3 w4 : World),
      W3 = wr.alloc (.cells #[.int .u8 uk, .int .i64 un, .string ut, .slice ua ui uca, .slice ub uj ucb] 26) ∧
      (Instr.lookup 125 (.map (some mb)) (.string (S l)) false).run Tryz.prog wr = .ok (.agg #[.int .u8 uk, .int .i64 un, .string ut, .slice ua ui uca, .slice ub uj ucb]) wr ∧
      (Builtin.append_ #[24, 24] 24 #[xv, .slice (some ⟨wr.heap.size, 0, none⟩) 1 1]).run Tryz.prog W3 = .ok (.slice pb lb kb) w4 ∧
      VAt ob w4 (.int .u8 5) (.int .i64 0) (.string ⟨#[]⟩) nv xv ∧ (∀ q, q < ob → w4.heap[q]? = wr.heap[q]?) ∧ wr.heap.size ≤ w4.heap.size ∧
      OI rb mb ob w (w4.setCell ⟨ob, 4, none⟩ (.slice pb lb kb)) ns is (k + 1) nv (.slice pb lb kb) := by
  obtain ⟨i0, hi0, hz0, hz1, hz2⟩ := info_parts info_val
  obtain ⟨vs, m1, m2, m3⟩ := h.row
  obtain ⟨cs, o1, o2⟩ := h.own
  have hik : k < is.length := by rw [← m2.len, ← m3]; exact hk
  obtain ⟨x, hx⟩ : ∃ x, is[k]? = some x := ⟨_, List.getElem?_eq_getElem hik⟩
  obtain ⟨v, hv, hu⟩ := m2.at' hx
  obtain ⟨v', ps, hr, hR⟩ := m1.lookup members_keyed Tryz.underlying125 (zero_val wr) (zd := .held _) (zp := []) rfl (key_S hll)
  rw [ME_at ns vs k v m3 (rise_nodup h.rise) hl hv] at hR
  simp only [RV, Option.some.injEq, Prod.mk.injEq, DataW.held.injEq] at hR
  obtain ⟨rfl, _⟩ := hR
  obtain ⟨ks, rfl, hc⟩ := hu
  obtain ⟨ya, yb, yca, ycb, rfl, hJ, _⟩ := hc.one
  obtain ⟨W3, hW3⟩ : ∃ W, W = wr.alloc (.cells #[.int .u8 (x.k : Int), .int .i64 x.n, .string (S x.t), .slice ya x.ns.length yca, .slice yb x.is.length ycb] 26) := ⟨_, rfl⟩
  have b3 : Below wr.heap.size wr W3 := by rw [hW3]; exact (Below.refl _ _).alloc (Nat.le_refl _) _
  have hob : ob < wr.heap.size := (Array.getElem?_eq_some_iff.1 h.out).1
  have o3 : W3.ownsRow (ob + 1) 26 5 xv k cs := by rw [hW3]; exact o1.alloc _
  have hone : ∀ u ∈ [Value.int .u8 (x.k : Int), .int .i64 x.n, .string (S x.t), .slice ya x.ns.length yca, .slice yb x.is.length ycb], u.oneCell' = true := fun u hu => by
    simp only [List.mem_cons, List.not_mem_nil, or_false] at hu
    rcases hu with rfl | rfl | rfl | rfl | rfl <;> rfl
  obtain ⟨vB, w4, hr2, p2, g2, _, g4⟩ := run_append_own_at (P := Tryz.prog) W3 (ob + 1) 24 24 26 i0 (.agg V5) 5 80 Tryz.underlying24 hi0 hz0 hz1 hz2 rfl (by decide) xv k cs o3 ⟨wr.heap.size, 0, none⟩ 1 1 [.int .u8 (x.k : Int), .int .i64 x.n, .string (S x.t), .slice ya x.ns.length yca, .slice yb x.is.length ycb] rfl
    (by rw [hW3]; exact World.news_of_block (cs := #[.int .u8 (x.k : Int), .int .i64 x.n, .string (S x.t), .slice ya x.ns.length yca, .slice yb x.is.length ycb]) (t := 26) (fr := (0, 0)) (heap_alloc_new wr _)) hone (by unfold maxLen; omega) (by omega) (by have := b3.size; omega)
  obtain ⟨pb, kb, rfl⟩ := len_slice p2
  obtain ⟨lb, hlb⟩ : ∃ z, z = k + 1 := ⟨_, rfl⟩
  rw [← hlb] at hr2 p2
  have st : ∀ q, q < wr.heap.size → some q ≠ xv.ownBlock → w4.heap[q]? = wr.heap[q]? := fun q hq he => (g2.block q (Nat.lt_of_lt_of_le hq b3.size) he).trans (b3.block q hq)
  have lowx : ∀ q, q ≤ ob → some q ≠ xv.ownBlock := fun q hq e => by have := (o1.lt q e.symm).1; omega
  have s4 : wr.heap.size ≤ w4.heap.size := Nat.le_trans b3.size g2.size
  have O4 : VAt ob w4 (.int .u8 5) (.int .i64 0) (.string ⟨#[]⟩) nv xv := (st ob hob (lowx ob (Nat.le_refl _))).trans h.out
  have lo : ∀ q, q < ob → (w4.setCell ⟨ob, 4, none⟩ (.slice pb lb kb)).heap[q]? = wr.heap[q]? := fun q hq => (heap_setCell_other w4 ⟨ob, 4, none⟩ q _ (by show q ≠ ob; omega)).trans (st q (by omega) (lowx q (by omega)))
  refine ⟨(x.k : Int), x.n, S x.t, ya, yb, x.ns.length, x.is.length, yca, ycb, pb, lb, kb, W3, w4, hW3, hr, hr2, O4, fun q hq => st q (by omega) (lowx q (by omega)), s4, ?_⟩
  have hrb := h.rbl
  have hlow := h.low
  have hmob := h.mob
  refine ⟨⟨?_, ?_, ?_, ?_, fun q hq hne => (lo q (by omega)).trans (h.kr.block q hq hne)⟩, hlow, hrb, ⟨vs, owns_stay m1 (lo mb hmob), VS.stay (fun b hb _ => ⟨hb, lo b hb.2⟩) m2, m3⟩, h.rise, hmob, own_stay h.nown fun b e => lo b (h.nlow b e), h.nlow, O4.set4 _, cs ++ [.int .u8 (x.k : Int), .int .i64 x.n, .string (S x.t), .slice ya x.ns.length yca, .slice yb x.is.length ycb], ?_, ?_⟩
  · exact g2.os.trans (b3.os.trans h.kr.os)
  · exact g2.tape.trans (b3.tape.trans h.kr.tape)
  · exact g2.output.trans (b3.output.trans h.kr.output)
  · have := h.kr.size; simp; omega
  · rw [hlb] at p2 ⊢
    exact ownsRow_setCell_below (a := ⟨ob, 4, none⟩) p2 (by show ob < _; omega) _
  · rw [List.take_add_one, hx]
    exact HCSp.app (HCSp.stay (fun b hb _ => ⟨hb, lo b hb.2⟩) _ _ o2) (HCSp.one (HCp.stay (fun b hb _ => ⟨hb, lo b hb.2⟩) _ _ hc))
theorem OI.hf {rb mb ob : Nat} {w wr : World} {ns : List (List UInt8)} {is : List JV} {k : Nat} {nv xv : Value} (h : OI rb mb ob w wr ns is k nv xv) (hk : k = ns.length) (hn : ns.length ≤ 60000) (hl : ∀ z ∈ ns, z.length ≤ maxLen) : HF (mb + 1) wr (.agg #[.int .u8 5, .int .i64 0, .string ⟨#[]⟩, nv, xv]) (.mk 5 0 [] ns is) := by
  obtain ⟨vs, _, m2, m3⟩ := h.row
  have hil : ns.length = is.length := by rw [m3, m2.len]
  obtain ⟨cs, o1, o2⟩ := h.own
  rw [hk, show is.take ns.length = is by rw [hil]; exact List.take_length] at o2
  rw [hk] at o1
  have o2' := HCSp.stay (Q := fun b => mb + 1 ≤ b) (fun b hb _ => ⟨hb.1, rfl⟩) _ _ o2
  have h1 : ∃ a ca, nv = .slice a ns.length ca ∧ (ns = [] ∨ ∃ blk off, a = some ⟨blk, off, none⟩ ∧ mb + 1 ≤ blk ∧ ∀ i x, ns[i]? = some x → wr.cell? ⟨blk, off + i, none⟩ = some (.string (S x)) ∧ wr.frozen? ⟨blk, off + i, none⟩ = false) := by
    rcases own_cells h.nown with ⟨h1, h2⟩ | ⟨g, cap, h1, h2, h3, _, h4, h5⟩
    · exact ⟨none, 0, by rw [h1, h2], .inl (List.length_eq_zero_iff.1 h2)⟩
    · refine ⟨_, cap, h1, .inr ⟨g, 0, rfl, h2, fun i x hx => ⟨?_, h5 _⟩⟩⟩
      rw [Nat.zero_add]
      exact h4 i _ (by simp only [NC, List.getElem?_map, hx]; rfl)
  have hmo := h.mob
  have h2 : ∃ b cb, xv = .slice b is.length cb ∧ (is = [] ∨ ∃ blk off, b = some ⟨blk, off, none⟩ ∧ mb + 1 ≤ blk ∧ HIp (fun b => mb + 1 ≤ b) wr blk off is) := by
    rcases own_cells o1 with ⟨h1, h2⟩ | ⟨g, cap, h1, h2, h3, _, h4, h5⟩
    · rw [hil] at h2
      exact ⟨none, 0, by rw [h1, h2], .inl (List.length_eq_zero_iff.1 h2)⟩
    · refine ⟨_, cap, by rw [h1, hil], .inr ⟨g, 0, rfl, by omega, HIp.of_cells h5 o2' fun j c hj => ?_⟩⟩
      rw [Nat.zero_add]
      exact h4 j c hj
  obtain ⟨a, ca, rfl, h1⟩ := h1
  obtain ⟨b, cb, rfl, h2⟩ := h2
  refine ⟨[.int .u8 5, .int .i64 0, .string ⟨#[]⟩, .slice a ns.length ca, .slice b is.length cb], rfl, ?_⟩
  unfold HCp
  exact ⟨a, b, ca, cb, rfl, ⟨by omega, by omega, Nat.zero_le _, by unfold maxLen; omega, by unfold maxLen; omega, hl⟩, h1, h2⟩
end

section
open Go.RowKit Go.Maps Go.Sort

theorem LO.names_le {rb mb : Nat} {X : Nat → Prop} {w : World} {ns : List (List UInt8)} {is : List JV} (h : LO rb mb X w ns is) : ∀ z ∈ ns, z.length ≤ maxLen := by
  obtain ⟨vs, h1, _, h3⟩ := h.row
  have := strKeys_le h1 Tryz.underlying9
  rwa [ME_keys ns vs h3] at this
theorem members_sorted {rb mb : Nat} {X : Nat → Prop} {w : World} {ns : List (List UInt8)} {is : List JV} (h : LO rb mb X w ns is) (hn : ns.length ≤ 60000) :
    Calls Tryz.prog 104 #[.map (some mb)] w (fun e w' => e = .returned (.func (.func 124) #[] #[.pointer (some ⟨w.heap.size, 0, none⟩)]) ∧ w' = w.alloc (.cells #[.map (some mb)] 125)) ∧
    Calls Tryz.prog 103 #[.func (.func 124) #[] #[.pointer (some ⟨w.heap.size, 0, none⟩)]] (w.alloc (.cells #[.map (some mb)] 125)) fun e w' => ∃ (a : Option Addr) (c : Nat), e = .returned (.slice a ns.length c) ∧
      w'.ownsRow (w.heap.size + 1) 9 1 (.slice a ns.length c) ns.length (NC ns) ∧ Below (w.heap.size + 1) (w.alloc (.cells #[.map (some mb)] 125)) w' := by
  obtain ⟨vs, h1, h2, h3⟩ := h.row
  refine ⟨callsIn_wide.1 (keys_at (some mb) w), ?_⟩
  have hc := callsIn_wide.1 (sorted_at mb ns.length _ RV w h1 (by rw [ME_size ns vs h3]; unfold maxLen; omega) (by rw [ME_size ns vs h3]; omega))
  have hs : (w.alloc (.cells #[.map (some mb)] 125)).heap.size = w.heap.size + 1 := by simp
  rw [hs] at hc
  refine hc.mono ?_
  rintro e w' ⟨v, ss, rfl, hp, ho, _, hb⟩
  rw [ME_keys ns vs h3] at hp
  rw [sort_rise h.rise hp, hp.length_eq] at ho
  obtain ⟨a, c, rfl⟩ : ∃ a c, v = .slice a ns.length c := by
    rcases ho.2 with ⟨rfl, h0⟩ | ⟨g, cap, cur, rfl, _⟩
    · exact ⟨none, 0, by rw [h0]⟩
    · exact ⟨_, _, rfl⟩
  exact ⟨a, c, rfl, ho, hb⟩
set_option maxHeartbeats 4000000 in
set_option maxRecDepth 5000 in
theorem object_any {w0 w : World} {rb : Nat} {l : List UInt8} {E : Nat × Nat} {K : Nat} (hF : FromOK w0 rb l E K) {ms : List Lm.Mark} {p pl n d : Nat} (hlen : ms.length ≤ K) (hS : RS w0 rb l w p pl n (d + 1)) (hT : TS l p ms E) (hn : n ≤ 8192) (hd : d + 1 ≤ 12) :
    Calls Tryz.prog 83 #[.pointer (some ⟨rb, 0, none⟩)] w fun en w' => ∃ r, RO E d ms n r ∧ NRes w0 rb l E d w r en w' := by
  obtain ⟨b0, hb0⟩ : ∃ b, b = w.heap.size := ⟨_, rfl⟩
  obtain ⟨W1, hW1⟩ : ∃ W, W = w.alloc (.cells #[.pointer (some ⟨rb, 0, none⟩)] 84) := ⟨_, rfl⟩
  obtain ⟨W2, hW2⟩ : ∃ W, W = W1.alloc (.cells V5 26) := ⟨_, rfl⟩
  obtain ⟨W3, hW3⟩ : ∃ W, W = W2.alloc (.map #[] 0) := ⟨_, rfl⟩
  obtain ⟨W4, hW4⟩ : ∃ W, W = W3.alloc (.cells #[.map (some (b0 + 2))] 125) := ⟨_, rfl⟩
  have s1 : W1.heap.size = b0 + 1 := by rw [hW1, hb0]; simp
  have s2 : W2.heap.size = b0 + 2 := by rw [hW2]; simp [s1]
  have s3 : W3.heap.size = b0 + 3 := by rw [hW3]; simp [s2]
  have s4 : W4.heap.size = b0 + 4 := by rw [hW4]; simp [s3]
  have g1 : Below w.heap.size w W1 := by rw [hW1]; exact (Below.refl _ _).alloc (Nat.le_refl _) _
  have q12 : Below W1.heap.size W1 W2 := by rw [hW2]; exact (Below.refl _ _).alloc (Nat.le_refl _) _
  have q23 : Below W2.heap.size W2 W3 := by rw [hW3]; exact (Below.refl _ _).alloc (Nat.le_refl _) _
  have q34 : Below W3.heap.size W3 W4 := by rw [hW4]; exact (Below.refl _ _).alloc (Nat.le_refl _) _
  have g4 : Below w.heap.size w W4 := ((g1.trans (q12.mono g1.size)).trans (q23.mono (by rw [s2]; omega))).trans (q34.mono (by rw [s3]; omega))
  have P1 : PB b0 rb W1 := by rw [hW1, hb0]; exact heap_alloc_new ..
  have P4 : PB b0 rb W4 := (q34.block b0 (by omega)).trans ((q23.block b0 (by omega)).trans ((q12.block b0 (by omega)).trans P1))
  have V2 : VAt (b0 + 1) W2 (.int .u8 0) (.int .i64 0) (.string ⟨#[]⟩) (.slice none 0 0) (.slice none 0 0) := by rw [hW2, ← s1]; exact heap_alloc_new ..
  have V4 : VAt (b0 + 1) W4 (.int .u8 0) (.int .i64 0) (.string ⟨#[]⟩) (.slice none 0 0) (.slice none 0 0) := (q34.block (b0 + 1) (by omega)).trans ((q23.block (b0 + 1) (by omega)).trans V2)
  have M3 : W3.ownsMap Tryz.prog 9 RV (b0 + 2) 0 (.map []) := by rw [hW3, ← s2]; exact World.ownsMap_made ..
  have C4 : CB (b0 + 3) (b0 + 2) W4 := by rw [hW4, ← s3]; exact heap_alloc_new ..
  have hrb : rb < b0 := by have := hS.lt; omega
  have L4 : LO rb (b0 + 2) (fun _ => False) W4 [] [] := ⟨⟨[], owns_stay M3 (q34.block (b0 + 2) (by omega)), trivial, rfl⟩, List.Pairwise.nil, by omega, fun _ h => h.elim⟩
  have hw0 : Hid (w0.heap.size ≤ b0) := by rw [hb0]; exact hS.below.size
  have cP := parts_obj hF hlen (hS.grow g4) hT hn hd L4 P4 C4 (by omega) (by omega) (by omega) (by omega)
  have HV4 := Lib.hid V4
  have HC4 := Lib.hid C4
  have HG4 := Lib.hid g4
  have HB0 := Lib.hid hb0
  have HS4 := Lib.hid s4
  have pc1 := P1.cell
  have pc4 := P4.cell
  have cc4 := C4.cell
  clear g1 g4 q12 q23 q34 P1 P4 V2 V4 M3 C4 L4 hS hT hF hlen s1 s2 s3 s4
  rw [show V5 = #[.int .u8 0, .int .i64 0, .string ⟨#[]⟩, .slice none 0 0, .slice none 0 0] from rfl] at hW2
  have hmk : ∀ W : World, (Instr.makeMap 125 none).run Tryz.prog W = .ok (.map (some W.heap.size)) (W.alloc (.map #[] 0)) := fun W => by kernel_rfl
  go_enter Tryz.func83, Tryz.ntmps83
  go_wp2_with fail
  rw [← hW1, ← hW2, ← hW3, ← hb0, show b0 + 1 + 1 + 1 = b0 + 3 from rfl, show b0 + 1 + 1 = b0 + 2 from rfl, ← hW4]
  clear hW1 hW2 hW3 hW4 pc1 pc4 cc4 hb0 hmk
  refine cP.mono ?_; rintro en w5 ⟨r, hR, k5, ns, is, p', pl', n', e, rfl, hL, hlen, s5, hrm⟩
  have c5 : CB (b0 + 3) (b0 + 2) w5 := HC4.out.km (by omega) (by omega) k5
  have v5 : VAt (b0 + 1) w5 (.int .u8 0) (.int .i64 0) (.string ⟨#[]⟩) (.slice none 0 0) (.slice none 0 0) := (k5.block (b0 + 1) (by rw [HS4.out]; omega) (by omega) (by omega)).trans HV4.out
  have hnl : ns.length ≤ 60000 := by rw [hL.len]; omega
  obtain ⟨cK, cS⟩ := members_sorted hL hnl
  have hkr5 : Kr rb w w5 := ⟨k5.os.trans HG4.out.os, k5.tape.trans HG4.out.tape, k5.output.trans HG4.out.output, Nat.le_trans HG4.out.size k5.size, fun b hb hne => (k5.block b (Nat.lt_of_lt_of_le hb HG4.out.size) hne (by rw [← HB0.out] at hb; omega)).trans (HG4.out.block b hb)⟩
  have h5s : b0 + 4 ≤ w5.heap.size := by rw [← HS4.out]; exact k5.size
  have HKR5 := Lib.hid hkr5
  have HR := Lib.hid hR
  have HL5 := Lib.hid hL
  have HLEN := Lib.hid hlen
  have HS5 := Lib.hid s5
  have HRM := Lib.hid hrm
  have HV5 := Lib.hid v5
  have HC5 := Lib.hid c5
  have cc := c5.cell
  clear cP hR k5 hL hlen s5 hrm hkr5 v5 c5
  go_wp2_with fail
  refine cK.mono ?_; rintro en w6 ⟨rfl, rfl⟩
  obtain ⟨z, hz⟩ : ∃ z, z = ns.length := ⟨_, rfl⟩
  rw [← hz] at cS
  have HZ := Lib.hid hz
  clear cK hz
  go_wp2_with fail
  refine cS.mono ?_; rintro en w7 ⟨na, nc, rfl, hN, hb7⟩
  have b7 : Below w5.heap.size w5 w7 := ((Below.refl w5.heap.size w5).alloc (Nat.le_refl _) (.cells #[.map (some (b0 + 2))] 125)).trans (hb7.mono (by omega))
  obtain ⟨ob, hob⟩ : ∃ b, b = w7.heap.size := ⟨_, rfl⟩
  obtain ⟨W8, hW8⟩ : ∃ W, W = w7.alloc (.cells #[.int .u8 5, .int .i64 0, .string ⟨#[]⟩, .slice na z nc, .slice none 0 0] 26) := ⟨_, rfl⟩
  have g8 : Below w7.heap.size w7 W8 := by rw [hW8]; exact (Below.refl _ _).alloc (Nat.le_refl _) _
  have b8 : Below w5.heap.size w5 W8 := b7.trans (g8.mono b7.size)
  have h58 : w5.heap.size ≤ ob := by rw [hob]; exact b7.size
  have O8 : VAt ob W8 (.int .u8 5) (.int .i64 0) (.string ⟨#[]⟩) (.slice na z nc) (.slice none 0 0) := by rw [hW8, hob]; exact VAt.new ..
  have N8 : W8.ownsRow (w5.heap.size + 1) 9 1 (.slice na z nc) z (NC ns) := by rw [hW8]; exact hN.alloc _
  have hnlow : ∀ b, (Value.slice na z nc).ownBlock = some b → b < ob := fun b e => by rw [hob]; exact (hN.lt b e).2
  have HI0 : Hid (OI rb (b0 + 2) ob w W8 ns is 0 (.slice na z nc) (.slice none 0 0)) := by
    obtain ⟨vs, m1, m2, m3⟩ := HL5.out.row
    have hl5 := HL5.out.size
    refine ⟨HKR5.out.trans (Kr.of_below b8), by rw [← HB0.out]; omega, by rw [← HB0.out]; exact hrb, ⟨vs, owns_stay m1 (b8.block _ hl5), VS.stay (fun b hb hl => ⟨⟨hb.1, by omega⟩, b8.block b hl⟩) m2, m3⟩, HL5.out.rise, by omega, ?_, hnlow, O8, [], World.ownsRow_nil .., HCSp.nil _ _⟩
    rw [← HZ.out]
    exact ⟨N8.1, by
      rcases N8.2 with h | ⟨g, cap, cur, h1, h2, h3⟩
      · exact .inl h
      · exact .inr ⟨g, cap, cur, h1, by omega, h3⟩⟩
  have HC8 : Hid (CB (b0 + 3) (b0 + 2) W8) := (b8.block _ (Array.getElem?_eq_some_iff.1 HC5.out).1).trans HC5.out
  have HV8 : Hid (VAt (b0 + 1) W8 (.int .u8 0) (.int .i64 0) (.string ⟨#[]⟩) (.slice none 0 0) (.slice none 0 0)) := HV5.out.below b8
  have HS8 := Lib.hid (HS5.out.grow b8)
  have HN8 := Lib.hid N8
  have hobb : b0 + 4 ≤ ob := by omega
  clear cS hN hb7 b7 g8 b8 O8 N8 hnlow
  go_wp2_with fail
  rw [← hW8, ← hob]
  clear hW8 hob cc
  have hz6 : z ≤ 60000 := by rw [HZ.out]; exact hnl
  go_loopw [20] (fun iv wr => ∃ i : Nat, iv = .int .i64 (i : Int) ∧ i ≤ z ∧ ∃ xv, OI rb (b0 + 2) ob w wr ns is i (.slice na z nc) xv ∧ CB (b0 + 3) (b0 + 2) wr ∧ VAt (b0 + 1) wr (.int .u8 0) (.int .i64 0) (.string ⟨#[]⟩) (.slice none 0 0) (.slice none 0 0) ∧ RS w0 rb l wr p' pl' n' (d + 1)) (fun iv _ => z - (intOf iv).toNat)
  case atStart => exact ⟨0, rfl, Nat.zero_le _, _, HI0.out, HC8.out, HV8.out, HS8.out⟩
  case round =>
    obtain ⟨i, rfl, hi, xv, hO, hC, hV, hRS⟩ := hrel
    clear HI0 HC8 HV8 HS8
    obtain ⟨xa, xc, rfl⟩ : ∃ xa xc, xv = .slice xa i xc := by
      obtain ⟨cs, h1, _⟩ := hO.own
      exact len_slice h1
    by_cases hlt : (i : Int) < (z : Int)
    · have hiz : i < ns.length := by rw [← HZ.out]; omega
      obtain ⟨q, hq⟩ : ∃ q, ns[i]? = some q := ⟨_, List.getElem?_eq_getElem hiz⟩
      have hql : q.length ≤ maxLen := HL5.out.names_le q (List.mem_of_getElem? hq)
      obtain ⟨uk, un, ut, ua, ub, ui, uj, uca, ucb, pb, lb, kb, U3, w4, hU3, hlk, hap, O4, lo4, s4, hO'⟩ := hO.step hiz hnl hq hql
      have hnown := hO.nown
      obtain ⟨g, hg⟩ : ∃ g, na = some ⟨g, 0, none⟩ := by
        rcases hnown.2 with ⟨_, h0⟩ | ⟨g, cap, cur, e0, _⟩
        · omega
        · simp only [Value.slice.injEq] at e0
          exact ⟨g, e0.1⟩
      subst hg
      have hname : wr.cell? ⟨g, i, none⟩ = some (.string (S q)) := by
        have := hnown.cells (g := g) rfl i (.string (S q)) (by simp [NC, hq])
        rw [show ((⟨g, 0, none⟩ : Addr).add i) = ⟨g, i, none⟩ by simp [Addr.add]; omega] at this
        exact this
      obtain ⟨⟨y0, y1, y2, y3, y4⟩, yf⟩ := hO.out.cells
      obtain ⟨⟨o0, o1, o2, o3, o4⟩, of⟩ := O4.cells
      have cc := hC.cell
      have HO' := Lib.hid hO'
      have hC' : Hid (CB (b0 + 3) (b0 + 2) (w4.setCell ⟨ob, 4, none⟩ (.slice pb lb kb))) := (heap_setCell_other w4 ⟨ob, 4, none⟩ (b0 + 3) _ (by show b0 + 3 ≠ ob; omega)).trans ((lo4 (b0 + 3) (by omega)).trans hC)
      have hV' : Hid (VAt (b0 + 1) (w4.setCell ⟨ob, 4, none⟩ (.slice pb lb kb)) (.int .u8 0) (.int .i64 0) (.string ⟨#[]⟩) (.slice none 0 0) (.slice none 0 0)) := (heap_setCell_other w4 ⟨ob, 4, none⟩ (b0 + 1) _ (by show b0 + 1 ≠ ob; omega)).trans ((lo4 (b0 + 1) (by omega)).trans hV)
      have hS' : Hid (RS w0 rb l (w4.setCell ⟨ob, 4, none⟩ (.slice pb lb kb)) p' pl' n' (d + 1)) := by
        have hb := hRS.below
        have k' := hO'.kr
        have k1 := hO.kr
        have ho := fun (b : Nat) (h : b < ob) => (heap_setCell_other w4 ⟨ob, 4, none⟩ b (.slice pb lb kb) (by show b ≠ ob; omega)).trans (lo4 b h)
        have hw0' := hw0.out
        exact hRS.other (ho rb (by omega)) ⟨k'.os.trans (k1.os.symm.trans hb.os), k'.tape.trans (k1.tape.symm.trans hb.tape), k'.output.trans (k1.output.symm.trans hb.output), by have := hb.size; simp; omega, fun b h => (ho b (by omega)).trans (hb.block b h)⟩
      rw [hU3] at hap
      clear hO hC hV hRS hO' hnown hq hiz hql O4 lo4
      go_wp2_with (at_builtin; refine Lib.wpList_append_run _ rfl _ _ _ _ rfl _ _ rfl rfl _ _ hap ?_)
      go_roundw
      case rel => exact ⟨i + 1, by go_num, by omega, _, HO'.out, hC'.out, hV'.out, hS'.out⟩
      case measure => simp [intOf]; omega
    · obtain rfl : i = z := by omega
      have HH := Lib.hid (hO.hf HZ.out hnl HL5.out.names_le)
      have HKr := Lib.hid hO.kr
      have HVz := Lib.hid hV
      have HSz := Lib.hid hRS
      obtain ⟨⟨o0, o1, o2, o3, o4⟩, of⟩ := hO.out.cells
      obtain ⟨⟨y0, y1, y2, y3, y4⟩, yf⟩ := hV.cells
      clear hO hC hV hRS
      go_wp2_with fail
      refine bodyPost_ret (results_val (fn := Tryz.f83) (t := 2) (u := 3) rfl _ _ rfl (HVz.out.set5 _ _ _ _ _) rfl) rfl ?_
      have hk : w.heap.size ≤ b0 + 1 := by rw [← HB0.out]; omega
      exact ⟨r, HR.out, HKr.out.five hk _ _ _ _ _, _, _, p', pl', n', e, rfl, HH.out.stay (fun b hb _ => ⟨by omega, mk5_other wr (b0 + 1) b (by omega) _ _ _ _ _⟩), HSz.out.lex (by have := hw0.out; omega) (by omega) _ _ _ _ _, HRM.out⟩
end

section
open Go.RowKit

/-- from's own blocks: the mark's box, the result's -/
theorem from_head {w0 w : World} {rb : Nat} {l : List UInt8} {p pl n d : Nat} (hS : RS w0 rb l w p pl n d) (v0 v1 v2 v3 v4 : Value) :
    ∃ W2, W2 = (w.alloc (.cells #[v0, v1, v2, v3, v4] 85)).alloc (.cells #[.int .u8 0, .int .i64 0, .string ⟨#[]⟩, .slice none 0 0, .slice none 0 0] 26) ∧ Below w.heap.size w W2 ∧ MkAt w.heap.size W2 v0 v1 v2 v3 v4 ∧ VAt (w.heap.size + 1) W2 (.int .u8 0) (.int .i64 0) (.string ⟨#[]⟩) (.slice none 0 0) (.slice none 0 0) ∧ RS w0 rb l W2 p pl n d := by
  obtain ⟨W1, hW1⟩ : ∃ W, W = w.alloc (.cells #[v0, v1, v2, v3, v4] 85) := ⟨_, rfl⟩
  obtain ⟨W2, hW2⟩ : ∃ W, W = W1.alloc (.cells #[.int .u8 0, .int .i64 0, .string ⟨#[]⟩, .slice none 0 0, .slice none 0 0] 26) := ⟨_, rfl⟩
  have s1 : W1.heap.size = w.heap.size + 1 := by rw [hW1]; simp
  have g1 : Below w.heap.size w W1 := by rw [hW1]; exact (Below.refl _ _).alloc (Nat.le_refl _) _
  have g12 : Below W1.heap.size W1 W2 := by rw [hW2]; exact (Below.refl _ _).alloc (Nat.le_refl _) _
  have g2 := g1.trans (g12.mono g1.size)
  have M1 : MkAt w.heap.size W1 v0 v1 v2 v3 v4 := by rw [hW1]; exact MkAt.new ..
  refine ⟨W2, by rw [hW2, hW1], g2, (g12.block _ (by rw [s1]; omega)).trans M1, by rw [hW2, ← s1]; exact VAt.new .., hS.grow g2⟩
set_option maxHeartbeats 4000000 in
set_option maxRecDepth 5000 in
theorem from_step {w0 : World} {rb : Nat} {l : List UInt8} {E : Nat × Nat} {K : Nat} (hF : FromOK w0 rb l E K) : FromOK w0 rb l E (K + 1) := by
  intro m ms w p n d kI aI bI hlen hS hT hm hn hd hk ha hb
  obtain ⟨W2, hW2, g2, M2, V2, S2⟩ := from_head hS (.int .u8 kI) (.int .i64 aI) (.int .i64 bI) (.int .i64 m.n) (.string (S m.t))
  obtain ⟨b1, hb1⟩ : ∃ b, b = w.heap.size + 1 := ⟨_, rfl⟩
  rw [← hb1] at V2
  have hrb : rb < w.heap.size := hS.lt
  have hw0 : Hid (w0.heap.size ≤ w.heap.size) := hS.below.size
  have HG2 := Lib.hid g2
  have HV2 := Lib.hid V2
  have HM2 := Lib.hid M2
  have HS2 := Lib.hid S2
  have HT := Lib.hid hT
  have HMK := Lib.hid hm
  have HFF := Lib.hid hF
  have HLEN : Hid (ms.length ≤ K) := by show ms.length ≤ K; simp at hlen; omega
  have HK := Lib.hid hk
  have HB1 := Lib.hid hb1
  obtain ⟨cb, hcb⟩ : ∃ c, Rd.begins m.k = c := ⟨_, rfl⟩
  have cB := rbegins_any m.k kI aI bI m.n (S m.t) W2 hk hcb
  have HCB := Lib.hid hcb
  obtain ⟨⟨y0, y1, y2, y3, y4⟩, yf⟩ := MkAt.cells M2
  obtain ⟨⟨q0, q1, q2, q3, q4⟩, qf⟩ := VAt.cells V2
  clear g2 V2 M2 S2 hS hT hm hF hlen hcb ha hb hk hb1
  rw [hW2] at y0 y1 y2 y3 y4 yf
  go_enter Tryz.func66, Tryz.ntmps66
  go_wp2_with fail
  rw [← hW2, ← HB1.out]
  clear hW2 y0 y1 y2 y3 y4 yf q0 q1 q2 q3 q4 qf
  refine cB.mono ?_; rintro en w3 ⟨rfl, g3⟩
  have S3 := HS2.out.grow g3
  have HG3 := Lib.hid (HG2.out.trans (g3.mono HG2.out.size))
  have HV3 := Lib.hid (HV2.out.below g3)
  have HM3 : Hid (MkAt w.heap.size w3 (.int .u8 kI) (.int .i64 aI) (.int .i64 bI) (.int .i64 m.n) (.string (S m.t))) := (g3.block _ (Array.getElem?_eq_some_iff.1 HM2.out).1).trans HM2.out
  have HS3 := Lib.hid S3
  clear cB g3 S3
  have hb1 : b1 ≠ rb := by rw [HB1.out]; omega
  -- a result that is told
  have EX : ∀ (w' : World) (r : Rd.Res), (∃ f, Rd.P E f .v (m :: ms) n d = some r) → Kr rb w w' → ∀ (u : Value) (y : JV) (p' pl' n' e : Nat) {en : Ending}, en = .returned (.tuple #[u, .int .i64 (e : Int)]) → HF w.heap.size w' u y → RS w0 rb l w' p' pl' n' d → RM l E p' pl' n' e y r → ∃ f r, Rd.P E f .v (m :: ms) n d = some r ∧ FRes w0 rb l E d w r en w' := fun w' r hf k u y p' pl' n' e en he hu hs hr => by
    obtain ⟨f, hf⟩ := hf
    exact ⟨f, r, hf, k, u, y, p', pl', n', e, he, hu, hs, hr⟩
  have HEX := Lib.hid EX
  clear EX
  cases cb with
  | false =>
    obtain ⟨⟨q0, q1, q2, q3, q4⟩, qf⟩ := VAt.cells HV3.out
    go_wp2_with fail
    refine bodyPost_ret (results_val (fn := Tryz.f66) (t := 4) (u := 5) rfl _ _ rfl (HV3.out.set5 _ _ _ _ _) rfl) rfl ?_
    have hw1 : w.heap.size ≤ b1 := by rw [HB1.out]; omega
    exact HEX.out _ _ ⟨1, Rd.P_v' (f := 0) (.form HCB.out)⟩ ((Kr.of_below HG3.out).five hw1 _ _ _ _ _) _ (.mk 0 0 [] [] []) p m.a n 3 rfl (HF.zero _ _) (HS3.out.lex (by have := hw0.out; omega) hb1.symm _ _ _ _ _) ⟨rfl, by decide, rfl⟩
  | true =>
    obtain ⟨nI, hnI⟩ : ∃ z : Int, z = (n : Int) := ⟨_, rfl⟩
    obtain ⟨zI, hzI⟩ : ∃ z : Int, z = ((n + 1 : Nat) : Int) := ⟨_, rfl⟩
    have hw1 : wrap64 (nI + 1) = zI := by unfold wrap64; omega
    obtain ⟨W4, hW4⟩ : ∃ W, W = w3.setCell ⟨rb, 3, none⟩ (.int .i64 zI) := ⟨_, rfl⟩
    have S4 : RS w0 rb l W4 p m.a (n + 1) d := by rw [hW4, hzI]; exact HS3.out.count _
    have V4 : VAt b1 W4 (.int .u8 0) (.int .i64 0) (.string ⟨#[]⟩) (.slice none 0 0) (.slice none 0 0) := by rw [hW4]; exact (heap_setCell_other w3 ⟨rb, 3, none⟩ b1 _ (by show b1 ≠ rb; omega)).trans HV3.out
    have M4 : MkAt w.heap.size W4 (.int .u8 kI) (.int .i64 aI) (.int .i64 bI) (.int .i64 m.n) (.string (S m.t)) := by rw [hW4]; exact (heap_setCell_other w3 ⟨rb, 3, none⟩ w.heap.size _ (by show w.heap.size ≠ rb; omega)).trans HM3.out
    have HK4 : Hid (Kr rb w W4) := by rw [hW4]; exact (Kr.of_below HG3.out).set 3 _
    have HS4 := Lib.hid S4
    have HV4 := Lib.hid V4
    obtain ⟨⟨r0, r1, r2, r3, r4⟩, rf⟩ := row5_cells HS3.out.at'
    rw [← hnI] at r3
    obtain ⟨⟨t0, t1, t2, t3, t4⟩, tf⟩ := row5_cells S4.at'
    rw [← hzI] at t3
    obtain ⟨⟨q0, q1, q2, q3, q4⟩, qf⟩ := VAt.cells V4
    obtain ⟨⟨y0, y1, y2, y3, y4⟩, yf⟩ := MkAt.cells M4
    have HNI := Lib.hid hnI
    have HZI := Lib.hid hzI
    clear S4 V4 M4 hnI hzI r0 r1 r2 r4 t0 t1 t2 t4
    rw [hW4] at q0 q1 q2 q3 q4 qf y0 y1 y2 y3 y4 yf t3 tf
    by_cases h8 : (8192 : Int) < zI
    · have hn8 : Hid (8192 ≤ n) := by have := HZI.out; show 8192 ≤ n; omega
      go_wp2_with fail
      rw [← hW4]
      refine bodyPost_ret (results_val (fn := Tryz.f66) (t := 4) (u := 5) rfl _ _ rfl (HV4.out.set5 _ _ _ _ _) rfl) rfl ?_
      have hw1 : w.heap.size ≤ b1 := by rw [HB1.out]; omega
      exact HEX.out _ _ ⟨1, Rd.P_v' (f := 0) (.long HCB.out hn8.out)⟩ (HK4.out.five hw1 _ _ _ _ _) _ (.mk 0 0 [] [] []) p m.a (n + 1) 5 rfl (HF.zero _ _) (HS4.out.lex (by have := hw0.out; omega) hb1.symm _ _ _ _ _) ⟨rfl, by decide, rfl⟩
    have hn1 : n + 1 ≤ 8192 := by have := HZI.out; omega
    have hn2 : Hid (n < 8192) := hn1
    by_cases h3 : kI = 3
    · subst h3
      have hk : Hid (m.k = 3) := by have := HK.out; show m.k = 3; omega
      have cN := nested_any (Q := RL E d ms (n + 1)) HS4.out hd (.inl rfl) fun hlt W hW => list_any HFF.out HLEN.out hW HT.out hn1 (by omega)
      go_wp2_with fail
      rw [← hW4]
      clear hW4 q0 q1 q2 q3 q4 qf y0 y1 y2 y3 y4 yf r3 rf t3 tf
      refine cN.mono ?_; rintro en w5 ⟨r, hr, k5, u, y, p', pl', n', e, rfl, hu, s5, hrm⟩
      obtain ⟨uk, un, ut, ua, ub, ui, uj, uca, ucb, rfl⟩ := hu.open'
      have V5' := HV4.out.kr hb1 k5
      have HV5 := Lib.hid V5'
      obtain ⟨⟨q0, q1, q2, q3, q4⟩, qf⟩ := VAt.cells V5'
      have h45 : b1 < W4.heap.size := (Array.getElem?_eq_some_iff.1 HV4.out).1
      have HH := Lib.hid hu
      have HK5 := Lib.hid (HK4.out.trans k5)
      have HS5 := Lib.hid s5
      have HR := Lib.hid hr
      have HRM := Lib.hid hrm
      clear cN hr k5 hu s5 hrm V5'
      go_wp2_with fail
      refine bodyPost_ret (results_val (fn := Tryz.f66) (t := 4) (u := 5) rfl _ _ rfl (HV5.out.set5 _ _ _ _ _) rfl) rfl ?_
      have hw1 : w.heap.size ≤ b1 := by rw [HB1.out]; omega
      refine HEX.out _ r ?_ (HK5.out.five hw1 _ _ _ _ _) _ y p' pl' n' e rfl (HH.out.stay (fun b hb _ => ⟨by omega, mk5_other w5 b1 b (by omega) _ _ _ _ _⟩)) (HS5.out.lex (by have := hw0.out; omega) hb1.symm _ _ _ _ _) HRM.out
      · rcases HR.out with ⟨h12, rfl⟩ | ⟨hlt, ⟨rfl, rfl⟩ | ⟨m1, ms2, rfl, h4, rfl⟩ | ⟨m1, ms2, f, rfl, h4, hP⟩⟩
        · exact ⟨1, Rd.P_v' (f := 0) (.deep (.inr hk.out) hn2.out (by omega))⟩
        · exact ⟨1, Rd.P_v' (f := 0) (.cut (.inr hk.out) hn2.out hlt)⟩
        · exact ⟨1, Rd.P_v' (f := 0) (.nolist hk.out hn2.out hlt h4)⟩
        · exact ⟨f + 1, Rd.P_v' (.list hk.out hn2.out hlt h4 hP)⟩
    by_cases h1 : kI = 1
    · subst h1
      have hk : Hid (m.k = 1) := by have := HK.out; show m.k = 1; omega
      have cN := nested_any (Q := RO E d ms (n + 1)) HS4.out hd (.inr rfl) fun hlt W hW => object_any HFF.out HLEN.out hW HT.out hn1 (by omega)
      go_wp2_with fail
      rw [← hW4]
      clear hW4 q0 q1 q2 q3 q4 qf y0 y1 y2 y3 y4 yf r3 rf t3 tf
      refine cN.mono ?_; rintro en w5 ⟨r, hr, k5, u, y, p', pl', n', e, rfl, hu, s5, hrm⟩
      obtain ⟨uk, un, ut, ua, ub, ui, uj, uca, ucb, rfl⟩ := hu.open'
      have V5' := HV4.out.kr hb1 k5
      have HV5 := Lib.hid V5'
      obtain ⟨⟨q0, q1, q2, q3, q4⟩, qf⟩ := VAt.cells V5'
      have h45 : b1 < W4.heap.size := (Array.getElem?_eq_some_iff.1 HV4.out).1
      have HH := Lib.hid hu
      have HK5 := Lib.hid (HK4.out.trans k5)
      have HS5 := Lib.hid s5
      have HR := Lib.hid hr
      have HRM := Lib.hid hrm
      clear cN hr k5 hu s5 hrm V5'
      go_wp2_with fail
      refine bodyPost_ret (results_val (fn := Tryz.f66) (t := 4) (u := 5) rfl _ _ rfl (HV5.out.set5 _ _ _ _ _) rfl) rfl ?_
      have hw1 : w.heap.size ≤ b1 := by rw [HB1.out]; omega
      refine HEX.out _ r ?_ (HK5.out.five hw1 _ _ _ _ _) _ y p' pl' n' e rfl (HH.out.stay (fun b hb _ => ⟨by omega, mk5_other w5 b1 b (by omega) _ _ _ _ _⟩)) (HS5.out.lex (by have := hw0.out; omega) hb1.symm _ _ _ _ _) HRM.out
      · rcases HR.out with ⟨h12, rfl⟩ | ⟨hlt, ⟨rfl, rfl⟩ | ⟨m1, ms2, rfl, h4, rfl⟩ | ⟨m1, ms2, f, rfl, h4, hP⟩⟩
        · exact ⟨1, Rd.P_v' (f := 0) (.deep (.inl hk.out) hn2.out (by omega))⟩
        · exact ⟨1, Rd.P_v' (f := 0) (.cut (.inl hk.out) hn2.out hlt)⟩
        · exact ⟨1, Rd.P_v' (f := 0) (.noobj hk.out hn2.out hlt h4)⟩
        · exact ⟨f + 1, Rd.P_v' (.obj hk.out hn2.out hlt h4 hP)⟩
    have hk7 : 7 ≤ m.k := by
      have h := HCB.out
      unfold Rd.begins at h
      simp at h
      have := HK.out
      omega
    have hk7' := Lib.hid hk7
    have e3 : (kI == 3) = false := beq_eq_false_iff_ne.2 h3
    have e1 : (kI == 1) = false := beq_eq_false_iff_ne.2 h1
    have cN := alone_any m kI aI bI W4 HK.out hk7 HMK.out.1.2 HMK.out.2.1 (by have := HMK.out.2.2.1; unfold maxLen; omega)
    clear h3 h1 hk7
    go_wp2_with fail
    rw [← hW4]
    clear hW4 q0 q1 q2 q3 q4 qf y0 y1 y2 y3 y4 yf r3 rf t3 tf
    refine cN.mono ?_; rintro en w5 ⟨⟨u, rfl, hu⟩, g5⟩
    have hu5 := hu w.heap.size w5
    obtain ⟨uk, un, ut, ua, ub, ui, uj, uca, ucb, rfl⟩ := hu5.open'
    have V5' := HV4.out.below g5
    have HV5 := Lib.hid V5'
    obtain ⟨⟨q0, q1, q2, q3, q4⟩, qf⟩ := VAt.cells V5'
    have HH := Lib.hid hu
    have HK5 := Lib.hid (HK4.out.trans (Kr.of_below g5))
    have HS5 := Lib.hid (HS4.out.grow g5)
    clear cN hu hu5 g5 V5'
    go_wp2_with fail
    refine bodyPost_ret (results_val (fn := Tryz.f66) (t := 4) (u := 5) rfl _ _ rfl (HV5.out.set5 _ _ _ _ _) rfl) rfl ?_
    have hw1 : w.heap.size ≤ b1 := by rw [HB1.out]; omega
    exact HEX.out _ (.ok (Rd.atom m) ms (n + 1)) ⟨1, Rd.P_v' (f := 0) (.atom HCB.out hn2.out hk7'.out)⟩ (HK5.out.five hw1 _ _ _ _ _) _ (Rd.atom m) p m.a (n + 1) 0 rfl (HH.out _ _) (HS5.out.lex (by have := hw0.out; omega) hb1.symm _ _ _ _ _) ⟨rfl, rfl, rfl, HT.out⟩
theorem from_all {w0 : World} {rb : Nat} {l : List UInt8} {E : Nat × Nat} : ∀ K, FromOK w0 rb l E K
  | 0 => fun m ms w p n d kI aI bI h => by simp at h
  | K + 1 => from_step (from_all K)
end

section
open Go.RowKit

/-- what the whole text comes to: value, place, error, out of what its first value comes to -/
def RT (E : Nat × Nat) : Rd.Res → JV → Nat → Nat → Prop
  | .bad p e, _, pl, er => er = e ∧ pl = p ∧ e ≠ 0
  | .ok x [] _, y, pl, er => er = E.2 ∧ (E.2 = 0 → y = x) ∧ (E.2 ≠ 0 → pl = E.1)
  | .ok _ (m :: _) _, _, pl, er => er = 11 ∧ pl = m.a
theorem VAt.five {b B : Nat} {w : World} {c0 c1 c2 c3 c4 : Value} (h : VAt b w c0 c1 c2 c3 c4) (hne : b ≠ B) (v0 v1 v2 v3 v4 : Value) : VAt b (((((w.setCell ⟨B, 0, none⟩ v0).setCell ⟨B, 1, none⟩ v1).setCell ⟨B, 2, none⟩ v2).setCell ⟨B, 3, none⟩ v3).setCell ⟨B, 4, none⟩ v4) c0 c1 c2 c3 c4 := (mk5_other w B b hne _ _ _ _ _).trans h
/-- the next mark, told by what there is -/
theorem TS.take {l : List UInt8} {p : Nat} {ms : List Lm.Mark} {E : Nat × Nat} (h : TS l p ms E) : ∃ m e, Lm.mark l (Lm.skip l p) = (m, e) ∧ ((ms = [] ∧ e = E.2 ∧ E.1 = (if e = 0 then m.a else Lm.skip l p) ∧ (e = 0 → m.k = 11)) ∨ (∃ ms1, ms = m :: ms1 ∧ e = 0 ∧ m.k ≠ 11)) := by
  cases h with
  | stop h => exact ⟨_, _, h, .inl ⟨rfl, rfl, rfl, fun _ => rfl⟩⟩
  | bad h he => exact ⟨_, _, h, .inl ⟨rfl, rfl, (if_neg he).symm, fun h0 => absurd h0 he⟩⟩
  | more h hk hs => exact ⟨_, _, h, .inr ⟨_, rfl, rfl, hk⟩⟩
set_option maxHeartbeats 4000000 in
set_option maxRecDepth 5000 in
theorem whole_any {w0 w : World} {rb : Nat} {l : List UInt8} {E : Nat × Nat} {ms : List Lm.Mark} {pl : Nat} (hS : RS w0 rb l w 0 pl 0 0) (hT : TS l 0 ms E) :
    Calls Tryz.prog 28 #[.pointer (some ⟨rb, 0, none⟩)] w fun en w' => ∃ f r, Rd.P E f .v ms 0 0 = some r ∧ Kr rb w w' ∧ ∃ (u : Value) (y : JV) (p' pl' n' e : Nat), en = .returned (.tuple #[u, .int .i64 (e : Int)]) ∧ HF w.heap.size w' u y ∧ RS w0 rb l w' p' pl' n' 0 ∧ RT E r y pl' e := by
  obtain ⟨b0, hb0⟩ : ∃ b, b = w.heap.size := ⟨_, rfl⟩
  obtain ⟨W1, hW1⟩ : ∃ W, W = w.alloc (.cells #[.int .u8 0, .int .i64 0, .string ⟨#[]⟩, .slice none 0 0, .slice none 0 0] 26) := ⟨_, rfl⟩
  have g1 : Below w.heap.size w W1 := by rw [hW1]; exact (Below.refl _ _).alloc (Nat.le_refl _) _
  have V1 : VAt b0 W1 (.int .u8 0) (.int .i64 0) (.string ⟨#[]⟩) (.slice none 0 0) (.slice none 0 0) := by rw [hW1, hb0]; exact VAt.new ..
  have S1 := hS.grow g1
  have hrb : rb < b0 := by have := hS.lt; omega
  have hw0 : Hid (w0.heap.size ≤ b0) := by rw [hb0]; exact hS.below.size
  have hne : b0 ≠ rb := by omega
  have cV := rvalue_any (from_all ms.length) (Nat.le_refl _) S1 hT (Nat.zero_le _) (Nat.zero_le _)
  have HG1 := Lib.hid g1
  have HB0 := Lib.hid hb0
  have HV1 := Lib.hid V1
  have hB : w.heap.size ≤ b0 := by omega
  clear S1 g1 V1 hS hT
  go_enter Tryz.func28, Tryz.ntmps28
  go_wp2_with fail
  rw [← hW1, ← hb0]
  clear hW1 hb0
  refine cV.mono ?_; rintro en w2 ⟨f, r, hP, k2, u, y, p', pl', n', e, rfl, hu, s2, hr⟩
  obtain ⟨uk, un, ut, ua, ub, ui, uj, uca, ucb, rfl⟩ := hu.open'
  obtain ⟨b2, hb2⟩ : ∃ b, b = w2.heap.size := ⟨_, rfl⟩
  obtain ⟨W3, hW3⟩ : ∃ W, W = w2.alloc (.cells #[.int .u8 uk, .int .i64 un, .string ut, .slice ua ui uca, .slice ub uj ucb] 26) := ⟨_, rfl⟩
  have g3 : Below w2.heap.size w2 W3 := by rw [hW3]; exact (Below.refl _ _).alloc (Nat.le_refl _) _
  have h02 : Hid (b0 < w2.heap.size) := Nat.lt_of_lt_of_le (Array.getElem?_eq_some_iff.1 HV1.out).1 k2.size
  have V3 := (HV1.out.kr hne k2).below g3
  have U3 : VAt b2 W3 (.int .u8 uk) (.int .i64 un) (.string ut) (.slice ua ui uca) (.slice ub uj ucb) := by rw [hW3, hb2]; exact VAt.new ..
  have h1s : b0 + 1 ≤ W1.heap.size := (Array.getElem?_eq_some_iff.1 HV1.out).1
  have HF3 : Hid (HF (b0 + 1) W3 (.agg #[.int .u8 uk, .int .i64 un, .string ut, .slice ua ui uca, .slice ub uj ucb]) y) := hu.stay fun b hb hl => ⟨by omega, g3.block b hl⟩
  have HK3 : Hid (Kr rb w W3) := ((Kr.of_below HG1.out).trans k2).trans (Kr.of_below g3)
  have S3 := s2.grow g3
  have HS3 := Lib.hid S3
  have HV3 := Lib.hid V3
  have HU3 := Lib.hid U3
  have HP := Lib.hid hP
  have HR := Lib.hid hr
  obtain ⟨⟨q0, q1, q2, q3, q4⟩, qf⟩ := VAt.cells V3
  obtain ⟨eI, heI⟩ : ∃ L : Int, L = (e : Int) := ⟨_, rfl⟩
  have HE := Lib.hid heI
  rw [← heI]
  clear cV hP k2 hu s2 hr g3 V3 U3 S3 heI
  rw [hW3] at q0 q1 q2 q3 q4 qf
  by_cases he : eI = 0
  case neg =>
    have hb : (eI != 0) = true := bne_iff_ne.2 he
    have he0 : Hid (e ≠ 0) := by have := HE.out; show e ≠ 0; omega
    clear he
    go_wp2_with fail
    rw [← hW3]
    refine bodyPost_ret (results_val (fn := Tryz.f28) (t := 2) (u := 3) rfl _ _ rfl (HV3.out.set5 _ _ _ _ _) rfl) rfl ?_
    refine ⟨f, r, HP.out, HK3.out.five hB _ _ _ _ _, _, .mk 0 0 [] [] [], p', pl', n', e, by rw [HE.out]; rfl, HF.zero _ _, HS3.out.lex hw0.out hne.symm _ _ _ _ _, ?_⟩
    have hR := HR.out
    cases r with
    | ok x ms' n4 => exact absurd hR.1 he0.out
    | bad p1 er => exact ⟨hR.1, hR.2.2, hR.2.1⟩
  subst he
  obtain ⟨x, ms', n4, rfl, hn4, hy, T3⟩ : ∃ x ms' n4, r = .ok x ms' n4 ∧ n' = n4 ∧ y = x ∧ TS l p' ms' E := by
    have hR := HR.out
    have := HE.out
    cases r with
    | ok x ms' n4 => exact ⟨x, ms', n4, rfl, hR.2.2.1, hR.2.1, hR.2.2.2⟩
    | bad p1 er =>
      have h1 := hR.1
      have h2 := hR.2.1
      omega
  obtain ⟨m, te, hm, hways⟩ := T3.take
  have cT := take_any HS3.out hm
  have HWY := Lib.hid hways
  have HYX := Lib.hid hy
  obtain ⟨kI, hkI⟩ : ∃ L : Int, L = ((m.k : Nat) : Int) := ⟨_, rfl⟩
  obtain ⟨aI, haI⟩ : ∃ L : Int, L = ((m.a : Nat) : Int) := ⟨_, rfl⟩
  obtain ⟨bI, hbI⟩ : ∃ L : Int, L = ((m.b : Nat) : Int) := ⟨_, rfl⟩
  obtain ⟨tI, htI⟩ : ∃ L : Int, L = ((te : Nat) : Int) := ⟨_, rfl⟩
  have cT : Calls Tryz.prog 51 #[.pointer (some ⟨rb, 0, none⟩)] W3 fun en w' => en = .returned (.tuple #[.agg #[.int .u8 kI, .int .i64 aI, .int .i64 bI, .int .i64 m.n, .string (S m.t)], .int .i64 tI]) ∧ Kr rb W3 w' ∧ RS w0 rb l w' (if te = 0 then m.b else p') (if te = 0 then m.a else Lm.skip l p') n' 0 := by
    rw [hkI, haI, hbI, htI]
    exact cT
  have HKI := Lib.hid hkI
  have HTI := Lib.hid htI
  clear hm hways hy hkI haI hbI htI T3
  go_wp2_with fail
  rw [← hW3, ← hb2]
  clear hW3 q0 q1 q2 q3 q4 qf
  refine cT.mono ?_; rintro en w4 ⟨rfl, k4, s4⟩
  obtain ⟨W5, hW5⟩ : ∃ W, W = w4.alloc (.cells #[.int .u8 kI, .int .i64 aI, .int .i64 bI, .int .i64 m.n, .string (S m.t)] 85) := ⟨_, rfl⟩
  have g5 : Below w4.heap.size w4 W5 := by rw [hW5]; exact (Below.refl _ _).alloc (Nat.le_refl _) _
  have hne2 : b2 ≠ rb := by have := h02.out; omega
  have V5' := (HV3.out.kr hne k4).below g5
  have U5 := (HU3.out.kr hne2 k4).below g5
  have M5 : MkAt w4.heap.size W5 (.int .u8 kI) (.int .i64 aI) (.int .i64 bI) (.int .i64 m.n) (.string (S m.t)) := by rw [hW5]; exact MkAt.new ..
  have HK5 := Lib.hid ((HK3.out.trans k4).trans (Kr.of_below g5))
  have HS5 := Lib.hid (s4.grow g5)
  have HF5 : Hid (HF (b0 + 1) W5 (.agg #[.int .u8 uk, .int .i64 un, .string ut, .slice ua ui uca, .slice ub uj ucb]) y) := HF3.out.stay fun b hb hl => ⟨hb, (g5.block b (Nat.lt_of_lt_of_le hl k4.size)).trans (k4.block b hl (by omega))⟩
  have HV5 := Lib.hid V5'
  obtain ⟨⟨q0, q1, q2, q3, q4⟩, qf⟩ := VAt.cells V5'
  obtain ⟨⟨y0, y1, y2, y3, y4⟩, yf⟩ := VAt.cells U5
  obtain ⟨⟨z0, z1, z2, z3, z4⟩, zf⟩ := MkAt.cells M5
  clear cT k4 s4 g5 V5' U5 M5 hb2
  rw [hW5] at q0 q1 q2 q3 q4 qf y0 y1 y2 y3 y4 yf z0 z1 z2 z3 z4 zf
  have FIN : Hid (∀ en : Ending, en = .returned (.tuple #[.agg #[.int .u8 uk, .int .i64 un, .string ut, .slice ua ui uca, .slice ub uj ucb], .int .i64 tI]) → (te ≠ 0 ∨ m.k = 11) → ∃ f r, Rd.P E f .v ms 0 0 = some r ∧ Kr rb w (((((W5.setCell ⟨b0, 0, none⟩ (.int .u8 uk)).setCell ⟨b0, 1, none⟩ (.int .i64 un)).setCell ⟨b0, 2, none⟩ (.string ut)).setCell ⟨b0, 3, none⟩ (.slice ua ui uca)).setCell ⟨b0, 4, none⟩ (.slice ub uj ucb)) ∧ ∃ (u : Value) (y : JV) (p' pl' n' e : Nat), en = .returned (.tuple #[u, .int .i64 (e : Int)]) ∧ HF w.heap.size (((((W5.setCell ⟨b0, 0, none⟩ (.int .u8 uk)).setCell ⟨b0, 1, none⟩ (.int .i64 un)).setCell ⟨b0, 2, none⟩ (.string ut)).setCell ⟨b0, 3, none⟩ (.slice ua ui uca)).setCell ⟨b0, 4, none⟩ (.slice ub uj ucb)) u y ∧ RS w0 rb l (((((W5.setCell ⟨b0, 0, none⟩ (.int .u8 uk)).setCell ⟨b0, 1, none⟩ (.int .i64 un)).setCell ⟨b0, 2, none⟩ (.string ut)).setCell ⟨b0, 3, none⟩ (.slice ua ui uca)).setCell ⟨b0, 4, none⟩ (.slice ub uj ucb)) p' pl' n' 0 ∧ RT E r y pl' e) := fun en he hor => by
    refine ⟨f, _, HP.out, HK5.out.five hB _ _ _ _ _, _, y, _, _, n', te, by rw [he, HTI.out], HF5.out.stay (fun b hb _ => ⟨by omega, mk5_other W5 b0 b (by omega) _ _ _ _ _⟩), HS5.out.lex hw0.out hne.symm _ _ _ _ _, ?_⟩
    rcases HWY.out with ⟨rfl, h2, h3, h4⟩ | ⟨ms1, rfl, h2, h3⟩
    · exact ⟨h2, fun _ => HYX.out, fun h => h3.symm⟩
    · rcases hor with h | h
      · exact absurd h2 h
      · exact absurd h h3
  by_cases ht : tI = 0
  · subst ht
    have ht0 : Hid (te = 0) := by have := HTI.out; show te = 0; omega
    by_cases h11 : kI = 11
    · subst h11
      have hk : Hid (m.k = 11) := by have := HKI.out; show m.k = 11; omega
      go_wp2_with fail
      rw [← hW5]
      refine bodyPost_ret (results_val (fn := Tryz.f28) (t := 2) (u := 3) rfl _ _ rfl (HV5.out.set5 _ _ _ _ _) rfl) rfl ?_
      exact FIN.out _ rfl (.inr hk.out)
    · have hb : (kI != 11) = true := bne_iff_ne.2 h11
      have hk : Hid (m.k ≠ 11) := by have := HKI.out; show m.k ≠ 11; omega
      clear h11
      go_wp2_with fail
      rw [← hW5]
      refine bodyPost_ret (results_val (fn := Tryz.f28) (t := 2) (u := 3) rfl _ _ rfl (HV5.out.set5 _ _ _ _ _) rfl) rfl ?_
      refine ⟨f, _, HP.out, HK5.out.five hB _ _ _ _ _, _, .mk 0 0 [] [] [], _, _, n', 11, rfl, HF.zero _ _, HS5.out.lex hw0.out hne.symm _ _ _ _ _, ?_⟩
      rcases HWY.out with ⟨rfl, h2, h3, h4⟩ | ⟨ms1, rfl, h2, h3⟩
      · exact absurd (h4 ht0.out) hk.out
      · exact ⟨rfl, if_pos ht0.out⟩
  · have hb : (tI == 0) = false := beq_eq_false_iff_ne.2 ht
    have ht0 : Hid (te ≠ 0) := by have := HTI.out; show te ≠ 0; omega
    clear ht
    go_wp2_with fail
    rw [← hW5]
    refine bodyPost_ret (results_val (fn := Tryz.f28) (t := 2) (u := 3) rfl _ _ rfl (HV5.out.set5 _ _ _ _ _) rfl) rfl ?_
    exact FIN.out _ rfl (.inl ht0.out)
end

section
open Go.RowKit

/-- what Read is to tell of a text -/
def RdIs (l : List UInt8) (x : JV) (pl e : Nat) : Prop := (65536 < l.length ∧ x = .mk 0 0 [] [] [] ∧ pl = 0 ∧ e = 5) ∨ (l.length ≤ 65536 ∧ ∃ ms E f r y pl', TS l 0 ms E ∧ Rd.P E f .v ms 0 0 = some r ∧ RT E r y pl' e ∧ (e = 0 → x = y ∧ pl = 0) ∧ (e ≠ 0 → x = .mk 0 0 [] [] [] ∧ pl = pl'))
theorem RT.det {E : Nat × Nat} {r : Rd.Res} {y y' : JV} {pl pl' e e' : Nat} (h : RT E r y pl e) (h' : RT E r y' pl' e') : e = e' ∧ (e = 0 → y = y') ∧ (e ≠ 0 → pl = pl') := by
  match r, h, h' with
  | .bad p e0, h, h' => exact ⟨h.1.trans h'.1.symm, fun h0 => absurd (h.1.symm.trans h0) h.2.2, fun _ => h.2.1.trans h'.2.1.symm⟩
  | .ok x [] n, h, h' => exact ⟨h.1.trans h'.1.symm, fun h0 => (h.2.1 (h.1.symm.trans h0)).trans (h'.2.1 (h.1.symm.trans h0)).symm, fun h0 => (h.2.2 (fun e0 => h0 (h.1.trans e0))).trans (h'.2.2 (fun e0 => h0 (h.1.trans e0))).symm⟩
  | .ok x (m :: ms) n, h, h' => exact ⟨h.1.trans h'.1.symm, fun h0 => by have := h.1; omega, fun _ => h.2.trans h'.2.symm⟩
/-- there is one answer -/
theorem RdIs.det {l : List UInt8} {x x' : JV} {pl pl' e e' : Nat} (h : RdIs l x pl e) (h' : RdIs l x' pl' e') : x = x' ∧ pl = pl' ∧ e = e' := by
  rcases h with ⟨h0, h1, h2, h3⟩ | ⟨h0, ms, E, f, r, y, q, hT, hP, hR, h4, h5⟩
  · rcases h' with ⟨_, g1, g2, g3⟩ | ⟨g0, _⟩
    · exact ⟨h1.trans g1.symm, h2.trans g2.symm, h3.trans g3.symm⟩
    · omega
  · rcases h' with ⟨g0, _⟩ | ⟨g0, ms', E', f', r', y', q', hT', hP', hR', g4, g5⟩
    · omega
    · obtain ⟨rfl, rfl⟩ := TS.det hT hT'
      obtain rfl := Rd.P_det hP hP'
      obtain ⟨he, h6, h7⟩ := hR.det hR'
      subst he
      by_cases h0 : e = 0
      · exact ⟨(h4 h0).1.trans ((h6 h0).trans (g4 h0).1.symm), (h4 h0).2.trans (g4 h0).2.symm, rfl⟩
      · exact ⟨(h5 h0).1.trans (g5 h0).1.symm, (h5 h0).2.trans ((h7 h0).trans (g5 h0).2.symm), rfl⟩
theorem results_rd {fn : Func} {t u v : Tmp} (h : fn.results = #[.cell t 26, .tmp u, .tmp v]) (tmps : Array Value) (w : World) {b : Nat} {m : Array Value} {fr : Nat × Nat}
    (ht : tmps.getD t undef = .pointer (some ⟨b, 0, none⟩)) (hg : w.heap[b]? = some (.cells m 26 fr)) (hm : m.size = 5) :
    (results fn tmps).run Tryz.prog w = .ok (.tuple #[.agg m, tmps.getD u undef, tmps.getD v undef]) w := by
  have hl := run_loadVar_row (P := Tryz.prog) w b 26 26 m fr _ hg Tryz.underlying26 rfl (by rw [hm]; exact value_size)
  have ht' : tmps[t]?.getD undef = .pointer (some ⟨b, 0, none⟩) := by rw [← Array.getD_eq_getD_getElem?]; exact ht
  simp [results, h, ht', asAddr, hl]
/-- a value's five cells are written over, at once -/
theorem VAt.store {b : Nat} {w : World} {c0 c1 c2 c3 c4 : Value} (h : VAt b w c0 c1 c2 c3 c4) (d0 d1 d2 d3 d4 : Value) (hone : ∀ u ∈ [d0, d1, d2, d3, d4], u.oneCell' = true) :
    ∃ w', (Instr.storeAt 26 (.pointer (some ⟨b, 0, none⟩)) (.agg #[d0, d1, d2, d3, d4])).run Tryz.prog w = .ok () w' ∧ VAt b w' d0 d1 d2 d3 d4 ∧ w'.os = w.os ∧ w'.tape = w.tape ∧ w'.output = w.output ∧ w'.heap.size = w.heap.size ∧ ∀ k, k ≠ b → w'.heap[k]? = w.heap[k]? :=
  ⟨_, row_five w b 0 #[c0, c1, c2, c3, c4] h (by simp) d0 d1 d2 d3 d4 hone, setRow_heap w b _ _ _ _ h, rfl, rfl, rfl, by simp, fun k hk => setRow_other w b k _ hk⟩
theorem wpList_valStore {ops : Array Oper} {rest : List Oper} {o : Oper} {a : Act} {w : World} {Q : Exit → Act → World → Prop} (hg : o.guard = none) (x y : Operand) (ho : o.op = .store 26 x y) (hd : o.dst = none) {b : Nat} {c0 c1 c2 c3 c4 d0 d1 d2 d3 d4 : Value} (hx : a.eval x = .pointer (some ⟨b, 0, none⟩)) (hy : a.eval y = .agg #[d0, d1, d2, d3, d4])
    (hv : VAt b w c0 c1 c2 c3 c4) (hone : ∀ u ∈ [d0, d1, d2, d3, d4], u.oneCell' = true)
    (h : ∀ w', VAt b w' d0 d1 d2 d3 d4 → (w'.os = w.os ∧ w'.tape = w.tape ∧ w'.output = w.output ∧ w'.heap.size = w.heap.size ∧ ∀ k, k ≠ b → w'.heap[k]? = w.heap[k]?) → wpList Tryz.prog ops Q rest a w') : wpList Tryz.prog ops Q (o :: rest) a w := by
  obtain ⟨w', hr, hv', hk⟩ := hv.store d0 d1 d2 d3 d4 hone
  exact wpList_plain hg fun K hK => op_store ho hx hy hd hr (hK _ _ (h w' hv' hk))
set_option maxHeartbeats 4000000 in
set_option maxRecDepth 5000 in
theorem readRead_any (l : List UInt8) (w : World) (hw : TabL w) :
    Calls Tryz.prog 13 #[.string (S l)] w fun en w' => ∃ (u : Value) (x : JV) (pl e : Nat), en = .returned (.tuple #[u, .int .i64 (pl : Int), .int .i64 (e : Int)]) ∧ RdIs l x pl e ∧ HF w.heap.size w' u x ∧ Below w.heap.size w w' := by
  obtain ⟨b0, hb0⟩ : ∃ b, b = w.heap.size := ⟨_, rfl⟩
  obtain ⟨W1, hW1⟩ : ∃ W, W = w.alloc (.cells #[.int .u8 0, .int .i64 0, .string ⟨#[]⟩, .slice none 0 0, .slice none 0 0] 26) := ⟨_, rfl⟩
  obtain ⟨W2, hW2⟩ : ∃ W, W = W1.alloc (.cells #[.string (S l), .int .i64 0, .int .i64 0, .int .i64 0, .int .i64 0] 58) := ⟨_, rfl⟩
  have s1 : W1.heap.size = b0 + 1 := by rw [hW1, hb0]; simp
  have g1 : Below w.heap.size w W1 := by rw [hW1]; exact (Below.refl _ _).alloc (Nat.le_refl _) _
  have g12 : Below W1.heap.size W1 W2 := by rw [hW2]; exact (Below.refl _ _).alloc (Nat.le_refl _) _
  have g2 : Below w.heap.size w W2 := g1.trans (g12.mono g1.size)
  have V1 : VAt b0 W1 (.int .u8 0) (.int .i64 0) (.string ⟨#[]⟩) (.slice none 0 0) (.slice none 0 0) := by rw [hW1, hb0]; exact VAt.new ..
  have V2 := V1.below g12
  have R2 : RAt (b0 + 1) W2 l 0 0 0 0 := by rw [hW2, ← s1]; exact heap_alloc_new ..
  obtain ⟨L, hL⟩ : ∃ L : Int, L = (l.length : Int) := ⟨_, rfl⟩
  have hsz : ((S l).size : Int) = L := by rw [S_size, hL]
  have HL := Lib.hid hL
  have HG1 := Lib.hid g1
  have HG2 := Lib.hid g2
  have HV1 := Lib.hid V1
  have HV2 := Lib.hid V2
  have HB0 := Lib.hid hb0
  clear hL
  obtain ⟨⟨q0, q1, q2, q3, q4⟩, qf⟩ := VAt.cells V1
  by_cases h6 : (65536 : Int) < L
  · have h6' : Hid (65536 < l.length) := by have := HL.out; show 65536 < l.length; omega
    clear g1 g12 g2 V1 V2 R2
    go_enter Tryz.func13, Tryz.ntmps13
    go_wp2_with fail
    rw [← hW1]
    have V1' : VAt w.heap.size W1 (.int .u8 0) (.int .i64 0) (.string ⟨#[]⟩) (.slice none 0 0) (.slice none 0 0) := by rw [← hb0]; exact HV1.out
    refine bodyPost_ret (results_rd (fn := Tryz.f13) (t := 2) (u := 3) (v := 4) rfl _ _ rfl V1' rfl) rfl ?_
    exact ⟨_, _, 0, 5, rfl, .inl ⟨h6'.out, rfl, rfl, rfl⟩, HF.zero _ _, HG1.out⟩
  have h6' : Hid (l.length ≤ 65536) := by have := HL.out; show l.length ≤ 65536; omega
  obtain ⟨ms, E, hT⟩ := TS.exists l (l.length + 1) 0 (Nat.zero_le _) (by omega)
  have S2 : RS w (b0 + 1) l W2 0 0 0 0 := ⟨hw, g2, by rw [hb0]; omega, R2, h6'.out, Nat.zero_le _⟩
  have cW := whole_any S2 hT
  have HT := Lib.hid hT
  clear g1 g12 g2 V1 V2 R2 S2 hT q0 q1 q2 q3 q4 qf
  go_enter Tryz.func13, Tryz.ntmps13
  go_wp2_with fail
  rw [← hW1, ← hW2, ← hb0]
  clear hW1 hW2 hsz hb0
  refine cW.mono ?_; rintro en w3 ⟨f, r, hP, k3, u, y, p', pl', n', e, rfl, hu, s3, hrt⟩
  obtain ⟨uk, un, ut, ua, ub, ui, uj, uca, ucb, rfl⟩ := hu.open'
  have hne : b0 ≠ b0 + 1 := by omega
  have V3 := HV2.out.kr hne k3
  have HV3 := Lib.hid V3
  have hB3 : Hid (Below w.heap.size w w3) := k3.below HG2.out (by rw [← HB0.out]; omega) HG2.out.size
  have h2s : Hid (b0 + 1 ≤ W2.heap.size) := (Array.getElem?_eq_some_iff.1 HV2.out).1
  have HH := Lib.hid hu
  have HP := Lib.hid hP
  have HRT := Lib.hid hrt
  have HS3 := Lib.hid s3
  obtain ⟨⟨q0, q1, q2, q3, q4⟩, qf⟩ := VAt.cells V3
  obtain ⟨⟨r0, r1, r2, r3, r4⟩, rf⟩ := row5_cells s3.at'
  obtain ⟨eI, heI⟩ : ∃ z : Int, z = (e : Int) := ⟨_, rfl⟩
  obtain ⟨pI, hpI⟩ : ∃ z : Int, z = (pl' : Int) := ⟨_, rfl⟩
  rw [← hpI] at r2
  rw [← heI]
  have HE := Lib.hid heI
  have HPI := Lib.hid hpI
  clear cW hP k3 hu s3 hrt V3 r0 r1 r3 r4 heI hpI
  have hone : ∀ u ∈ [Value.int .u8 uk, .int .i64 un, .string ut, .slice ua ui uca, .slice ub uj ucb], u.oneCell' = true := fun u hu => by
    simp only [List.mem_cons, List.not_mem_nil, or_false] at hu
    rcases hu with rfl | rfl | rfl | rfl | rfl <;> rfl
  have HONE := Lib.hid hone
  clear hone q0 q1 q2 q3 q4 qf r2 rf
  by_cases he : eI = 0
  · subst he
    have he0 : Hid (e = 0) := by have := HE.out; show e = 0; omega
    go_wp2_with (first | (refine wpList_valStore rfl _ _ rfl rfl rfl rfl HV3.out HONE.out ?_; intro W4 V4 a4; obtain ⟨⟨q0, q1, q2, q3, q4⟩, qf⟩ := VAt.cells V4) | (refine wpList_valStore rfl _ _ rfl rfl rfl rfl V4 HONE.out ?_; intro W5 V5 a5))
    refine bodyPost_ret (results_rd (fn := Tryz.f13) (t := 2) (u := 3) (v := 4) rfl _ _ rfl V5 rfl) rfl ?_
    obtain ⟨x1, x2, x3, x4, x5⟩ := a4
    obtain ⟨z1, z2, z3, z4, z5⟩ := a5
    have hb := hB3.out
    have h2 := h2s.out
    have hbb := HB0.out
    have hsame : ∀ k, k ≠ b0 → W5.heap[k]? = w3.heap[k]? := fun k hk => (z5 k hk).trans (x5 k hk)
    exact ⟨_, y, 0, 0, rfl, .inr ⟨h6'.out, ms, E, f, r, y, pl', HT.out, HP.out, by have := HRT.out; rw [he0.out] at this; exact this, fun _ => ⟨rfl, rfl⟩, fun h => absurd rfl h⟩, HH.out.stay fun b hb hl => ⟨by omega, hsame b (by omega)⟩, ⟨z1.trans (x1.trans hb.os), z2.trans (x2.trans hb.tape), z3.trans (x3.trans hb.output), by rw [z4, x4]; exact hb.size, fun k hk => (hsame k (by omega)).trans (hb.block k hk)⟩⟩
  · have hb : (eI != 0) = true := bne_iff_ne.2 he
    have he0 : Hid (e ≠ 0) := by have := HE.out; show e ≠ 0; omega
    clear he
    go_wp2_with (refine wpList_valStore rfl _ _ rfl rfl rfl rfl HV3.out HONE.out ?_; intro W4 V4 a4)
    have RR4 : RAt (b0 + 1) W4 l p' pl' n' 0 := (a4.2.2.2.2 (b0 + 1) (by omega)).trans HS3.out.at'
    obtain ⟨⟨r0, r1, r2, r3, r4⟩, rf⟩ := row5_cells RR4
    rw [← HPI.out] at r2
    obtain ⟨⟨q0, q1, q2, q3, q4⟩, qf⟩ := VAt.cells V4
    have HA4 := Lib.hid a4
    have HV4 := Lib.hid V4
    clear RR4 r0 r1 r3 r4 a4 V4
    go_region
    go_wp2_with fail
    refine bodyPost_ret (results_rd (fn := Tryz.f13) (t := 2) (u := 3) (v := 4) rfl _ _ rfl (HV4.out.set5 _ _ _ _ _) rfl) rfl ?_
    obtain ⟨x1, x2, x3, x4, x5⟩ := HA4.out
    have hb := hB3.out
    have hbb := HB0.out
    refine ⟨_, .mk 0 0 [] [] [], pl', e, by rw [HPI.out, HE.out]; rfl, .inr ⟨h6'.out, ms, E, f, r, y, pl', HT.out, HP.out, HRT.out, fun h => absurd h he0.out, fun _ => ⟨rfl, rfl⟩⟩, HF.zero _ _, Below.drew (below_val ?_ (by omega) _ _ _ _ _)⟩
    exact ⟨x1.trans hb.os, x2.trans hb.tape, x3.trans hb.output, by rw [x4]; exact hb.size, fun k hk => (x5 k (by omega)).trans (hb.block k hk)⟩
end

section
open Go.RowKit

def T1 : List UInt8 := [123, 34, 98, 34, 58, 91, 49, 44, 116, 114, 117, 101, 93, 44, 34, 97, 34, 58, 34, 120, 34, 125]
def T2 : List UInt8 := [91, 49, 32, 50, 93]
def T3 : List UInt8 := [123, 34, 97, 34, 58, 49, 44, 34, 97, 34, 58, 50, 125]
def T4 : List UInt8 := [49, 32, 50]
def J1 : JV := .mk 5 0 [] [[97], [98]] [.mk 3 0 [120] [] [], .mk 4 0 [] [] [.mk 2 1 [] [] [], .mk 1 1 [] [] []]]
def J0 : JV := .mk 0 0 [] [] []
theorem ts2 : TS T2 0 [⟨3, 0, 1, 0, []⟩, ⟨9, 1, 2, 1, []⟩, ⟨9, 3, 4, 2, []⟩, ⟨4, 4, 5, 0, []⟩] (5, 0) :=
  .more (by kernel_rfl) (by decide) (.more (by kernel_rfl) (by decide) (.more (by kernel_rfl) (by decide) (.more (by kernel_rfl) (by decide) (.stop (by kernel_rfl)))))
theorem is2 : RdIs T2 J0 3 3 := .inr ⟨by decide, _, _, 5, .bad 3 3, J0, 3, ts2, by kernel_rfl, ⟨rfl, rfl, by decide⟩, (fun h => by cases h), fun _ => ⟨rfl, rfl⟩⟩
theorem ts4 : TS T4 0 [⟨9, 0, 1, 1, []⟩, ⟨9, 2, 3, 2, []⟩] (3, 0) := .more (by kernel_rfl) (by decide) (.more (by kernel_rfl) (by decide) (.stop (by kernel_rfl)))
theorem is4 : RdIs T4 J0 2 11 := .inr ⟨by decide, _, _, 5, .ok (.mk 2 1 [] [] []) [⟨9, 2, 3, 2, []⟩] 1, J0, 2, ts4, by kernel_rfl, ⟨rfl, rfl⟩, (fun h => by cases h), fun _ => ⟨rfl, rfl⟩⟩
theorem ts3 : TS T3 0 [⟨1, 0, 1, 0, []⟩, ⟨10, 1, 4, 0, [97]⟩, ⟨6, 4, 5, 0, []⟩, ⟨9, 5, 6, 1, []⟩, ⟨5, 6, 7, 0, []⟩, ⟨10, 7, 10, 0, [97]⟩, ⟨6, 10, 11, 0, []⟩, ⟨9, 11, 12, 2, []⟩, ⟨2, 12, 13, 0, []⟩] (13, 0) :=
  .more (by kernel_rfl) (by decide) (.more (by kernel_rfl) (by decide) (.more (by kernel_rfl) (by decide) (.more (by kernel_rfl) (by decide) (.more (by kernel_rfl) (by decide) (.more (by kernel_rfl) (by decide) (.more (by kernel_rfl) (by decide) (.more (by kernel_rfl) (by decide) (.more (by kernel_rfl) (by decide) (.stop (by kernel_rfl))))))))))
theorem is3 : RdIs T3 J0 7 7 := .inr ⟨by decide, _, _, 6, .bad 7 7, J0, 7, ts3, by kernel_rfl, ⟨rfl, rfl, by decide⟩, (fun h => by cases h), fun _ => ⟨rfl, rfl⟩⟩
theorem ts1 : TS T1 0 [⟨1, 0, 1, 0, []⟩, ⟨10, 1, 4, 0, [98]⟩, ⟨6, 4, 5, 0, []⟩, ⟨3, 5, 6, 0, []⟩, ⟨9, 6, 7, 1, []⟩, ⟨5, 7, 8, 0, []⟩, ⟨7, 8, 12, 0, []⟩, ⟨4, 12, 13, 0, []⟩, ⟨5, 13, 14, 0, []⟩, ⟨10, 14, 17, 0, [97]⟩, ⟨6, 17, 18, 0, []⟩, ⟨10, 18, 21, 0, [120]⟩, ⟨2, 21, 22, 0, []⟩] (22, 0) :=
  .more (by kernel_rfl) (by decide) (.more (by kernel_rfl) (by decide) (.more (by kernel_rfl) (by decide) (.more (by kernel_rfl) (by decide) (.more (by kernel_rfl) (by decide) (.more (by kernel_rfl) (by decide) (.more (by kernel_rfl) (by decide) (.more (by kernel_rfl) (by decide) (.more (by kernel_rfl) (by decide) (.more (by kernel_rfl) (by decide) (.more (by kernel_rfl) (by decide) (.more (by kernel_rfl) (by decide) (.more (by kernel_rfl) (by decide) (.stop (by kernel_rfl))))))))))))))
theorem is1 : RdIs T1 J1 0 0 := .inr ⟨by decide, _, _, 9, .ok J1 [] 5, J1, 0, ts1, by kernel_rfl, ⟨rfl, fun _ => rfl, fun h => absurd rfl h⟩, fun _ => ⟨rfl, rfl⟩, fun h => absurd rfl h⟩
/-- Read of a text of which it is known what it is to tell -/
theorem rd_call {l : List UInt8} {x : JV} {pl e : Nat} (hI : RdIs l x pl e) (w : World) (hw : TabL w) :
    Calls Tryz.prog 13 #[.string (S l)] w fun en w' => ∃ (kI nI : Int) (t : ByteArray) (a b : Option Addr) (i j ca cb : Nat), en = .returned (.tuple #[.agg #[.int .u8 kI, .int .i64 nI, .string t, .slice a i ca, .slice b j cb], .int .i64 (pl : Int), .int .i64 (e : Int)]) ∧ HV w' (.agg #[.int .u8 kI, .int .i64 nI, .string t, .slice a i ca, .slice b j cb]) x ∧ Below w.heap.size w w' := by
  refine (readRead_any l w hw).mono ?_
  rintro en w' ⟨u, x', pl', e', rfl, hr, hu, hb⟩
  obtain ⟨rfl, rfl, rfl⟩ := hI.det hr
  obtain ⟨kI, nI, t, a, b, i, j, ca, cb, rfl⟩ := hu.open'
  obtain ⟨cs, e, h⟩ := hu
  exact ⟨_, _, _, _, _, _, _, _, _, rfl, ⟨cs, e, h.hc⟩, hb⟩
end

section
open Go.RowKit

/-- may a value be? -/
def JV.may (x : JV) : Bool := x.part && (decide (x.cnt ≤ 8192) && decide (x.dep ≤ 12))
set_option maxHeartbeats 1000000 in
set_option maxRecDepth 10000 in
theorem refMay_any (x : JV) (w : World) (v : Value) (hwt : x.wt ≤ 90000) (hv : HV w v x) :
    Calls Tryz.prog 19 #[v] w fun e w' => e = .returned (.bool x.may) ∧ Below w.heap.size w w' := by
  have hcw := x.cnt_wt
  have cP := fun w v (h : HV w v x) => refPart_any _ x (Nat.le_refl _) hwt w v h
  have cC := fun w v (h : HV w v x) => refCount_any _ x (Nat.le_refl _) (by omega) w v h
  have cD := fun w v (h : HV w v x) => refDepth_any _ x (Nat.le_refl _) (by omega) w v h
  have HM : Hid (x.may = (x.part && (decide (x.cnt ≤ 8192) && decide (x.dep ≤ 12)))) := rfl
  obtain ⟨cs, rfl, hc⟩ := hv
  obtain ⟨a, b, ca, cb, rfl, hB, hN, hI⟩ := hc.form
  have hv : HV w (.agg #[.int .u8 (x.k : Int), .int .i64 x.n, .string (S x.t), .slice a x.ns.length ca, .slice b x.is.length cb]) x := ⟨_, rfl, hc⟩
  obtain ⟨p, hp⟩ : ∃ p, x.part = p := ⟨_, rfl⟩
  obtain ⟨C, hC⟩ : ∃ C : Nat, x.cnt = C := ⟨_, rfl⟩
  obtain ⟨D, hD⟩ : ∃ D : Nat, x.dep = D := ⟨_, rfl⟩
  rw [hp] at cP
  rw [hC] at cC
  rw [hD] at cD
  obtain ⟨CI, hCI⟩ : ∃ z : Int, z = (C : Int) := ⟨_, rfl⟩
  obtain ⟨DI, hDI⟩ : ∃ z : Int, z = (D : Int) := ⟨_, rfl⟩
  rw [← hCI] at cC
  rw [← hDI] at cD
  have HM : Hid (x.may = (p && (decide (CI ≤ 8192) && decide (DI ≤ 12)))) := by
    rw [Hid, HM.out, hp, hC, hD]
    congr 1
    congr 1
    · rw [decide_eq_decide]; omega
    · rw [decide_eq_decide]; omega
  have HV0 := Lib.hid hv
  clear hp hC hD hCI hDI hv hc hB hN hI hcw
  generalize x.is.length = m at *
  generalize x.ns.length = r at *
  obtain ⟨W1, hW1⟩ : ∃ W, W = w.alloc (.cells #[.int .u8 (x.k : Int), .int .i64 x.n, .string (S x.t), .slice a r ca, .slice b m cb] 26) := ⟨_, rfl⟩
  have V1 : VAt w.heap.size W1 (.int .u8 (x.k : Int)) (.int .i64 x.n) (.string (S x.t)) (.slice a r ca) (.slice b m cb) := by rw [hW1]; exact VAt.new ..
  have b1 : Below w.heap.size w W1 := by rw [hW1]; exact (Below.refl _ _).alloc (Nat.le_refl _) _
  cases p
  · go_enter Tryz.func19, Tryz.ntmps19
    go_wp2_with fail
    rw [← hW1]
    refine (cP _ _ (HV0.out.below b1)).mono ?_; rintro e w2 ⟨rfl, b2⟩
    go_wp2_with fail
    go_ret
    exact ⟨ret_eq HM.out rfl, b1.trans (b2.mono b1.size)⟩
  · by_cases h1 : CI ≤ 8192
    · have HM : Hid (x.may = decide (DI ≤ 12)) := by rw [Hid, HM.out]; simp [h1]
      by_cases h2 : DI ≤ 12
      · have HM : Hid (x.may = true) := by rw [Hid, HM.out]; simp [h2]
        go_enter Tryz.func19, Tryz.ntmps19
        go_wp2_with fail
        rw [← hW1]
        refine (cP _ _ (HV0.out.below b1)).mono ?_; rintro e w2 ⟨rfl, b2⟩
        have V2 := V1.below b2
        have c2 := b1.trans (b2.mono b1.size)
        obtain ⟨⟨z0, z1, z2, z3, z4⟩, _⟩ := V2.cells
        go_wp2_with fail
        refine (cC _ _ (HV0.out.below c2)).mono ?_; rintro e w3 ⟨rfl, b3⟩
        have V3 := V2.below b3
        have c3 := c2.trans (b3.mono c2.size)
        clear z0 z1 z2 z3 z4
        obtain ⟨⟨z0, z1, z2, z3, z4⟩, _⟩ := V3.cells
        go_wp2_with fail
        refine (cD _ _ (HV0.out.below c3)).mono ?_; rintro e w4 ⟨rfl, b4⟩
        go_wp2_with fail
        go_ret
        exact ⟨ret_eq HM.out rfl, c3.trans (b4.mono c3.size)⟩
      · have HM : Hid (x.may = false) := by rw [Hid, HM.out]; simp [h2]
        go_enter Tryz.func19, Tryz.ntmps19
        go_wp2_with fail
        rw [← hW1]
        refine (cP _ _ (HV0.out.below b1)).mono ?_; rintro e w2 ⟨rfl, b2⟩
        have V2 := V1.below b2
        have c2 := b1.trans (b2.mono b1.size)
        obtain ⟨⟨z0, z1, z2, z3, z4⟩, _⟩ := V2.cells
        go_wp2_with fail
        refine (cC _ _ (HV0.out.below c2)).mono ?_; rintro e w3 ⟨rfl, b3⟩
        have V3 := V2.below b3
        have c3 := c2.trans (b3.mono c2.size)
        clear z0 z1 z2 z3 z4
        obtain ⟨⟨z0, z1, z2, z3, z4⟩, _⟩ := V3.cells
        go_wp2_with fail
        refine (cD _ _ (HV0.out.below c3)).mono ?_; rintro e w4 ⟨rfl, b4⟩
        go_wp2_with fail
        go_ret
        exact ⟨ret_eq HM.out (by first | rfl | (rw [decide_eq_false_iff_not]; omega)), c3.trans (b4.mono c3.size)⟩
    · have HM : Hid (x.may = false) := by rw [Hid, HM.out]; simp [h1]
      go_enter Tryz.func19, Tryz.ntmps19
      go_wp2_with fail
      rw [← hW1]
      refine (cP _ _ (HV0.out.below b1)).mono ?_; rintro e w2 ⟨rfl, b2⟩
      have V2 := V1.below b2
      have c2 := b1.trans (b2.mono b1.size)
      obtain ⟨⟨z0, z1, z2, z3, z4⟩, _⟩ := V2.cells
      go_wp2_with fail
      refine (cC _ _ (HV0.out.below c2)).mono ?_; rintro e w3 ⟨rfl, b3⟩
      go_wp2_with fail
      go_ret
      exact ⟨ret_eq HM.out (by first | rfl | (rw [decide_eq_false_iff_not]; omega)), c2.trans (b3.mono c2.size)⟩
end

section
open Go.RowKit

namespace Rd
/-- where what is wrong stands -/
def At (E : Nat × Nat) (ms : List Lm.Mark) (p : Nat) : Prop := p = E.1 ∨ ∃ m ∈ ms, p = m.a
theorem At.sub {E : Nat × Nat} {ms ms' : List Lm.Mark} {p : Nat} (h : At E ms p) (hs : ∀ m ∈ ms, m ∈ ms') : At E ms' p := by
  rcases h with h | ⟨m, hm, h⟩
  · exact .inl h
  · exact .inr ⟨m, hs m hm, h⟩
theorem At.head {E : Nat × Nat} (m : Lm.Mark) (ms : List Lm.Mark) : At E (m :: ms) m.a := .inr ⟨m, List.mem_cons_self, rfl⟩
theorem P_bad {E : Nat × Nat} : ∀ (f : Nat) (s : St) (ms : List Lm.Mark) (n d : Nat) (p e : Nat), P E f s ms n d = some (.bad p e) → At E ms p
  | 0, _, _, _, _, _, _, h => by cases h
  | f + 1, .v, ms, n, d, p, e, h => by
    have ih := P_bad (E := E) f
    have hw := P_v h
    cases hw with
    | short => exact .inl rfl
    | form => exact At.head _ _
    | long => exact At.head _ _
    | deep => exact At.head _ _
    | cut => exact .inl rfl
    | list h hn hd h1 hr => exact (ih _ _ _ _ _ _ hr).sub fun m hm => List.mem_cons_of_mem _ hm
    | obj h hn hd h1 hr => exact (ih _ _ _ _ _ _ hr).sub fun m hm => List.mem_cons_of_mem _ hm
  | f + 1, .l acc, ms, n, d, p, e, h => by
    have ih := P_bad (E := E) f
    have hw := P_l h
    cases hw with
    | item hv => exact ih _ _ _ _ _ _ hv
    | cut => exact .inl rfl
    | next hv h1 hr => exact (ih _ _ _ _ _ _ hr).sub fun m hm => P_rest hv m (List.mem_cons_of_mem _ hm)
    | form hv => exact .inr ⟨_, P_rest hv _ List.mem_cons_self, rfl⟩
  | f + 1, .o ns is, ms, n, d, p, e, h => by
    have ih := P_bad (E := E) f
    have hw := P_o h
    cases hw with
    | short => exact .inl rfl
    | form => exact At.head _ _
    | twice => exact At.head _ _
    | cut1 => exact .inl rfl
    | form1 => exact .inr ⟨_, List.mem_cons_of_mem _ List.mem_cons_self, rfl⟩
    | item _ _ _ hv => exact (ih _ _ _ _ _ _ hv).sub fun m hm => List.mem_cons_of_mem _ (List.mem_cons_of_mem _ hm)
    | cut => exact .inl rfl
    | next _ _ _ hv h1 hr => exact (ih _ _ _ _ _ _ hr).sub fun m hm => List.mem_cons_of_mem _ (List.mem_cons_of_mem _ (P_rest hv m (List.mem_cons_of_mem _ hm)))
    | form3 _ _ _ hv => exact .inr ⟨_, List.mem_cons_of_mem _ (List.mem_cons_of_mem _ (P_rest hv _ List.mem_cons_self)), rfl⟩
end Rd
theorem mark_at {l : List UInt8} {p : Nat} {m : Lm.Mark} (hp : p ≤ l.length) (h : Lm.mark l p = (m, 0)) : m.a = p ∧ m.b ≤ l.length := by
  rcases Lm.mark_ways l p hp with ⟨h1, _⟩ | ⟨h1, h2⟩ | ⟨_, _, _, h4, _, h6⟩
  · rw [h] at h1; exact absurd rfl h1
  · rw [h] at h1
    simp only [Prod.mk.injEq, and_true] at h1
    rw [h1]
    exact ⟨rfl, hp⟩
  · rw [h] at h4 h6
    exact ⟨h4, h6⟩
/-- all places are in the text, or its end -/
theorem TS.at' {l : List UInt8} {p : Nat} {ms : List Lm.Mark} {E : Nat × Nat} (h : TS l p ms E) : p ≤ l.length → E.1 ≤ l.length ∧ ∀ m ∈ ms, m.a ≤ l.length := by
  induction h with
  | stop => intro hp; exact ⟨Nat.le_refl _, fun m hm => by cases hm⟩
  | bad => intro hp; exact ⟨Lm.skip_le hp, fun m hm => by cases hm⟩
  | @more p m ms E h hk hs ih =>
    intro hp
    have hm := mark_at (Lm.skip_le hp) h
    obtain ⟨h1, h2⟩ := ih hm.2
    refine ⟨h1, fun z hz => ?_⟩
    rcases List.mem_cons.1 hz with rfl | hz
    · rw [hm.1]; exact Lm.skip_le hp
    · exact h2 z hz
theorem rd_may {l : List UInt8} {x : JV} {pl e : Nat} (h : RdIs l x pl e) (hl : l.length ≤ 20000) : (e = 0 → x.may = true ∧ x.wt ≤ 90000 ∧ pl = 0) ∧ (e ≠ 0 → x = J0 ∧ pl ≤ l.length) := by
  rcases h with ⟨h0, _⟩ | ⟨_, ms, E, f, r, y, q, hT, hP, hR, h4, h5⟩
  · omega
  have hat := hT.at' (Nat.zero_le _)
  have hin : ∀ p, Rd.At E ms p → p ≤ l.length := fun p h => by
    rcases h with rfl | ⟨m, hm, rfl⟩
    · exact hat.1
    · exact hat.2 m hm
  match r, hP, hR with
  | .bad p e0, hP, hR =>
    refine ⟨fun h => absurd (hR.1.symm.trans h) hR.2.2, fun h => ⟨(h5 h).1, ?_⟩⟩
    rw [(h5 h).2, hR.2.1]
    exact hin _ (Rd.P_bad _ _ _ _ _ _ _ hP)
  | .ok z [] n, hP, hR =>
    refine ⟨fun h => ?_, fun h => ⟨(h5 h).1, ?_⟩⟩
    · obtain rfl := (h4 h).1
      obtain rfl := hR.2.1 (hR.1.symm.trans h)
      obtain ⟨g1, g2, g3, g4⟩ : x.part = true ∧ n = 0 + x.cnt ∧ 0 + x.dep ≤ 12 ∧ n ≤ 8192 := Rd.P_good _ _ _ _ _ _ _ _ hP (fun m hm => (hT.ok (Nat.zero_le _) m hm).mt) (Nat.zero_le _)
      refine ⟨?_, read_wt hT hP hl, (h4 h).2⟩
      unfold JV.may
      rw [g1, decide_eq_true (by omega), decide_eq_true (by omega)]
      rfl
    · rw [(h5 h).2, hR.2.2 (fun h0 => h (hR.1.trans h0))]
      exact hat.1
  | .ok z (m :: ms') n, hP, hR =>
    have hR' : e = 11 ∧ q = m.a := hR
    refine ⟨fun h => by omega, fun h => ⟨(h5 h).1, ?_⟩⟩
    rw [(h5 h).2, hR'.2]
    exact hat.2 m (Rd.P_rest hP m List.mem_cons_self)
end

section
open Go.RowKit

theorem TS.same {l : List UInt8} {p q : Nat} {ms : List Lm.Mark} {E : Nat × Nat} (hs : Lm.skip l p = Lm.skip l q) (h : TS l p ms E) : TS l q ms E := by
  cases h with
  | stop h => exact .stop (hs ▸ h)
  | bad h he => rw [hs] at h ⊢; exact .bad h he
  | more h hk ht => exact .more (hs ▸ h) hk ht
/-- behind a text whose marks are all there, a blank, and what stands behind it -/
theorem TS.ahead {s : List UInt8} (t : List UInt8) {p : Nat} {a : List Lm.Mark} {E : Nat × Nat} (h : TS s p a E) : p ≤ s.length → E.2 = 0 → ∀ b E', TS (s ++ 32 :: t) (s.length + 1) b E' → TS (s ++ 32 :: t) p (a ++ b) E' := by
  induction h with
  | @stop p h =>
    intro hp _ b E' hb
    obtain ⟨_, he⟩ := Lm.end_is hp h rfl
    exact hb.same ((Lm.skip_out _ hp he).trans (Lm.gap s t)).symm
  | bad h he => intro _ h0; exact absurd h0 he
  | @more p m ms E h hk hr ih =>
    intro hp h0 b E' hb
    have hon := Lm.on_le hp h hk
    have hs := Lm.skip_in (32 :: t) hp (show Lm.skip s p < s.length by omega)
    exact .more (by rw [hs, Lm.mark_in (.cons rfl t) (by omega) (by rw [h]; exact (by decide : (0 : Nat) ≠ 4)), h]) hk (ih (by omega) h0 b E' hb)
theorem Als.nil_of {r' : List Lm.Mark} (h : Rd.Als [] r') : r' = [] := by
  cases h
  rfl
/-- what P9.7 asks -/
theorem more_is {s t : List UInt8} {x : JV} {pl : Nat} {m : Lm.Mark} (h : RdIs s x pl 0) (hs : s.length ≤ 10000) (ht : t.length ≤ 10000) (hm : Lm.mark t (Lm.skip t 0) = (m, 0)) (hk : m.k ≠ 11) : RdIs (s ++ 32 :: t) J0 (s.length + 1 + m.a) 11 := by
  rcases h with ⟨h0, _⟩ | ⟨_, ms, E, f, r, y, q, hT, hP, hR, _, _⟩
  · omega
  obtain ⟨z, n, rfl, hE⟩ : ∃ z n, r = .ok z [] n ∧ E.2 = 0 := by
    match r, hR with
    | .bad p e0, hR => exact absurd hR.1.symm hR.2.2
    | .ok z [] n, hR => exact ⟨z, n, rfl, hR.1.symm⟩
    | .ok z (_ :: _) n, hR =>
      have : (0 : Nat) = 11 := hR.1
      omega
  have hlen : (s ++ 32 :: t).length = s.length + 1 + t.length := by simp; omega
  have hsk := Lm.skip_le (l := t) (p := 0) (Nat.zero_le _)
  -- the mark, behind
  have hm2 : Lm.mark (s ++ 32 :: t) (Lm.skip (s ++ 32 :: t) (s.length + 1)) = (Lm.mv (s.length + 1) m, 0) := by
    have e : s ++ 32 :: t = (s ++ [32]) ++ t := by simp
    have e2 : (s ++ [32]).length = s.length + 1 := by simp
    have h1 : Lm.skip (s ++ 32 :: t) (s.length + 1) = s.length + 1 + Lm.skip t 0 := by
      have := Lm.skip_shift (s ++ [32]) t 0
      rw [e2] at this
      rw [e]
      exact this
    rw [h1]
    have h2 := Lm.mark_shift (s ++ [32]) (t := t) (p := Lm.skip t 0) hsk
    rw [e2, hm, Lm.put_ok] at h2
    rw [e]
    exact h2
  obtain ⟨b, E', hb⟩ := TS.exists (s ++ 32 :: t) ((s ++ 32 :: t).length + 1) (Lm.mv (s.length + 1) m).b (by
    have := (mark_at (by rw [hlen]; have := Lm.skip_le (l := s ++ 32 :: t) (p := s.length + 1) (by omega); omega) hm2).2
    exact this) (by omega)
  have hT2 := hT.ahead t (Nat.zero_le _) hE _ _ (.more hm2 hk hb)
  obtain ⟨r', hr', hP2⟩ := Rd.P_al (E' := E') (Lm.mv (s.length + 1) m :: b) f .v ms 0 0 z [] n hP ms (Rd.Als.refl ms)
  obtain rfl := Als.nil_of hr'
  refine .inr ⟨by omega, _, E', f, _, J0, s.length + 1 + m.a, hT2, hP2, ⟨rfl, rfl⟩, (fun h => by cases h), fun _ => ⟨rfl, rfl⟩⟩
end

section
open Go.RowKit
namespace Lm

/-- bytes that end a number, and a word: none, or one first that goes on with neither -/
def Stop (v : List UInt8) : Prop := ∀ b, v.head? = some b → Nm.more b = false ∧ az b = false
theorem Stop.nil : Stop [] := fun _ h => by simp at h
theorem Stop.cons {b : UInt8} (h1 : Nm.more b = false) (h2 : az b = false) (v : List UInt8) : Stop (b :: v) := fun c hc => by
  obtain rfl : b = c := by simpa using hc
  exact ⟨h1, h2⟩
theorem Stop.ws {b : UInt8} (h : ws b = true) (v : List UInt8) : Stop (b :: v) := .cons (ws_more h) (ws_az h) v
theorem tok_stop {u v : List UInt8} (hv : Stop v) (hu : u ≠ []) (h4 : (tok u).2 ≠ 4) : tok (u ++ v) = tok u := by
  match u, hu, h4 with
  | c :: r, _, h4 =>
    have hm := takeWhile_app (f := Nm.more) (v := v) (fun b hb => (hv b hb).1) (c :: r)
    have ha := takeWhile_app (f := az) (v := v) (fun b hb => (hv b hb).2) (c :: r)
    rw [List.cons_append] at hm ha ⊢
    rw [tok] at h4 ⊢
    rw [tok, hm, ha]
    by_cases h0 : punct c ≠ 0
    · rw [if_pos h0, if_pos h0]
    rw [if_neg h0] at h4 ⊢
    rw [if_neg h0]
    by_cases h34 : c = 34
    · rw [if_pos h34] at h4 ⊢
      rw [if_pos h34]
      have hx : (Qm.RDF r 0).2.2 ≠ 4 := by
        intro e
        rw [if_neg (by omega)] at h4
        exact h4 e
      rw [Qm.RDF_more (r.length + 1) r v 0 (by omega) hx]
    · rw [if_neg h34, if_neg h34]
theorem mark_stop {s v : List UInt8} (hv : Stop v) {p : Nat} (hp : p < s.length) (h4 : (mark s p).2 ≠ 4) : mark (s ++ v) p = mark s p := by
  have hne : s.drop p ≠ [] := by
    intro e
    have := congrArg List.length e
    rw [List.length_drop, List.length_nil] at this
    omega
  rw [mark_tok s p (by omega), put_snd] at h4
  rw [mark_tok _ _ (by rw [List.length_append]; omega), mark_tok s p (by omega), List.drop_append_of_le_length (by omega), tok_stop hv hne h4]
theorem takeWhile_in {f : UInt8 → Bool} {u : List UInt8} (v : List UInt8) (h : (u.takeWhile f).length < u.length) : (u ++ v).takeWhile f = u.takeWhile f := by
  rw [List.takeWhile_append, if_neg (by omega)]
/-- a mark that does not reach the end is there whatever is behind -/
theorem tok_in {u : List UInt8} (v : List UInt8) {m : Mark} (h : tok u = (m, 0)) (hb : m.b < u.length) : tok (u ++ v) = (m, 0) := by
  match u, h, hb with
  | [], _, hb => simp at hb
  | c :: r, h, hb =>
    rw [List.cons_append, tok]
    rw [tok] at h
    by_cases h0 : punct c ≠ 0
    · rw [if_pos h0] at h ⊢
      exact h
    rw [if_neg h0] at h ⊢
    by_cases h34 : c = 34
    · rw [if_pos h34] at h ⊢
      have hx : (Qm.RDF r 0).2.2 ≠ 4 := by
        intro e
        rw [if_neg (by omega), e] at h
        simp at h
      rw [Qm.RDF_more (r.length + 1) r v 0 (by omega) hx]
      exact h
    rw [if_neg h34] at h ⊢
    by_cases hn : numb c = true
    · rw [if_pos hn] at h ⊢
      have hl : ((c :: r).takeWhile Nm.more).length = m.b := by
        unfold tokN at h
        split at h
        · split at h
          · rw [← (Prod.mk.inj h).1]
          · simp at h
        · simp at h
      rw [← List.cons_append, takeWhile_in v (by omega)]
      exact h
    rw [if_neg hn] at h ⊢
    have hw : ∀ t : List UInt8, (c :: r).takeWhile az = t → t.length = m.b → (c :: (r ++ v)).takeWhile az = (c :: r).takeWhile az := fun t h1 h2 => by
      rw [← List.cons_append, takeWhile_in v (by rw [h1]; omega)]
    by_cases h1 : (c :: r).takeWhile az = TRUE
    · rw [if_pos h1] at h
      rw [hw _ h1 (by rw [← (Prod.mk.inj h).1]; rfl), if_pos h1]
      exact h
    rw [if_neg h1] at h
    by_cases h2 : (c :: r).takeWhile az = FALSE
    · rw [if_pos h2] at h
      rw [hw _ h2 (by rw [← (Prod.mk.inj h).1]; rfl), if_neg h1, if_pos h2]
      exact h
    · rw [if_neg h2] at h
      simp at h
theorem tok_low {u : List UInt8} (v : List UInt8) {m : Mark} (h : tok u = (m, 0)) (hk : m.k ≤ 6) : tok (u ++ v) = (m, 0) ∧ ∃ c r, u = c :: r ∧ punct c = m.k ∧ punct c ≠ 0 := by
  match u, h with
  | [], h =>
    rw [tok] at h
    rw [← (Prod.mk.inj h).1] at hk
    exact absurd hk (show ¬ (11 : Nat) ≤ 6 by decide)
  | c :: r, h =>
    rw [tok] at h
    by_cases h0 : punct c ≠ 0
    · rw [if_pos h0] at h
      refine ⟨?_, c, r, rfl, by rw [← (Prod.mk.inj h).1], h0⟩
      rw [List.cons_append, tok, if_pos h0]
      exact h
    exfalso
    rw [if_neg h0] at h
    unfold tokN at h
    repeat' split at h
    all_goals first
      | (have h1 := (Prod.mk.inj h).1; rw [← h1] at hk; revert hk; decide)
      | (have h1 := (Prod.mk.inj h).1; rw [← h1] at hk; have hk' : (9 : Nat) ≤ 6 := hk; omega)
      | (have h1 := (Prod.mk.inj h).1; rw [← h1] at hk; have hk' : (10 : Nat) ≤ 6 := hk; omega)
      | (exact absurd (Prod.mk.inj h).2 (by assumption))
      | (exact absurd (Prod.mk.inj h).2 (by decide))
      | (simp at h)
theorem mark_low {s : List UInt8} (v : List UInt8) {p : Nat} {m : Mark} (hp : p ≤ s.length) (h : mark s p = (m, 0)) (hk : m.k ≤ 6) : mark (s ++ v) p = (m, 0) ∧ ∃ c, s[p]? = some c ∧ punct c = m.k ∧ punct c ≠ 0 := by
  obtain ⟨m0, h0, rfl⟩ := tok_of hp h
  obtain ⟨h1, c, r, h2, h3, h4⟩ := tok_low v h0 hk
  refine ⟨?_, c, ?_, h3, h4⟩
  · rw [mark_tok _ _ (by rw [List.length_append]; omega), List.drop_append_of_le_length hp, h1, put_ok]
  · have := congrArg (fun l : List UInt8 => l[0]?) h2
    simpa using this
end Lm
theorem TS.app {s v : List UInt8} (hv : Lm.Stop v) {p : Nat} {a : List Lm.Mark} {E : Nat × Nat} (h : TS s p a E) : p ≤ s.length → E.2 = 0 → ∀ b E', TS (s ++ v) s.length b E' → TS (s ++ v) p (a ++ b) E' := by
  induction h with
  | @stop p h =>
    intro hp _ b E' hb
    obtain ⟨_, he⟩ := Lm.end_is hp h rfl
    exact hb.same (Lm.skip_out _ hp he).symm
  | bad h he => intro _ h0; exact absurd h0 he
  | @more p m ms E h hk hr ih =>
    intro hp h0 b E' hb
    have hon := Lm.on_le hp h hk
    have hs := Lm.skip_in v hp (show Lm.skip s p < s.length by omega)
    exact .more (by rw [hs, Lm.mark_stop hv (by omega) (by rw [h]; exact (by decide : (0 : Nat) ≠ 4)), h]) hk (ih (by omega) h0 b E' hb)
/-- a front that ends with a bracket -/
theorem TS.front {t v : List UInt8} {p : Nat} {a : List Lm.Mark} {E : Nat × Nat} (h : TS t p a E) : p ≤ t.length → E.2 = 0 → (∃ u m, a = u ++ [m] ∧ m.k ≤ 6) → ∀ b E', TS (t ++ v) t.length b E' → TS (t ++ v) p (a ++ b) E' := by
  induction h with
  | stop h => intro _ _ ⟨u, m, e, _⟩; simp at e
  | bad h he => intro _ h0; exact absurd h0 he
  | @more p m ms E h hk hr ih =>
    intro hp h0 ⟨u, m', e, hm'⟩ b E' hb
    have hon := Lm.on_le hp h hk
    have hs := Lm.skip_in v hp (show Lm.skip t p < t.length by omega)
    have hsl := Lm.skip_le (l := t) hp
    cases hr with
    | @stop q hq =>
      obtain ⟨_, he⟩ := Lm.end_is (by omega) hq rfl
      have hmm : m = m' := by
        cases u with
        | nil => simpa using e
        | cons y ys => simp at e
      subst hmm
      exact .more (by rw [hs]; exact (Lm.mark_low v hsl h hm').1) hk (hb.same (Lm.skip_out _ (by omega) he).symm)
    | bad h he => exact absurd h0 he
    | @more q m2 ms2 E2 h2 hk2 hr2 =>
      have hon2 := Lm.on_le (by omega) h2 hk2
      have hge := Lm.skip_ge t m.b
      obtain ⟨m0, h00, e0⟩ := Lm.tok_of hsl h
      have hmb : m.b = Lm.skip t p + m0.b := by rw [e0]; rfl
      have hin := Lm.tok_in v h00 (by rw [List.length_drop]; omega)
      have hmk : Lm.mark (t ++ v) (Lm.skip t p) = (m, 0) := by
        rw [Lm.mark_tok _ _ (by rw [List.length_append]; omega), List.drop_append_of_le_length hsl, hin, Lm.put_ok, e0]
      refine .more (by rw [hs]; exact hmk) hk (ih (by omega) h0 ?_ b E' hb)
      cases u with
      | nil => simp at e
      | cons y ys =>
        simp only [List.cons_append, List.cons.injEq] at e
        exact ⟨ys, m', e.2, hm'⟩
theorem mv_sh (z : Nat) (m : Lm.Mark) : Lm.mv z m = Rd.sh z m := by
  unfold Lm.mv Rd.sh
  rw [Nat.add_comm z m.a, Nat.add_comm z m.b]
theorem TS.shift (u : List UInt8) {t : List UInt8} {p : Nat} {ms : List Lm.Mark} {E : Nat × Nat} (h : TS t p ms E) : p ≤ t.length → TS (u ++ t) (u.length + p) (ms.map (Rd.sh u.length)) (E.1 + u.length, E.2) := by
  induction h with
  | @stop p h =>
    intro hp
    have hsl := Lm.skip_le (l := t) hp
    have e : t.length + u.length = (u ++ t).length := by rw [List.length_append]; omega
    rw [show ((t.length, 0) : Nat × Nat).1 = t.length from rfl, show ((t.length, 0) : Nat × Nat).2 = 0 from rfl, e]
    refine .stop ?_
    rw [Lm.skip_shift, Lm.mark_shift u hsl, h, Lm.put_ok, List.length_append]
    rfl
  | @bad p e h he =>
    intro hp
    have hsl := Lm.skip_le (l := t) hp
    have h2 : Lm.mark (u ++ t) (Lm.skip (u ++ t) (u.length + p)) = (Lm.zero, e) := by
      rw [Lm.skip_shift, Lm.mark_shift u hsl, h, Lm.put_no _ _ he]
    have := TS.bad h2 he
    have e2 : u.length + Lm.skip t p = Lm.skip t p + u.length := Nat.add_comm _ _
    rw [Lm.skip_shift, e2] at this
    exact this
  | @more p m ms E h hk hr ih =>
    intro hp
    have hsl := Lm.skip_le (l := t) hp
    have hon := Lm.on_le hp h hk
    refine .more (m := Rd.sh u.length m) ?_ hk ?_
    · rw [Lm.skip_shift, Lm.mark_shift u hsl, h, Lm.put_ok, mv_sh]
    · have := ih (by omega)
      rw [Nat.add_comm] at this
      exact this
/-- all marks of a text are there -/
def Ful (s : List UInt8) (ms : List Lm.Mark) : Prop := TS s 0 ms (s.length, 0)
theorem Ful.glue {s v : List UInt8} {a b : List Lm.Mark} (h : Ful s a) (hv : Lm.Stop v) (hb : Ful v b) : Ful (s ++ v) (a ++ b.map (Rd.sh s.length)) := by
  have h2 := hb.shift s (Nat.zero_le _)
  rw [Nat.add_zero] at h2
  have e : ((v.length, 0) : Nat × Nat).1 + s.length = (s ++ v).length := by rw [List.length_append]; exact Nat.add_comm _ _
  rw [e] at h2
  exact TS.app hv h (Nat.zero_le _) rfl _ _ h2
theorem Ful.nil : Ful [] [] := .stop rfl
theorem Ful.one {c : UInt8} {k : Nat} (hc : Lm.punct c = k) (h0 : k ≠ 0) {v : List UInt8} {b : List Lm.Mark} (hb : Ful v b) : Ful (c :: v) (⟨k, 0, 1, 0, []⟩ :: b.map (Rd.sh 1)) := by
  have h2 := hb.shift [c] (Nat.zero_le _)
  have hws : Lm.ws c = false := by
    cases hw : Lm.ws c with
    | false => rfl
    | true =>
      exfalso
      rcases Lm.ws_cases hw with rfl | rfl | rfl | rfl <;> exact h0 (hc.symm.trans (by decide))
  have hs : Lm.skip (c :: v) 0 = 0 := by
    unfold Lm.skip
    rw [Lm.run_stop (d := c) (by rfl) hws]
  have hp6 := Lm.punct_le c
  refine .more (m := ⟨k, 0, 1, 0, []⟩) (by rw [hs]; exact Lm.mark_punct (by rfl) hc h0) (show k ≠ 11 by omega) ?_
  have e : ((v.length, 0) : Nat × Nat).1 + [c].length = (c :: v).length := rfl
  rw [e] at h2
  exact h2
theorem Ful.blank {c : UInt8} (hc : Lm.ws c = true) {v : List UInt8} {b : List Lm.Mark} (hb : Ful v b) : Ful (c :: v) (b.map (Rd.sh 1)) := by
  have h2 := hb.shift [c] (Nat.zero_le _)
  have e : ((v.length, 0) : Nat × Nat).1 + [c].length = (c :: v).length := rfl
  rw [e] at h2
  exact TS.same (Lm.skip_blank (b := c) (by rfl) hc).symm h2
theorem Ful.blanks {v : List UInt8} {b : List Lm.Mark} (hb : Ful v b) : ∀ u : List UInt8, u.all Lm.ws = true → Ful (u ++ v) (b.map (Rd.sh u.length))
  | [], _ => by
    have : b.map (Rd.sh 0) = b := by
      have h : (Rd.sh 0) = id := by funext m; rfl
      rw [h, List.map_id]
    rw [List.length_nil, this]
    exact hb
  | c :: u, h => by
    simp only [List.all_cons, Bool.and_eq_true] at h
    have := Ful.blank h.1 (Ful.blanks hb u h.2)
    rw [List.map_map] at this
    have e : Rd.sh 1 ∘ Rd.sh u.length = Rd.sh (c :: u).length := by
      funext m
      simp [Rd.sh, Nat.add_assoc]
    rw [e] at this
    exact this
end

section
open Go.RowKit
namespace Rd

theorem Al.trans {a b c : Lm.Mark} (h : Al a b) (g : Al b c) : Al a c := ⟨h.1.trans g.1, h.2.1.trans g.2.1, h.2.2.trans g.2.2⟩
theorem Als.trans {a b c : List Lm.Mark} (h : Als a b) (g : Als b c) : Als a c := by
  induction h generalizing c with
  | nil => exact g
  | cons h _ ih => cases g with | cons g1 g2 => exact .cons (h.trans g1) (ih g2)
theorem Als.split {a b c : List Lm.Mark} (h : Als (a ++ b) c) : ∃ a' b', c = a' ++ b' ∧ Als a a' ∧ Als b b' := by
  induction a generalizing c with
  | nil => exact ⟨[], c, rfl, .nil, h⟩
  | cons m ms ih =>
    cases h with
    | @cons _ m' _ ms' h hs =>
      obtain ⟨a', b', rfl, h1, h2⟩ := ih hs
      exact ⟨m' :: a', b', rfl, .cons h h1, h2⟩
/-- the marks say the value, wherever they stand -/
def Reads (x : JV) (ms : List Lm.Mark) : Prop := ∀ ms', Als ms ms' → ∀ (E : Nat × Nat) (rest : List Lm.Mark) (n d : Nat), n + x.cnt ≤ 8192 → d + x.dep ≤ 12 → ∃ f, P E f .v (ms' ++ rest) n d = some (.ok x rest (n + x.cnt))
theorem Reads.al {x : JV} {a b : List Lm.Mark} (h : Reads x a) (g : Als a b) : Reads x b := fun ms' h' => h ms' (g.trans h')
theorem Reads.sh {x : JV} {a : List Lm.Mark} (h : Reads x a) (z : Nat) : Reads x (a.map (sh z)) := h.al (Als.sh z a)
theorem Reads.ne {x : JV} {a : List Lm.Mark} (h : Reads x a) (hc : x.cnt ≤ 8192) (hd : x.dep ≤ 12) : ∃ m ms, a = m :: ms ∧ begins m.k = true := by
  obtain ⟨f, hf⟩ := h a (Als.refl a) (0, 0) [] 0 0 (by omega) (by omega)
  rw [List.append_nil] at hf
  obtain ⟨r, hr⟩ : ∃ r, r = Res.ok x [] (0 + x.cnt) := ⟨_, rfl⟩
  obtain ⟨n0, hn0⟩ : ∃ n0, n0 = 0 + x.cnt := ⟨_, rfl⟩
  rw [← hn0] at hf
  clear hr hn0
  cases f with
  | zero => cases hf
  | succ f =>
    have hw := P_v hf
    clear hf
    generalize hrr : Res.ok x [] n0 = rr at hw
    cases hw with
    | short => cases hrr
    | form => cases hrr
    | long => cases hrr
    | deep => cases hrr
    | cut => cases hrr
    | atom g1 => exact ⟨_, _, rfl, g1⟩
    | nolist g1 => exact ⟨_, _, rfl, begins_13 (.inr g1)⟩
    | list g1 => exact ⟨_, _, rfl, begins_13 (.inr g1)⟩
    | noobj g1 => exact ⟨_, _, rfl, begins_13 (.inl g1)⟩
    | obj g1 => exact ⟨_, _, rfl, begins_13 (.inl g1)⟩
theorem Reads.atom (m : Lm.Mark) (h7 : 7 ≤ m.k) (h10 : m.k ≤ 10) : Reads (atom m) [m] := fun ms' h' E rest n d hn hd => by
  have hc : (Rd.atom m).cnt = 1 := by
    unfold Rd.atom
    split
    · simp [JV.cnt, JV.cnts]
    · split
      · simp [JV.cnt, JV.cnts]
      · split
        · simp [JV.cnt, JV.cnts]
        · simp [JV.cnt, JV.cnts]
  rw [hc] at hn ⊢
  cases h' with | @cons _ m' _ ms' h hs =>
  cases hs
  rw [atom_al h]
  have hb : begins m'.k = true := by
    unfold begins
    have := h.1
    simp
    omega
  exact ⟨1, P_v' (.atom hb (by omega) (by have := h.1; omega))⟩
/-- the marks of Items, from the first one's on, with the bracket that ends them -/
inductive ML : List JV → List Lm.Mark → Prop
  | last {x ms m} (h : Reads x ms) (hm : m.k = 4) : ML [x] (ms ++ [m])
  | next {x xs ms m ms2} (h : Reads x ms) (hm : m.k = 5) (hr : ML xs ms2) : ML (x :: xs) (ms ++ m :: ms2)
theorem ML.reads {xs : List JV} {ms : List Lm.Mark} (h : ML xs ms) : ∀ ms', Als ms ms' → ∀ (E : Nat × Nat) (rest : List Lm.Mark) (n d : Nat) (acc : List JV), n + JV.cnts xs ≤ 8192 → d + 1 + JV.deps xs ≤ 12 → ∃ f, P E f (.l acc) (ms' ++ rest) n d = some (.ok (.mk 4 0 [] [] (acc ++ xs)) rest (n + JV.cnts xs)) := by
  induction h with
  | @last x ms m h hm =>
    intro ms' h' E rest n d acc hn hd
    rw [JV.cnts, JV.cnts] at hn ⊢
    rw [JV.deps, JV.deps] at hd
    obtain ⟨a', b', rfl, h1, h2⟩ := h'.split
    cases h2 with | @cons _ m' _ _ h3 h4 =>
    cases h4
    obtain ⟨f, hf⟩ := h a' h1 E (m' :: rest) n (d + 1) (by omega) (by omega)
    refine ⟨f + 1, P_l' ?_⟩
    rw [List.append_assoc]
    exact .last hf (by rw [← h3.1]; exact hm)
  | @next x xs ms m ms2 h hm hr ih =>
    intro ms' h' E rest n d acc hn hd
    rw [JV.cnts] at hn ⊢
    rw [JV.deps] at hd
    obtain ⟨a', b', rfl, h1, h2⟩ := h'.split
    cases h2 with | @cons _ m' _ b' h3 h4 =>
    obtain ⟨f, hf⟩ := h a' h1 E (m' :: (b' ++ rest)) n (d + 1) (by omega) (by omega)
    obtain ⟨g, hg⟩ := ih b' h4 E rest (n + x.cnt) d (acc ++ [x]) (by omega) (by omega)
    refine ⟨max f g + 1, P_l' ?_⟩
    rw [List.append_assoc, show m' :: b' ++ rest = m' :: (b' ++ rest) from rfl]
    have hg' := P_more hg (Nat.le_max_right f g)
    rw [List.append_assoc, Nat.add_assoc] at hg'
    exact .next (P_more hf (Nat.le_max_left f g)) (by rw [← h3.1]; exact hm) hg'
theorem ML.head {xs : List JV} {ms : List Lm.Mark} (h : ML xs ms) (hc : JV.cnts xs ≤ 8192) (hd : JV.deps xs ≤ 12) : ∃ m ms1, ms = m :: ms1 ∧ begins m.k = true := by
  cases h with
  | @last x ms m h hm =>
    rw [JV.cnts, JV.cnts] at hc
    rw [JV.deps, JV.deps] at hd
    obtain ⟨m0, ms1, rfl, hb⟩ := h.ne (by omega) (by omega)
    exact ⟨_, _, rfl, hb⟩
  | @next x xs ms m ms2 h hm hr =>
    rw [JV.cnts] at hc
    rw [JV.deps] at hd
    obtain ⟨m0, ms1, rfl, hb⟩ := h.ne (by omega) (by omega)
    exact ⟨_, _, rfl, hb⟩
theorem ML.al {xs : List JV} {ms : List Lm.Mark} (h : ML xs ms) : ∀ ms', Als ms ms' → ML xs ms' := by
  induction h with
  | last h hm =>
    intro ms' h'
    obtain ⟨a', b', rfl, h1, h2⟩ := h'.split
    cases h2 with | @cons _ m' _ _ h3 h4 =>
    cases h4
    exact .last (h.al h1) (by rw [← h3.1]; exact hm)
  | next h hm hr ih =>
    intro ms' h'
    obtain ⟨a', b', rfl, h1, h2⟩ := h'.split
    cases h2 with | @cons _ m' _ b' h3 h4 =>
    exact .next (h.al h1) (by rw [← h3.1]; exact hm) (ih b' h4)
theorem Reads.list {xs : List JV} {ms : List Lm.Mark} {m : Lm.Mark} (hm : m.k = 3) (h : ML xs ms) : Reads (.mk 4 0 [] [] xs) (m :: ms) := fun ms' h' E rest n d hn hd => by
  cases h' with | @cons _ m' _ ms' h1 hs =>
  have hc : (JV.mk 4 0 [] [] xs).cnt = 1 + JV.cnts xs := by rw [JV.cnt]
  have hdp : (JV.mk 4 0 [] [] xs).dep = JV.deps xs + 1 := by rw [JV.dep, if_pos (.inl rfl)]
  rw [hc] at hn ⊢
  rw [hdp] at hd
  obtain ⟨f, hf⟩ := (h.al _ hs).reads ms' (Als.refl _) E rest (n + 1) d [] (by omega) (by omega)
  obtain ⟨m0, ms1, rfl, hb⟩ := (h.al _ hs).head (by omega) (by omega)
  refine ⟨f + 1, P_v' ?_⟩
  rw [List.nil_append, Nat.add_assoc] at hf
  exact .list (by rw [← h1.1]; exact hm) (by omega) (by omega) (by intro e; rw [e] at hb; exact absurd hb (by decide)) hf
theorem Reads.nolist {m m1 : Lm.Mark} (hm : m.k = 3) (hm1 : m1.k = 4) : Reads (.mk 4 0 [] [] []) [m, m1] := fun ms' h' E rest n d hn hd => by
  cases h' with | @cons _ m' _ ms' h1 hs =>
  cases hs with | @cons _ m1' _ _ h2 hs2 =>
  cases hs2
  have hc : (JV.mk 4 0 [] [] []).cnt = 1 := by rw [JV.cnt, JV.cnts]
  have hdp : (JV.mk 4 0 [] [] []).dep = 1 := by rw [JV.dep, if_pos (.inl rfl), JV.deps]
  rw [hc] at hn ⊢
  rw [hdp] at hd
  exact ⟨1, P_v' (.nolist (by rw [← h1.1]; exact hm) (by omega) (by omega) (by rw [← h2.1]; exact hm1))⟩
theorem Reads.noobj {m m1 : Lm.Mark} (hm : m.k = 1) (hm1 : m1.k = 2) : Reads (.mk 5 0 [] [] []) [m, m1] := fun ms' h' E rest n d hn hd => by
  cases h' with | @cons _ m' _ ms' h1 hs =>
  cases hs with | @cons _ m1' _ _ h2 hs2 =>
  cases hs2
  have hc : (JV.mk 5 0 [] [] []).cnt = 1 := by rw [JV.cnt, JV.cnts]
  have hdp : (JV.mk 5 0 [] [] []).dep = 1 := by rw [JV.dep, if_pos (.inr rfl), JV.deps]
  rw [hc] at hn ⊢
  rw [hdp] at hd
  exact ⟨1, P_v' (.noobj (by rw [← h1.1]; exact hm) (by omega) (by omega) (by rw [← h2.1]; exact hm1))⟩
/-! Members, in whatever row. -/
abbrev Pairs := List (List UInt8 × JV)
def cntp (ps : Pairs) : Nat := JV.cnts (ps.map (·.2))
def depp (ps : Pairs) : Nat := JV.deps (ps.map (·.2))
def insAN : Pairs → List (List UInt8) → List (List UInt8)
  | [], ns => ns
  | p :: ps, ns => insAN ps (insN p.1 ns)
def insAI : Pairs → List (List UInt8) → List JV → List JV
  | [], _, is => is
  | p :: ps, ns, is => insAI ps (insN p.1 ns) (insI p.1 p.2 ns is)
inductive MO : Pairs → List Lm.Mark → Prop
  | last {l x nm c ms m} (hn : nm.k = 10) (hl : nm.t = l) (hc : c.k = 6) (h : Reads x ms) (hm : m.k = 2) : MO [(l, x)] (nm :: c :: (ms ++ [m]))
  | next {l x ps nm c ms m ms2} (hn : nm.k = 10) (hl : nm.t = l) (hc : c.k = 6) (h : Reads x ms) (hm : m.k = 5) (hr : MO ps ms2) : MO ((l, x) :: ps) (nm :: c :: (ms ++ m :: ms2))
theorem MO.al {ps : Pairs} {ms : List Lm.Mark} (h : MO ps ms) : ∀ ms', Als ms ms' → MO ps ms' := by
  induction h with
  | last hn hl hc h hm =>
    intro ms' h'
    cases h' with | @cons _ nm' _ _ a0 a1 =>
    cases a1 with | @cons _ c' _ _ c0 c1 =>
    obtain ⟨a', b', rfl, h1, h2⟩ := c1.split
    cases h2 with | @cons _ m' _ _ h3 h4 =>
    cases h4
    exact .last (by rw [← a0.1]; exact hn) (by rw [← a0.2.2]; exact hl) (by rw [← c0.1]; exact hc) (h.al h1) (by rw [← h3.1]; exact hm)
  | next hn hl hc h hm hr ih =>
    intro ms' h'
    cases h' with | @cons _ nm' _ _ a0 a1 =>
    cases a1 with | @cons _ c' _ _ c0 c1 =>
    obtain ⟨a', b', rfl, h1, h2⟩ := c1.split
    cases h2 with | @cons _ m' _ b' h3 h4 =>
    exact .next (by rw [← a0.1]; exact hn) (by rw [← a0.2.2]; exact hl) (by rw [← c0.1]; exact hc) (h.al h1) (by rw [← h3.1]; exact hm) (ih b' h4)
/-- no two names are the same, and none is among ns -/
def Dis (ps : Pairs) (ns : List (List UInt8)) : Prop := (∀ p ∈ ps, p.1 ∉ ns) ∧ List.Pairwise (fun p q => p.1 ≠ q.1) ps
theorem Dis.tail {p : List UInt8 × JV} {ps : Pairs} {ns : List (List UInt8)} (h : Dis (p :: ps) ns) : Dis ps (insN p.1 ns) := by
  have h2 := List.pairwise_cons.1 h.2
  refine ⟨fun q hq hin => ?_, h2.2⟩
  rcases insN_mem.1 hin with e | e
  · exact h2.1 q hq e.symm
  · exact h.1 q (List.mem_cons_of_mem _ hq) e
theorem MO.reads {ps : Pairs} {ms : List Lm.Mark} (h : MO ps ms) : ∀ (E : Nat × Nat) (rest : List Lm.Mark) (n d : Nat) (ns : List (List UInt8)) (is : List JV), Dis ps ns → n + cntp ps ≤ 8192 → d + 1 + depp ps ≤ 12 → ∃ f, P E f (.o ns is) (ms ++ rest) n d = some (.ok (.mk 5 0 [] (insAN ps ns) (insAI ps ns is)) rest (n + cntp ps)) := by
  induction h with
  | @last l x nm c ms m hn hl hc h hm =>
    intro E rest n d ns is hdis hcn hdp
    have e1 : cntp [(l, x)] = x.cnt := by simp [cntp, JV.cnts]
    have e2 : depp [(l, x)] = x.dep := by simp [depp, JV.deps]
    rw [e1] at hcn ⊢
    rw [e2] at hdp
    obtain ⟨f, hf⟩ := h ms (Als.refl _) E (m :: rest) n (d + 1) (by omega) (by omega)
    refine ⟨f + 1, P_o' ?_⟩
    subst hl
    rw [List.cons_append, List.cons_append, List.append_assoc]
    exact .last hn (hdis.1 _ List.mem_cons_self) hc hf hm
  | @next l x ps nm c ms m ms2 hn hl hc h hm hr ih =>
    intro E rest n d ns is hdis hcn hdp
    have e1 : cntp ((l, x) :: ps) = x.cnt + cntp ps := by simp [cntp, JV.cnts]
    have e2 : depp ((l, x) :: ps) = max x.dep (depp ps) := by simp [depp, JV.deps]
    rw [e1] at hcn ⊢
    rw [e2] at hdp
    obtain ⟨f, hf⟩ := h ms (Als.refl _) E (m :: (ms2 ++ rest)) n (d + 1) (by omega) (by omega)
    obtain ⟨g, hg⟩ := ih E rest (n + x.cnt) d (insN l ns) (insI l x ns is) hdis.tail (by omega) (by omega)
    refine ⟨max f g + 1, P_o' ?_⟩
    subst hl
    rw [List.cons_append, List.cons_append, List.append_assoc, show m :: ms2 ++ rest = m :: (ms2 ++ rest) from rfl]
    have hg' := P_more hg (Nat.le_max_right f g)
    rw [Nat.add_assoc] at hg'
    exact .next hn (hdis.1 _ List.mem_cons_self) hc (P_more hf (Nat.le_max_left f g)) hm hg'
theorem insAI_cnts : ∀ (ps : Pairs) (ns : List (List UInt8)) (is : List JV), ns.length = is.length → JV.cnts (insAI ps ns is) = JV.cnts is + cntp ps
  | [], ns, is, _ => by simp [insAI, cntp, JV.cnts]
  | p :: ps, ns, is, h => by
    rw [insAI, insAI_cnts ps _ _ (by rw [insN_len, insI_len _ _ h, h]), insI_cnts _ _ h]
    simp [cntp, JV.cnts]
    try omega
theorem insAI_deps : ∀ (ps : Pairs) (ns : List (List UInt8)) (is : List JV), ns.length = is.length → JV.deps (insAI ps ns is) = max (JV.deps is) (depp ps)
  | [], ns, is, _ => by simp [insAI, depp, JV.deps]
  | p :: ps, ns, is, h => by
    rw [insAI, insAI_deps ps _ _ (by rw [insN_len, insI_len _ _ h, h]), insI_deps _ _ h]
    simp [depp, JV.deps]
    try omega
theorem Reads.object {ps : Pairs} {ms : List Lm.Mark} {m : Lm.Mark} (hm : m.k = 1) (h : MO ps ms) (hdis : Dis ps []) : Reads (.mk 5 0 [] (insAN ps []) (insAI ps [] [])) (m :: ms) := fun ms' h' E rest n d hn hd => by
  cases h' with | @cons _ m' _ ms' h1 hs =>
  have hc : (JV.mk 5 0 [] (insAN ps []) (insAI ps [] [])).cnt = 1 + cntp ps := by rw [JV.cnt, insAI_cnts _ _ _ rfl, JV.cnts, Nat.zero_add]
  have hdp : (JV.mk 5 0 [] (insAN ps []) (insAI ps [] [])).dep = depp ps + 1 := by rw [JV.dep, if_pos (.inr rfl), insAI_deps _ _ _ rfl, JV.deps, Nat.zero_max]
  rw [hc] at hn ⊢
  rw [hdp] at hd
  have h2 := h.al _ hs
  obtain ⟨f, hf⟩ := h2.reads E rest (n + 1) d [] [] hdis (by omega) (by omega)
  rw [Nat.add_assoc] at hf
  have hne : ∃ m0 ms1, ms' = m0 :: ms1 ∧ m0.k = 10 := by
    cases h2 with
    | last g1 => exact ⟨_, _, rfl, g1⟩
    | next g1 => exact ⟨_, _, rfl, g1⟩
  obtain ⟨m0, ms1, rfl, hb⟩ := hne
  exact ⟨f + 1, P_v' (.obj (by rw [← h1.1]; exact hm) (by omega) (by omega) (by omega) hf)⟩
end Rd
/-- the text says the value -/
def Tx (x : JV) (s : List UInt8) : Prop := ∃ ms, Ful s ms ∧ Rd.Reads x ms
/-- what Read tells of a text that says a value -/
theorem Tx.rd {x : JV} {s : List UInt8} (h : Tx x s) (hc : x.cnt ≤ 8192) (hd : x.dep ≤ 12) (hl : s.length ≤ 65536) : RdIs s x 0 0 := by
  obtain ⟨ms, hT, hR⟩ := h
  obtain ⟨f, hf⟩ := hR ms (Rd.Als.refl _) (s.length, 0) [] 0 0 (by omega) (by omega)
  rw [List.append_nil] at hf
  exact .inr ⟨hl, ms, _, f, _, x, 0, hT, hf, ⟨rfl, fun _ => rfl, fun h => absurd rfl h⟩, fun _ => ⟨rfl, rfl⟩, fun h => absurd rfl h⟩
/-- a text that is read as a value says it -/
theorem RdIs.tx {x : JV} {s : List UInt8} {pl : Nat} (h : RdIs s x pl 0) : Tx x s ∧ x.cnt ≤ 8192 ∧ x.dep ≤ 12 ∧ s.length ≤ 65536 ∧ x.part = true := by
  rcases h with ⟨_, _, _, h0⟩ | ⟨hl, ms, E, f, r, y, q, hT, hP, hR, h4, _⟩
  · omega
  obtain ⟨rfl, _⟩ := h4 rfl
  obtain ⟨n, rfl, hE⟩ : ∃ n, r = .ok x [] n ∧ E.2 = 0 := by
    match r, hR with
    | .bad p e0, hR => exact absurd hR.1.symm hR.2.2
    | .ok z [] n, hR =>
      have h0 : E.2 = 0 := hR.1.symm
      exact ⟨n, by rw [hR.2.1 h0], h0⟩
    | .ok z (_ :: _) n, hR =>
      have : (0 : Nat) = 11 := hR.1
      omega
  have hmt : ∀ m ∈ ms, Rd.MT m := fun m hm => (hT.ok (Nat.zero_le _) m hm).mt
  obtain ⟨g1, g2, g3, g4⟩ : x.part = true ∧ n = 0 + x.cnt ∧ 0 + x.dep ≤ 12 ∧ n ≤ 8192 := Rd.P_good _ _ _ _ _ _ _ _ hP hmt (Nat.zero_le _)
  have hE2 : E = (s.length, 0) := by
    have key : ∀ {p : Nat} {a : List Lm.Mark} {E : Nat × Nat}, TS s p a E → E.2 = 0 → E = (s.length, 0) := by
      intro p a E h
      induction h with
      | stop => intro _; rfl
      | bad h he => intro h0; exact absurd h0 he
      | more h hk hr ih => exact ih
    exact key hT hE
  subst hE2
  refine ⟨⟨ms, hT, fun ms' h' E' rest n2 d hn hd => ?_⟩, by omega, by omega, hl, g1⟩
  obtain ⟨r2, h2, hf⟩ := Rd.P_far n2 d _ _ _ _ _ _ _ _ hP hmt (Nat.zero_le 12) trivial (.inr rfl)
  rw [Nat.zero_add, Nat.zero_add] at h2
  rw [Nat.zero_add] at hf
  have hok : r2 = .ok x [] (n + n2) := by
    rcases hf with hf | ⟨m, _, _, h3⟩ | ⟨m, _, _, h3⟩
    · exact hf
    · omega
    · have h4 : 12 < d + x.dep := h3
      omega
  rw [hok] at h2
  obtain ⟨r', hr', h3⟩ := Rd.P_al (E' := E') rest _ _ _ _ _ _ _ _ h2 ms' h'
  obtain rfl := Als.nil_of hr'
  rw [show n + n2 = n2 + x.cnt by omega] at h3
  exact ⟨_, h3⟩
end

section
open Go.RowKit
namespace Rd

/-- of which kind a value is that is read -/
def Kind : St → List Lm.Mark → JV → Prop
  | .v, ms, x => ∃ m ms1, ms = m :: ms1 ∧ ((m.k = 3 ∧ x.k = 4) ∨ (m.k = 1 ∧ x.k = 5) ∨ (7 ≤ m.k ∧ x.k ≤ 3))
  | .l _, _, x => x.k = 4
  | .o _ _, _, x => x.k = 5
theorem P_kind {E : Nat × Nat} : ∀ (f : Nat) (s : St) (ms : List Lm.Mark) (n d : Nat) (x : JV) (r : List Lm.Mark) (n' : Nat), P E f s ms n d = some (.ok x r n') → Kind s ms x
  | 0, _, _, _, _, _, _, _, h => by cases h
  | f + 1, .v, ms, n, d, x, r, n', h => by
    have ih := P_kind (E := E) f
    have hw := P_v h
    clear h
    cases hw with
    | @atom m _ _ _ hb hn hk =>
      refine ⟨_, _, rfl, .inr (.inr ⟨hk, ?_⟩)⟩
      unfold Rd.atom
      repeat' split
      all_goals simp [JV.k]
    | nolist h => exact ⟨_, _, rfl, .inl ⟨h, rfl⟩⟩
    | list h _ _ _ hr => exact ⟨_, _, rfl, .inl ⟨h, ih _ _ _ _ _ _ _ hr⟩⟩
    | noobj h => exact ⟨_, _, rfl, .inr (.inl ⟨h, rfl⟩)⟩
    | obj h _ _ _ hr => exact ⟨_, _, rfl, .inr (.inl ⟨h, ih _ _ _ _ _ _ _ hr⟩)⟩
  | f + 1, .l acc, ms, n, d, x, r, n', h => by
    have ih := P_kind (E := E) f
    have hw := P_l h
    clear h
    cases hw with
    | last => exact rfl
    | next _ _ hr =>
      have h2 := ih _ _ _ _ _ _ _ hr
      exact h2
  | f + 1, .o ns is, ms, n, d, x, r, n', h => by
    have ih := P_kind (E := E) f
    have hw := P_o h
    clear h
    cases hw with
    | last => exact rfl
    | next _ _ _ _ _ hr =>
      have h2 := ih _ _ _ _ _ _ _ hr
      exact h2
/-- what is refused at a mark is refused there whatever is behind, wherever the marks stand -/
theorem P_alb {E E' : Nat × Nat} (v : List Lm.Mark) : ∀ (f : Nat) (s : St) (ms : List Lm.Mark) (n d : Nat) (p e : Nat), P E f s ms n d = some (.bad p e) → e ≠ fe E → ∀ ms', Als ms ms' → ∃ p', (∃ m ∈ ms', p' = m.a) ∧ P E' f s (ms' ++ v) n d = some (.bad p' e)
  | 0, _, _, _, _, _, _, h, _, _, _ => by cases h
  | f + 1, .v, ms, n, d, p, e, h, he, ms', ha => by
    have ih := P_alb (E := E) (E' := E') v f
    have hw := P_v h
    clear h
    cases hw with
    | short => exact absurd rfl he
    | form h =>
      cases ha with | @cons m m' ms ms' a0 a1 =>
      exact ⟨_, ⟨m', List.mem_cons_self, rfl⟩, P_v' (.form (a0.1 ▸ h))⟩
    | long h hn =>
      cases ha with | @cons m m' ms ms' a0 a1 =>
      exact ⟨_, ⟨m', List.mem_cons_self, rfl⟩, P_v' (.long (a0.1 ▸ h) hn)⟩
    | deep h hn hd =>
      cases ha with | @cons m m' ms ms' a0 a1 =>
      exact ⟨_, ⟨m', List.mem_cons_self, rfl⟩, P_v' (.deep (a0.1 ▸ h) hn hd)⟩
    | cut => exact absurd rfl he
    | list h0 hn hd1 h1 hr =>
      cases ha with | @cons m m' ms ms' a0 a1 =>
      obtain ⟨p', ⟨q, hq, e1⟩, h2⟩ := ih _ _ _ _ _ _ hr he _ a1
      cases a1 with | @cons m1 m1' ms ms' b0 b1 =>
      exact ⟨p', ⟨q, List.mem_cons_of_mem _ hq, e1⟩, P_v' (.list (a0.1 ▸ h0) hn hd1 (b0.1 ▸ h1) h2)⟩
    | obj h0 hn hd1 h1 hr =>
      cases ha with | @cons m m' ms ms' a0 a1 =>
      obtain ⟨p', ⟨q, hq, e1⟩, h2⟩ := ih _ _ _ _ _ _ hr he _ a1
      cases a1 with | @cons m1 m1' ms ms' b0 b1 =>
      exact ⟨p', ⟨q, List.mem_cons_of_mem _ hq, e1⟩, P_v' (.obj (a0.1 ▸ h0) hn hd1 (b0.1 ▸ h1) h2)⟩
  | f + 1, .l acc, ms, n, d, p, e, h, he, ms', ha => by
    have ih := P_alb (E := E) (E' := E') v f
    have sub : ∀ {u r r' : List Lm.Mark}, Als (u ++ r) r' → ∃ u' r'', r' = u' ++ r'' ∧ Als r r'' := fun h => by
      obtain ⟨a, b, e, _, h2⟩ := h.split
      exact ⟨a, b, e, h2⟩
    have hw := P_l h
    clear h
    cases hw with
    | item hv =>
      obtain ⟨p', hp, h2⟩ := ih _ _ _ _ _ _ hv he _ ha
      exact ⟨p', hp, P_l' (.item h2)⟩
    | cut => exact absurd rfl he
    | next hv h1 hr =>
      obtain ⟨r', hr', h2⟩ := P_al (E' := E') v _ _ _ _ _ _ _ _ hv _ ha
      obtain ⟨u, _, hu⟩ := P_suffix _ _ _ _ _ _ _ _ h2
      cases hr' with | @cons m m' ms2 ms2' b0 b1 =>
      obtain ⟨p', ⟨q, hq, e1⟩, h3⟩ := ih _ _ _ _ _ _ hr he _ b1
      refine ⟨p', ⟨q, ?_, e1⟩, P_l' (.next h2 (b0.1 ▸ h1) h3)⟩
      have h4 : ms' = u ++ (m' :: ms2') := by
        rw [← List.append_assoc] at hu
        exact List.append_cancel_right hu
      rw [h4]
      exact List.mem_append_right _ (List.mem_cons_of_mem _ hq)
    | form hv h1 h2 =>
      obtain ⟨r', hr', h3⟩ := P_al (E' := E') v _ _ _ _ _ _ _ _ hv _ ha
      obtain ⟨u, _, hu⟩ := P_suffix _ _ _ _ _ _ _ _ h3
      cases hr' with | @cons m m' ms2 ms2' b0 b1 =>
      refine ⟨_, ⟨m', ?_, rfl⟩, P_l' (.form h3 (b0.1 ▸ h1) (b0.1 ▸ h2))⟩
      have h4 : ms' = u ++ (m' :: ms2') := by
        rw [← List.append_assoc] at hu
        exact List.append_cancel_right hu
      rw [h4]
      exact List.mem_append_right _ List.mem_cons_self
  | f + 1, .o ns is, ms, n, d, p, e, h, he, ms', ha => by
    have ih := P_alb (E := E) (E' := E') v f
    have hw := P_o h
    clear h
    cases hw with
    | short => exact absurd rfl he
    | form h =>
      cases ha with | @cons m m' ms ms' a0 a1 =>
      exact ⟨_, ⟨m', List.mem_cons_self, rfl⟩, P_o' (.form (a0.1 ▸ h))⟩
    | twice h ht =>
      cases ha with | @cons m m' ms ms' a0 a1 =>
      exact ⟨_, ⟨m', List.mem_cons_self, rfl⟩, P_o' (.twice (a0.1 ▸ h) (a0.2.2 ▸ ht))⟩
    | cut1 => exact absurd rfl he
    | form1 h ht hc =>
      cases ha with | @cons m m' ms ms' a0 a1 =>
      cases a1 with | @cons c c' ms ms' c0 c1 =>
      exact ⟨_, ⟨c', List.mem_cons_of_mem _ List.mem_cons_self, rfl⟩, P_o' (.form1 (a0.1 ▸ h) (a0.2.2 ▸ ht) (c0.1 ▸ hc))⟩
    | item h ht hc hv =>
      cases ha with | @cons m m' ms ms' a0 a1 =>
      cases a1 with | @cons c c' ms ms' c0 c1 =>
      obtain ⟨p', ⟨q, hq, e1⟩, h2⟩ := ih _ _ _ _ _ _ hv he _ c1
      exact ⟨p', ⟨q, List.mem_cons_of_mem _ (List.mem_cons_of_mem _ hq), e1⟩, P_o' (.item (a0.1 ▸ h) (a0.2.2 ▸ ht) (c0.1 ▸ hc) h2)⟩
    | cut => exact absurd rfl he
    | next h ht hc hv h3 hr =>
      cases ha with | @cons m m' ms ms' a0 a1 =>
      cases a1 with | @cons c c' ms ms' c0 c1 =>
      obtain ⟨r', hr', h2⟩ := P_al (E' := E') v _ _ _ _ _ _ _ _ hv _ c1
      obtain ⟨u, _, hu⟩ := P_suffix _ _ _ _ _ _ _ _ h2
      cases hr' with | @cons m3 m3' ms4 ms4' b0 b1 =>
      obtain ⟨p', ⟨q, hq, e1⟩, h4⟩ := ih _ _ _ _ _ _ hr he _ b1
      rw [a0.2.2] at h4
      refine ⟨p', ⟨q, ?_, e1⟩, P_o' (.next (a0.1 ▸ h) (a0.2.2 ▸ ht) (c0.1 ▸ hc) h2 (b0.1 ▸ h3) h4)⟩
      have h5 : ms' = u ++ (m3' :: ms4') := by
        rw [← List.append_assoc] at hu
        exact List.append_cancel_right hu
      rw [h5]
      exact List.mem_cons_of_mem _ (List.mem_cons_of_mem _ (List.mem_append_right _ (List.mem_cons_of_mem _ hq)))
    | form3 h ht hc hv h3 h5 =>
      cases ha with | @cons m m' ms ms' a0 a1 =>
      cases a1 with | @cons c c' ms ms' c0 c1 =>
      obtain ⟨r', hr', h2⟩ := P_al (E' := E') v _ _ _ _ _ _ _ _ hv _ c1
      obtain ⟨u, _, hu⟩ := P_suffix _ _ _ _ _ _ _ _ h2
      cases hr' with | @cons m3 m3' ms4 ms4' b0 b1 =>
      refine ⟨_, ⟨m3', ?_, rfl⟩, P_o' (.form3 (a0.1 ▸ h) (a0.2.2 ▸ ht) (c0.1 ▸ hc) h2 (b0.1 ▸ h3) (b0.1 ▸ h5))⟩
      have h6 : ms' = u ++ (m3' :: ms4') := by
        rw [← List.append_assoc] at hu
        exact List.append_cancel_right hu
      rw [h6]
      exact List.mem_cons_of_mem _ (List.mem_cons_of_mem _ (List.mem_append_right _ List.mem_cons_self))
end Rd
/-! Fronts (P9.8). -/
theorem Tx.first {x : JV} {s : List UInt8} {ms : List Lm.Mark} (hR : Rd.Reads x ms) (hc : x.cnt ≤ 8192) (hd : x.dep ≤ 12) : ∃ f, Rd.P (s.length, 0) f .v ms 0 0 = some (.ok x [] x.cnt) := by
  obtain ⟨f, hf⟩ := hR ms (Rd.Als.refl _) (s.length, 0) [] 0 0 (by omega) (by omega)
  rw [List.append_nil, Nat.zero_add] at hf
  exact ⟨f, hf⟩
theorem TS.nil_end {l : List UInt8} {p : Nat} {E : Nat × Nat} (h : TS l p [] E) (hp : p ≤ l.length) (h0 : E.2 = 0) : Lm.skip l p = l.length := by
  cases h with
  | stop h => exact (Lm.end_is hp h rfl).2
  | bad h he => exact absurd h0 he
theorem front_bad {t v : List UInt8} {x y : JV} {pl pl' e : Nat} (h : RdIs (t ++ v) x pl 0) (hk : x.k = 4 ∨ x.k = 5) (hv : ∃ c ∈ v, Lm.ws c = false) (ht : RdIs t y pl' e) : e ≠ 0 := by
  intro he
  subst he
  obtain ⟨⟨ms, hT, hR⟩, hc, hd, _, _⟩ := h.tx
  obtain ⟨⟨ms', hT', hR'⟩, hc', hd', _, _⟩ := ht.tx
  obtain ⟨f, hP⟩ := Tx.first (s := t ++ v) hR hc hd
  obtain ⟨g, hP'⟩ := Tx.first (s := t) hR' hc' hd'
  obtain ⟨m, ms1, e1, hm⟩ := Rd.P_kind _ _ _ _ _ _ _ _ hP
  obtain ⟨m', ms1', e1', hm'⟩ := Rd.P_kind _ _ _ _ _ _ _ _ hP'
  have hmk : m.k = 1 ∨ m.k = 3 := by omega
  have hyk : y.k = 4 ∨ y.k = 5 := by
    have hT0 := hT
    have hT0' := hT'
    unfold Ful at hT0 hT0'
    rw [e1] at hT0
    rw [e1'] at hT0'
    cases hT0 with | more q1 q2 q3 =>
    cases hT0' with | more r1 r2 r3 =>
    have hon := Lm.on_le (Nat.zero_le _) r1 r2
    have hsk := Lm.skip_in v (Nat.zero_le _) (show Lm.skip t 0 < t.length by omega)
    rw [hsk] at q1
    obtain ⟨_, c, hcx, hpc, hp0⟩ := Lm.mark_low [] (by rw [List.length_append]; omega) q1 (by omega)
    have hct : t[Lm.skip t 0]? = some c := by
      rw [List.getElem?_append_left (by omega)] at hcx
      exact hcx
    have hdr : t.drop (Lm.skip t 0) = c :: t.drop (Lm.skip t 0 + 1) := by
      have hlt : Lm.skip t 0 < t.length := by omega
      rw [List.drop_eq_getElem_cons hlt]
      rw [List.getElem?_eq_getElem hlt] at hct
      rw [Option.some.inj hct]
    have hmt := Lm.mark_punct hdr hpc (by omega)
    rw [r1] at hmt
    have hmm : m'.k = m.k := by rw [(Prod.mk.inj hmt).1]
    omega
  obtain ⟨u, mb, e2, hmb⟩ := Rd.P_bracket _ _ _ _ _ _ _ _ hP' fun _ => hyk
  obtain ⟨b, E', hb⟩ := TS.exists (t ++ v) ((t ++ v).length + 1) t.length (by rw [List.length_append]; omega) (by omega)
  have hT2 := TS.front hT' (Nat.zero_le _) rfl ⟨u, mb, e2, by omega⟩ b E' hb
  obtain ⟨e3, e4⟩ := TS.det hT hT2
  rw [e3] at hP
  have hb0 := Rd.P_front hP hP'
  subst hb0
  rw [← e4] at hb
  have hend : Lm.skip (t ++ v) t.length = (t ++ v).length := hb.nil_end (by rw [List.length_append]; omega) rfl
  obtain ⟨c, hcv, hw⟩ := hv
  obtain ⟨j, hj⟩ := List.getElem?_of_mem hcv
  have hjl : j < v.length := by
    rcases Nat.lt_or_ge j v.length with h | h
    · exact h
    · rw [List.getElem?_eq_none h] at hj; cases hj
  obtain ⟨c', hc1, hc2⟩ := Lm.skip_blanks (t ++ v) t.length (t.length + j) (by omega) (by rw [hend, List.length_append]; omega)
  rw [List.getElem?_append_right (by omega), Nat.add_sub_cancel_left, hj] at hc1
  obtain rfl := Option.some.inj hc1
  rw [hw] at hc2
  cases hc2
/-- there is a bracket in a text of a list, or of an object -/
theorem has_bracket {s : List UInt8} {x : JV} {pl : Nat} (h : RdIs s x pl 0) (hk : x.k = 4 ∨ x.k = 5) : ∃ i : Nat, s[i]? = some 93 ∨ s[i]? = some 125 := by
  obtain ⟨⟨ms, hT, hR⟩, hc, hd, _, _⟩ := h.tx
  obtain ⟨f, hP⟩ := Tx.first (s := s) hR hc hd
  obtain ⟨u, mb, e2, hmb⟩ := Rd.P_bracket _ _ _ _ _ _ _ _ hP fun _ => hk
  have hmem : ∀ {p : Nat} {a : List Lm.Mark} {E : Nat × Nat}, TS s p a E → p ≤ s.length → ∀ m ∈ a, ∃ q, q ≤ s.length ∧ Lm.mark s q = (m, 0) := by
    intro p a E h
    induction h with
    | stop => intro _ m hm; cases hm
    | bad => intro _ m hm; cases hm
    | @more p m ms E h hk hr ih =>
      intro hp z hz
      rcases List.mem_cons.1 hz with rfl | hz
      · exact ⟨_, Lm.skip_le hp, h⟩
      · exact ih (by have := Lm.on_le hp h hk; omega) z hz
  obtain ⟨q, hq, hm⟩ := hmem hT (Nat.zero_le _) mb (by rw [e2]; simp)
  obtain ⟨_, c, h1, h2, _⟩ := Lm.mark_low [] hq hm (by omega)
  refine ⟨q, ?_⟩
  unfold Lm.punct at h2
  rw [h1]
  repeat' split at h2
  all_goals first | omega | (rename_i h9; subst h9; exact .inl rfl) | (rename_i h9; subst h9; exact .inr rfl)
/-! Blanks (P9.4). -/
theorem TS.blanks {u s : List UInt8} (hu : u.all Lm.ws = true) {ms : List Lm.Mark} {E : Nat × Nat} (h : TS s 0 ms E) : TS (u ++ s) 0 (ms.map (Rd.sh u.length)) (E.1 + u.length, E.2) := by
  have h2 := h.shift u (Nat.zero_le _)
  refine h2.same ?_
  rw [Lm.skip_shift]
  have h3 := Lm.skip_all hu [] s
  rw [List.nil_append, List.length_nil, Nat.zero_add] at h3
  rw [h3]
  unfold Lm.skip
  omega
theorem blanks_ahead {u s : List UInt8} (hu : u.all Lm.ws = true) {x : JV} {pl e : Nat} (h : RdIs s x pl e) (hl : (u ++ s).length ≤ 65536) : RdIs (u ++ s) x (if e = 0 then 0 else pl + u.length) e := by
  rcases h with ⟨h0, _⟩ | ⟨_, ms, E, f, r, y, q, hT, hP, hR, h4, h5⟩
  · rw [List.length_append] at hl; omega
  have hP2 : Rd.P (E.1 + u.length, E.2) f .v (ms.map (Rd.sh u.length)) 0 0 = some (Rd.shR u.length r) := by
    rw [Rd.P_sh, hP]
    rfl
  refine .inr ⟨hl, _, _, f, _, y, q + u.length, hT.blanks hu, hP2, ?_, fun h => ⟨(h4 h).1, if_pos h⟩, fun h => ⟨(h5 h).1, by rw [if_neg h, (h5 h).2]⟩⟩
  match r, hR with
  | .bad p e0, hR => exact ⟨hR.1, by rw [hR.2.1], hR.2.2⟩
  | .ok z [] n, hR => exact ⟨hR.1, hR.2.1, fun h => by rw [hR.2.2 h]⟩
  | .ok z (m :: ms') n, hR => exact ⟨hR.1, by rw [hR.2]; rfl⟩
theorem Ful.behind {s u : List UInt8} {a : List Lm.Mark} (h : Ful s a) (hu : u.all Lm.ws = true) : Ful (s ++ u) a := by
  have hn := Ful.blanks Ful.nil u hu
  rw [List.append_nil, List.map_nil] at hn
  have hv : Lm.Stop u := by
    match u, hu with
    | [], _ => exact .nil
    | c :: u, hu =>
      simp only [List.all_cons, Bool.and_eq_true] at hu
      exact .ws hu.1 u
  have := h.glue hv hn
  rw [List.map_nil, List.append_nil] at this
  exact this
theorem blanks_behind {u s : List UInt8} (hu : u.all Lm.ws = true) {x : JV} {pl e : Nat} (h : RdIs s x pl e) (hl : (s ++ u).length ≤ 65536) (he : e = 0 ∨ (e = 4 ∧ pl = s.length)) : RdIs (s ++ u) x (if e = 0 then 0 else pl + u.length) e := by
  rcases h with ⟨h0, _⟩ | ⟨_, ms, E, f, r, y, q, hT, hP, hR, h4, h5⟩
  · rw [List.length_append] at hl; omega
  -- where the marks end
  have key : ∀ {p : Nat} {a : List Lm.Mark} {E : Nat × Nat}, TS s p a E → p ≤ s.length → (E.2 = 0 ∧ E = (s.length, 0)) ∨ (E.2 ≠ 0 ∧ E.1 < s.length) := by
    intro p a E h
    induction h with
    | stop => intro _; exact .inl ⟨rfl, rfl⟩
    | bad h he => intro hp; exact .inr ⟨he, Lm.bad_lt hp h he⟩
    | more h hk hr ih => intro hp; exact ih (by have := Lm.on_le hp h hk; omega)
  have hE := key hT (Nat.zero_le _)
  have hE0 : E = (s.length, 0) ∧ (r = .bad s.length 4 ∨ ∃ z n, r = .ok z [] n) := by
    rcases hE with ⟨h0, hE⟩ | ⟨h0, hE⟩
    · refine ⟨hE, ?_⟩
      subst hE
      rcases Rd.P_end (0, 0) _ _ _ _ _ _ hP with ⟨h1, _⟩ | ⟨_, ⟨z, ms', n, h1⟩ | ⟨m, _, e', h1, h2⟩⟩
      · exact .inl h1
      · subst h1
        match ms', hR with
        | [], hR => exact .inr ⟨z, n, rfl⟩
        | m :: ms', hR =>
          have : e = 11 := hR.1
          omega
      · subst h1
        have : e = e' := hR.1
        omega
    · exfalso
      rcases Rd.P_end (0, 0) _ _ _ _ _ _ hP with ⟨h1, _⟩ | ⟨_, ⟨z, ms', n, h1⟩ | ⟨m, hm, e', h1, h2⟩⟩
      · subst h1
        have h2 : q = E.1 := hR.2.1
        have h3 : e = Rd.fe E := hR.1
        have h6 : e ≠ 0 := by rw [h3]; unfold Rd.fe; rw [if_neg h0]; exact h0
        have := (h5 h6).2
        omega
      · subst h1
        match ms', hR with
        | [], hR =>
          have h2 : e = E.2 := hR.1
          have h3 := hR.2.2 h0
          have := (h5 (by omega)).2
          omega
        | m :: ms', hR =>
          have : e = 11 := hR.1
          omega
      · subst h1
        have : e = e' := hR.1
        omega
  obtain ⟨rfl, hr⟩ := hE0
  have hT2 : Ful (s ++ u) ms := Ful.behind hT hu
  have hlen : (s ++ u).length = s.length + u.length := List.length_append
  rcases hr with rfl | ⟨z, n, rfl⟩
  · rcases Rd.P_end ((s ++ u).length, 0) _ _ _ _ _ _ hP with ⟨_, h1⟩ | ⟨_, ⟨z, ms', n, h1⟩ | ⟨m, _, e', h1, h2⟩⟩
    · refine .inr ⟨hl, ms, _, f, _, y, (s ++ u).length, hT2, h1, ⟨hR.1, rfl, hR.2.2⟩, fun h => absurd (hR.1.symm.trans h) hR.2.2, fun h => ⟨(h5 h).1, ?_⟩⟩
      rw [if_neg h, (h5 h).2, hlen]
      have : q = s.length := hR.2.1
      omega
    · cases h1
    · simp only [Rd.Res.bad.injEq] at h1
      omega
  · rcases Rd.P_end ((s ++ u).length, 0) _ _ _ _ _ _ hP with ⟨h1, _⟩ | ⟨h1, _⟩
    · cases h1
    · have h0 : e = 0 := hR.1
      subst h0
      exact .inr ⟨hl, ms, _, f, _, y, 0, hT2, h1, ⟨rfl, fun _ => hR.2.1 rfl, fun h => absurd rfl h⟩, fun _ => ⟨(h4 rfl).1, rfl⟩, fun h => absurd rfl h⟩
end

section
open Go.RowKit

/-- the text behind the bracket says the Items -/
def LTx (xs : List JV) (t : List UInt8) : Prop := ∃ ms, Ful t ms ∧ Rd.ML xs ms
theorem stop93 (v : List UInt8) : Lm.Stop (93 :: v) := .cons (by decide) (by decide) v
theorem stop125 (v : List UInt8) : Lm.Stop (125 :: v) := .cons (by decide) (by decide) v
theorem stop44 (v : List UInt8) : Lm.Stop (44 :: v) := .cons (by decide) (by decide) v
theorem stop58 (v : List UInt8) : Lm.Stop (58 :: v) := .cons (by decide) (by decide) v
theorem Tx.last {x : JV} {s : List UInt8} (h : Tx x s) : LTx [x] (s ++ [93]) := by
  obtain ⟨a, h1, h2⟩ := h
  exact ⟨_, h1.glue (stop93 []) (Ful.one (c := 93) (k := 4) rfl (by decide) Ful.nil), .last h2 rfl⟩
theorem Tx.next {x : JV} {s : List UInt8} {xs : List JV} {t : List UInt8} (h : Tx x s) (hr : LTx xs t) : LTx (x :: xs) (s ++ 44 :: t) := by
  obtain ⟨a, h1, h2⟩ := h
  obtain ⟨b, g1, g2⟩ := hr
  refine ⟨_, h1.glue (stop44 t) (Ful.one (c := 44) (k := 5) rfl (by decide) g1), ?_⟩
  rw [List.map_cons, List.map_map]
  refine .next h2 rfl (g2.al _ ?_)
  have key : ∀ l : List Lm.Mark, Rd.Als l (l.map (Rd.sh s.length ∘ Rd.sh 1)) := fun l => by
    induction l with
    | nil => exact .nil
    | cons m l ih => exact .cons ⟨rfl, rfl, rfl⟩ ih
  exact key b
theorem LTx.list {xs : List JV} {t : List UInt8} (h : LTx xs t) : Tx (.mk 4 0 [] [] xs) (91 :: t) := by
  obtain ⟨b, g1, g2⟩ := h
  exact ⟨_, Ful.one (c := 91) (k := 3) rfl (by decide) g1, .list rfl (g2.al _ (Rd.Als.sh 1 b))⟩
theorem Tx.nolist {v : List UInt8} (hv : v.all Lm.ws = true) : Tx (.mk 4 0 [] [] []) (91 :: (v ++ [93])) :=
  ⟨_, Ful.one (c := 91) (k := 3) rfl (by decide) (Ful.blanks (Ful.one (c := 93) (k := 4) rfl (by decide) Ful.nil) v hv), .nolist rfl rfl⟩
theorem Tx.noobj {v : List UInt8} (hv : v.all Lm.ws = true) : Tx (.mk 5 0 [] [] []) (123 :: (v ++ [125])) :=
  ⟨_, Ful.one (c := 123) (k := 1) rfl (by decide) (Ful.blanks (Ful.one (c := 125) (k := 2) rfl (by decide) Ful.nil) v hv), .noobj rfl rfl⟩
/-- blanks ahead -/
theorem LTx.blanks {xs : List JV} {t u : List UInt8} (h : LTx xs t) (hu : u.all Lm.ws = true) : LTx xs (u ++ t) := by
  obtain ⟨b, g1, g2⟩ := h
  exact ⟨_, g1.blanks u hu, g2.al _ (Rd.Als.sh _ b)⟩
theorem Tx.blanks {x : JV} {t u : List UInt8} (h : Tx x t) (hu : u.all Lm.ws = true) : Tx x (u ++ t) := by
  obtain ⟨b, g1, g2⟩ := h
  exact ⟨_, g1.blanks u hu, g2.al (Rd.Als.sh _ b)⟩
theorem Tx.behind {x : JV} {t u : List UInt8} (h : Tx x t) (hu : u.all Lm.ws = true) : Tx x (t ++ u) := by
  obtain ⟨b, g1, g2⟩ := h
  exact ⟨_, g1.behind hu, g2⟩
/-- a name's text -/
def NTx (l : List UInt8) (u : List UInt8) : Prop := ∃ m, Ful u [m] ∧ m.k = 10 ∧ m.t = l
theorem NTx.blanks {l t u : List UInt8} (h : NTx l t) (hu : u.all Lm.ws = true) : NTx l (u ++ t) := by
  obtain ⟨m, g1, g2, g3⟩ := h
  exact ⟨_, g1.blanks u hu, g2, g3⟩
theorem NTx.behind {l t u : List UInt8} (h : NTx l t) (hu : u.all Lm.ws = true) : NTx l (t ++ u) := by
  obtain ⟨m, g1, g2, g3⟩ := h
  exact ⟨_, g1.behind hu, g2, g3⟩
theorem NTx.tx {l u : List UInt8} (h : NTx l u) : Tx (.mk 3 0 l [] []) u := by
  obtain ⟨m, g1, g2, g3⟩ := h
  refine ⟨[m], g1, ?_⟩
  have := Rd.Reads.atom m (by omega) (by omega)
  unfold Rd.atom at this
  rw [if_neg (by omega), if_neg (by omega), if_neg (by omega), g3] at this
  exact this
/-- the text behind the bracket says the members -/
def OTx (ps : Rd.Pairs) (t : List UInt8) : Prop := ∃ ms, Ful t ms ∧ Rd.MO ps ms
theorem als_comp (f : Lm.Mark → Lm.Mark) (hf : ∀ m, Rd.Al m (f m)) (l : List Lm.Mark) : Rd.Als l (l.map f) := by
  induction l with
  | nil => exact .nil
  | cons m l ih => exact .cons (hf m) ih
theorem OTx.last {l : List UInt8} {x : JV} {u s : List UInt8} (hn : NTx l u) (h : Tx x s) : OTx [(l, x)] (u ++ 58 :: (s ++ [125])) := by
  obtain ⟨m, n1, n2, n3⟩ := hn
  obtain ⟨a, h1, h2⟩ := h
  refine ⟨_, n1.glue (stop58 _) (Ful.one (c := 58) (k := 6) rfl (by decide) (h1.glue (stop125 []) (Ful.one (c := 125) (k := 2) rfl (by decide) Ful.nil))), ?_⟩
  rw [List.map_cons, List.map_map, List.map_append]
  exact .last n2 n3 rfl (h2.al (als_comp (Rd.sh u.length ∘ Rd.sh 1) (fun _ => ⟨rfl, rfl, rfl⟩) a)) rfl
theorem OTx.next {l : List UInt8} {x : JV} {u s : List UInt8} {ps : Rd.Pairs} {t : List UInt8} (hn : NTx l u) (h : Tx x s) (hr : OTx ps t) : OTx ((l, x) :: ps) (u ++ 58 :: (s ++ 44 :: t)) := by
  obtain ⟨m, n1, n2, n3⟩ := hn
  obtain ⟨a, h1, h2⟩ := h
  obtain ⟨b, g1, g2⟩ := hr
  refine ⟨_, n1.glue (stop58 _) (Ful.one (c := 58) (k := 6) rfl (by decide) (h1.glue (stop44 _) (Ful.one (c := 44) (k := 5) rfl (by decide) g1))), ?_⟩
  rw [List.map_cons, List.map_map, List.map_append, List.map_map, List.map_cons, List.map_map]
  exact .next n2 n3 rfl (h2.al (als_comp (Rd.sh u.length ∘ Rd.sh 1) (fun _ => ⟨rfl, rfl, rfl⟩) a)) rfl (g2.al _ (als_comp (((Rd.sh u.length ∘ Rd.sh 1) ∘ Rd.sh s.length) ∘ Rd.sh 1) (fun _ => ⟨rfl, rfl, rfl⟩) b))
theorem OTx.blanks {ps : Rd.Pairs} {t u : List UInt8} (h : OTx ps t) (hu : u.all Lm.ws = true) : OTx ps (u ++ t) := by
  obtain ⟨b, g1, g2⟩ := h
  exact ⟨_, g1.blanks u hu, g2.al _ (Rd.Als.sh _ b)⟩
theorem OTx.object {ps : Rd.Pairs} {t : List UInt8} (h : OTx ps t) (hd : Rd.Dis ps []) : Tx (.mk 5 0 [] (Rd.insAN ps []) (Rd.insAI ps [] [])) (123 :: t) := by
  obtain ⟨b, g1, g2⟩ := h
  exact ⟨_, Ful.one (c := 123) (k := 1) rfl (by decide) g1, .object rfl (g2.al _ (Rd.Als.sh 1 b)) hd⟩
/-! What stands alone. -/
theorem stop_nil_tok {u : List UInt8} {m : Lm.Mark} (h : Lm.tok u = (m, 0)) (hk : m.k ≠ 11) (hb : m.b = u.length) : Ful u [m] := by
  have hw := Lm.tok_front h hk
  obtain ⟨c, r, rfl, hws⟩ := hw
  have hs : Lm.skip (c :: r) 0 = 0 := by
    unfold Lm.skip
    rw [Lm.run_stop (d := c) (by rfl) hws]
  have hm : Lm.mark (c :: r) 0 = (m, 0) := by
    rw [Lm.mark_tok _ _ (Nat.zero_le _), List.drop_zero, h, Lm.put_ok]
    unfold Lm.mv
    simp
  refine .more (by rw [hs]; exact hm) hk ?_
  rw [hb]
  refine .stop ?_
  have h2 : Lm.skip (c :: r) (c :: r).length = (c :: r).length := by
    unfold Lm.skip
    rw [Lm.run_end (Nat.le_refl _)]
    rfl
  rw [h2, Lm.mark_tok _ _ (Nat.le_refl _), List.drop_length]
  rfl
theorem Tx.atom {u : List UInt8} {m : Lm.Mark} (h : Lm.tok u = (m, 0)) (h7 : 7 ≤ m.k) (h10 : m.k ≤ 10) (hb : m.b = u.length) : Tx (Rd.atom m) u :=
  ⟨[m], stop_nil_tok h (by omega) hb, .atom m h7 h10⟩
theorem Tx.yes : Tx (.mk 1 1 [] [] []) Lm.TRUE := Tx.atom (m := ⟨7, 0, 4, 0, []⟩) (by kernel_rfl) (by decide) (by decide) rfl
theorem Tx.no : Tx (.mk 1 0 [] [] []) Lm.FALSE := Tx.atom (m := ⟨8, 0, 5, 0, []⟩) (by kernel_rfl) (by decide) (by decide) rfl
theorem itoa_head (n : Int) : ∃ c r, Lib.itoa n = c :: r ∧ Lm.numb c = true := by
  have hd : ∀ c, Nm.dig c = true → Lm.numb c = true := fun c h => by unfold Lm.numb; rw [h]; rfl
  by_cases h : n < 0
  · exact ⟨_, _, Nm.itoa_neg h, rfl⟩
  · have h1 := Nm.itoa_nn h
    have h2 := Nm.dec_ne n.toNat
    have h3 := Nm.dec_dig n.toNat
    rw [← h1] at h2 h3
    match hx : Lib.itoa n, h2 with
    | c :: s, _ =>
      rw [hx, List.all_cons, Bool.and_eq_true] at h3
      exact ⟨c, s, rfl, hd c h3.1⟩
theorem numb_no {c : UInt8} (h : Lm.numb c = true) : Lm.punct c = 0 ∧ c ≠ 34 := by
  have key : ∀ k : Fin 256, (Lm.numb (UInt8.ofNat k.val) = true → Lm.punct (UInt8.ofNat k.val) = 0 ∧ UInt8.ofNat k.val ≠ 34) := by decide +kernel
  have := key ⟨c.toNat, c.toNat_lt⟩
  rw [show UInt8.ofNat c.toNat = c from UInt8.toNat.inj (by simp)] at this
  exact this h
theorem Tx.num {n : Int} (h0 : -9223372036854775808 ≤ n) (h1 : n ≤ 9223372036854775807) : Tx (.mk 2 n [] [] []) (Lib.itoa n) := by
  obtain ⟨c, r, e, hn⟩ := itoa_head n
  have hf := Nm.form_itoa n
  have hall : (Lib.itoa n).takeWhile Nm.more = Lib.itoa n := Lm.takeWhile_id _ (Nm.more_form hf)
  have ht : Lm.tok (Lib.itoa n) = (⟨9, 0, (Lib.itoa n).length, n, []⟩, 0) := by
    have h2 : Lm.tok (c :: r) = Lm.tokN ((c :: r).takeWhile Nm.more) := by
      rw [Lm.tok, if_neg (by rw [(numb_no hn).1]; simp), if_neg (numb_no hn).2, if_pos hn]
    rw [← e, hall] at h2
    rw [h2]
    unfold Lm.tokN
    rw [if_pos hf, Nm.val_itoa, if_pos (by unfold Nm.inR; simp; omega)]
  exact Tx.atom ht (by show (7 : Nat) ≤ 9; decide) (by show (9 : Nat) ≤ 10; decide) rfl
/-- a text between quotation marks, however it is written -/
theorem NTx.of {r l : List UInt8} (h : Qm.RDF r 0 = (l, r.length, 0)) : NTx l (34 :: r) := by
  refine ⟨⟨10, 0, 1 + r.length, 0, l⟩, stop_nil_tok ?_ (show (10 : Nat) ≠ 11 by decide) (by simp; omega), rfl, rfl⟩
  rw [Lm.tok, if_neg (by decide), if_pos rfl, h]
  rfl
theorem NTx.quo {l : List UInt8} (hv : Um.cnt l ≠ none) (hl : l.length ≤ 4096) (h : Qm.lowB l = false) : NTx l (Qm.quo l) := by
  refine NTx.of ?_
  rw [Qm.RDF_esc (l.length + 1) l [34] 0 (by omega) hv h (by omega), Qm.RDF_end, Qm.cons_ok]
  simp
/-! Lists of two (P9.5). -/
theorem list_ok {s t : List UInt8} {x y : JV} {pl pl' : Nat} (h : RdIs s x pl 0) (g : RdIs t y pl' 0) (hc : x.cnt + y.cnt + 1 ≤ 8192) (hd : x.dep < 12) (hd' : y.dep < 12) (hl : s.length + t.length + 3 ≤ 65536) : RdIs (91 :: (s ++ 44 :: (t ++ [93]))) (.mk 4 0 [] [] [x, y]) 0 0 := by
  have h2 := (h.tx.1.next g.tx.1.last).list
  refine h2.rd ?_ ?_ ?_
  · rw [JV.cnt, JV.cnts, JV.cnts, JV.cnts]; omega
  · rw [JV.dep, if_pos (.inl rfl), JV.deps, JV.deps, JV.deps]; omega
  · simp only [List.length_cons, List.length_append, List.length_nil]; omega
/-- what a text that is read comes to with one value ahead, within one list -/
theorem part_in {x : JV} {ms : List Lm.Mark} {s : List UInt8} (hT : Ful s ms) {f : Nat} (hP : Rd.P (s.length, 0) f .v ms 0 0 = some (.ok x [] x.cnt)) (n : Nat) : ∃ r, Rd.P (s.length, 0) f .v ms n 1 = some r ∧ (r = .ok x [] (n + x.cnt) ∨ (∃ p, r = .bad p 5 ∧ 8192 < n + x.cnt) ∨ (∃ p, r = .bad p 8 ∧ 12 < 1 + x.dep)) := by
  have hmt : ∀ m ∈ ms, Rd.MT m := fun m hm => (TS.ok hT (Nat.zero_le _) m hm).mt
  obtain ⟨r2, h2, hf⟩ := Rd.P_far n 1 _ _ _ _ _ _ _ _ hP hmt (Nat.zero_le 12) trivial (.inr rfl)
  rw [Nat.zero_add, Nat.zero_add] at h2
  rw [Nat.zero_add] at hf
  refine ⟨r2, h2, ?_⟩
  rcases hf with hf | ⟨m, _, h1, h3⟩ | ⟨m, _, h1, h3⟩
  · exact .inl (by rw [hf, Nat.add_comm])
  · exact .inr (.inl ⟨_, h1, by omega⟩)
  · exact .inr (.inr ⟨_, h1, h3⟩)
theorem part_good {x : JV} {ms : List Lm.Mark} {s : List UInt8} (hT : Ful s ms) {f n d n' : Nat} (hP : Rd.P (s.length, 0) f .v ms n d = some (.ok x [] n')) (hd : d ≤ 12) : n' = n + x.cnt ∧ d + x.dep ≤ 12 ∧ n' ≤ 8192 := by
  have hmt : ∀ m ∈ ms, Rd.MT m := fun m hm => (TS.ok hT (Nat.zero_le _) m hm).mt
  obtain ⟨_, g2, g3, g4⟩ : x.part = true ∧ n' = n + x.cnt ∧ d + x.dep ≤ 12 ∧ n' ≤ 8192 := Rd.P_good _ _ _ _ _ _ _ _ hP hmt hd
  exact ⟨g2, g3, g4⟩
theorem list_bad {s t : List UInt8} {x y : JV} {pl pl' : Nat} (h : RdIs s x pl 0) (g : RdIs t y pl' 0) (hbad : 8192 < x.cnt + y.cnt + 1 ∨ 12 ≤ x.dep ∨ 12 ≤ y.dep) (hl : s.length + t.length + 3 ≤ 65536) :
    ∃ p e, RdIs (91 :: (s ++ 44 :: (t ++ [93]))) J0 p e ∧ 0 < p ∧ ((e = 5 ∧ 8192 < x.cnt + y.cnt + 1) ∨ (e = 8 ∧ (12 ≤ x.dep ∨ 12 ≤ y.dep))) := by
  obtain ⟨⟨a, hT, hR⟩, hc, hd, _, _⟩ := h.tx
  obtain ⟨⟨b, hT', hR'⟩, hc', hd', _, _⟩ := g.tx
  obtain ⟨f, hP⟩ := Tx.first (s := s) hR hc hd
  obtain ⟨f', hP'⟩ := Tx.first (s := t) hR' hc' hd'
  -- the marks
  have hB : Ful (t ++ [93]) (b ++ [Rd.sh t.length ⟨4, 0, 1, 0, []⟩]) := hT'.glue (stop93 []) (Ful.one (c := 93) (k := 4) rfl (by decide) Ful.nil)
  have hA := hT.glue (stop44 _) (Ful.one (c := 44) (k := 5) rfl (by decide) hB)
  have hW := Ful.one (c := 91) (k := 3) rfl (by decide) hA
  obtain ⟨F, hF⟩ : ∃ F : Lm.Mark → Lm.Mark, F = Rd.sh 1 := ⟨_, rfl⟩
  obtain ⟨G, hG⟩ : ∃ G : Lm.Mark → Lm.Mark, G = Rd.sh 1 ∘ (Rd.sh s.length ∘ Rd.sh 1) := ⟨_, rfl⟩
  have alF : ∀ m, Rd.Al m (F m) := fun m => by rw [hF]; exact ⟨rfl, rfl, rfl⟩
  have alG : ∀ m, Rd.Al m (G m) := fun m => by rw [hG]; exact ⟨rfl, rfl, rfl⟩
  have pF : ∀ m, 0 < (F m).a := fun m => by rw [hF]; exact Nat.succ_pos _
  have pG : ∀ m, 0 < (G m).a := fun m => by rw [hG]; exact Nat.succ_pos _
  obtain ⟨m5, hm5, hk5⟩ : ∃ m : Lm.Mark, m = Rd.sh 1 (Rd.sh s.length ⟨5, 0, 1, 0, []⟩) ∧ m.k = 5 := ⟨_, rfl, rfl⟩
  obtain ⟨Z, hZ⟩ : ∃ Z : List Lm.Mark, Z = [G (Rd.sh t.length ⟨4, 0, 1, 0, []⟩)] := ⟨_, rfl⟩
  have hW2 : Ful (91 :: (s ++ 44 :: (t ++ [93]))) (⟨3, 0, 1, 0, []⟩ :: (a.map F ++ (m5 :: (b.map G ++ Z)))) := by
    rw [hm5, hZ, hF, hG]
    simp only [List.map_append, List.map_cons, List.map_map, List.map_nil] at hW ⊢
    exact hW
  obtain ⟨E', hE'⟩ : ∃ E' : Nat × Nat, E' = ((91 :: (s ++ 44 :: (t ++ [93]))).length, 0) := ⟨_, rfl⟩
  have fin : ∀ {k p e : Nat}, Rd.P E' k (.l []) (a.map F ++ (m5 :: (b.map G ++ Z))) 1 0 = some (.bad p e) → 0 < p → ((e = 5 ∧ 8192 < x.cnt + y.cnt + 1) ∨ (e = 8 ∧ (12 ≤ x.dep ∨ 12 ≤ y.dep))) → ∃ p e, RdIs (91 :: (s ++ 44 :: (t ++ [93]))) J0 p e ∧ 0 < p ∧ ((e = 5 ∧ 8192 < x.cnt + y.cnt + 1) ∨ (e = 8 ∧ (12 ≤ x.dep ∨ 12 ≤ y.dep))) := fun {k p e} hp h0 he => by
    refine ⟨p, e, .inr ⟨by simp only [List.length_cons, List.length_append, List.length_nil]; omega, _, E', k + 1, .bad p e, J0, p, by rw [hE']; exact hW2, ?_, ⟨rfl, rfl, by omega⟩, fun h => by omega, fun _ => ⟨rfl, rfl⟩⟩, h0, he⟩
    obtain ⟨m0, ms1, e0, hb0⟩ := hR.ne hc hd
    rw [e0, List.map_cons, List.cons_append] at hp ⊢
    refine Rd.P_v' (.list rfl (by omega) (by omega) ?_ hp)
    rw [← (alF m0).1]
    intro e4
    rw [e4] at hb0
    exact absurd hb0 (by decide)
  obtain ⟨r1, h1, hr1⟩ := part_in hT hP 1
  rcases hr1 with rfl | ⟨p, rfl, hp⟩ | ⟨p, rfl, hp⟩
  · have gx := part_good hT h1 (by omega)
    obtain ⟨q, hq, h2⟩ := Rd.P_al (E' := E') (m5 :: (b.map G ++ Z)) _ _ _ _ _ _ _ _ h1 _ (als_comp F alF a)
    obtain rfl := Als.nil_of hq
    rw [List.nil_append] at h2
    obtain ⟨r3, h3, hr3⟩ := part_in hT' hP' (1 + x.cnt)
    rcases hr3 with rfl | ⟨p, rfl, hp⟩ | ⟨p, rfl, hp⟩
    · have gy := part_good hT' h3 (by omega)
      exfalso
      omega
    · obtain ⟨p', ⟨z, hz, ez⟩, h4⟩ := Rd.P_alb (E' := E') Z _ _ _ _ _ _ _ h3 (by unfold Rd.fe; simp) _ (als_comp G alG b)
      obtain ⟨z0, _, rfl⟩ := List.mem_map.1 hz
      have h5 : Rd.P E' (f' + 1) (.l [x]) (b.map G ++ Z) (1 + x.cnt) 0 = some (.bad p' 5) := Rd.P_l' (.item h4)
      have h6 : Rd.P E' (max f (f' + 1) + 1) (.l []) (a.map F ++ (m5 :: (b.map G ++ Z))) 1 0 = some (.bad p' 5) :=
        Rd.P_l' (.next (Rd.P_more h2 (Nat.le_max_left _ _)) hk5 (Rd.P_more h5 (Nat.le_max_right _ _)))
      exact fin h6 (by rw [ez]; exact pG z0) (.inl ⟨rfl, by omega⟩)
    · obtain ⟨p', ⟨z, hz, ez⟩, h4⟩ := Rd.P_alb (E' := E') Z _ _ _ _ _ _ _ h3 (by unfold Rd.fe; simp) _ (als_comp G alG b)
      obtain ⟨z0, _, rfl⟩ := List.mem_map.1 hz
      have h5 : Rd.P E' (f' + 1) (.l [x]) (b.map G ++ Z) (1 + x.cnt) 0 = some (.bad p' 8) := Rd.P_l' (.item h4)
      have h6 : Rd.P E' (max f (f' + 1) + 1) (.l []) (a.map F ++ (m5 :: (b.map G ++ Z))) 1 0 = some (.bad p' 8) :=
        Rd.P_l' (.next (Rd.P_more h2 (Nat.le_max_left _ _)) hk5 (Rd.P_more h5 (Nat.le_max_right _ _)))
      exact fin h6 (by rw [ez]; exact pG z0) (.inr ⟨rfl, .inr (by omega)⟩)
  · obtain ⟨p', ⟨z, hz, ez⟩, h4⟩ := Rd.P_alb (E' := E') (m5 :: (b.map G ++ Z)) _ _ _ _ _ _ _ h1 (by unfold Rd.fe; simp) _ (als_comp F alF a)
    obtain ⟨z0, _, rfl⟩ := List.mem_map.1 hz
    exact fin (Rd.P_l' (.item h4)) (by rw [ez]; exact pF z0) (.inl ⟨rfl, by have := y.cnt_pos; omega⟩)
  · obtain ⟨p', ⟨z, hz, ez⟩, h4⟩ := Rd.P_alb (E' := E') (m5 :: (b.map G ++ Z)) _ _ _ _ _ _ _ h1 (by unfold Rd.fe; simp) _ (als_comp F alF a)
    obtain ⟨z0, _, rfl⟩ := List.mem_map.1 hz
    exact fin (Rd.P_l' (.item h4)) (by rw [ez]; exact pF z0) (.inr ⟨rfl, .inl (by omega)⟩)
/-! Objects of two names (P9.6). -/
theorem object_ok {s t : List UInt8} {x y : JV} {pl pl' : Nat} {l r u v : List UInt8} (hl : NTx l u) (hr : NTx r v) (hne : l ≠ r) (h : RdIs s x pl 0) (g : RdIs t y pl' 0) (hc : x.cnt + y.cnt + 1 ≤ 8192) (hd : x.dep < 12) (hd' : y.dep < 12) (hlen : s.length + t.length + u.length + v.length + 5 ≤ 65536) :
    RdIs (123 :: (u ++ 58 :: (s ++ 44 :: (v ++ 58 :: (t ++ [125]))))) (if Jn.lt l r = true then .mk 5 0 [] [l, r] [x, y] else .mk 5 0 [] [r, l] [y, x]) 0 0 := by
  have hdis : Rd.Dis [(l, x), (r, y)] [] := ⟨fun _ _ h => (by cases h), by simp [hne]⟩
  have h2 := (OTx.next hl h.tx.1 (OTx.last hr g.tx.1)).object hdis
  have e : (JV.mk 5 0 [] (Rd.insAN [(l, x), (r, y)] []) (Rd.insAI [(l, x), (r, y)] [] [])) = if Jn.lt l r = true then .mk 5 0 [] [l, r] [x, y] else .mk 5 0 [] [r, l] [y, x] := by
    simp only [Rd.insAN, Rd.insAI, Rd.insN, Rd.insI]
    by_cases hlt : Jn.lt l r = true
    · rw [if_pos hlt, if_pos hlt, if_pos hlt]
    · rw [if_neg hlt, if_neg hlt, if_neg hlt]
  rw [e] at h2
  refine h2.rd ?_ ?_ ?_
  · split <;> (rw [JV.cnt, JV.cnts, JV.cnts, JV.cnts]; omega)
  · split <;> (rw [JV.dep, if_pos (.inr rfl), JV.deps, JV.deps, JV.deps]; omega)
  · simp only [List.length_cons, List.length_append, List.length_nil]; omega
end

section
open Go.RowKit

/-- are two values equal? -/
noncomputable def JV.same (x y : JV) : Bool := @decide (x = y) (Classical.propDecidable _)
theorem JV.same_iff {x y : JV} : x.same y = true ↔ x = y := @decide_eq_true_iff (x = y) (Classical.propDecidable _)
theorem JV.same_no {x y : JV} (h : x ≠ y) : x.same y = false := by
  cases hc : x.same y with
  | false => rfl
  | true => exact absurd (JV.same_iff.1 hc) h
theorem JV.same_yes (x : JV) : x.same x = true := JV.same_iff.2 rfl
theorem JV.ext {x y : JV} (h1 : x.k = y.k) (h2 : x.n = y.n) (h3 : x.t = y.t) (h4 : x.ns = y.ns) (h5 : x.is = y.is) : x = y := by
  match x, y with
  | .mk k n t ns is, .mk k' n' t' ns' is' =>
    have h1 : k = k' := h1
    have h2 : n = n' := h2
    have h3 : t = t' := h3
    have h4 : ns = ns' := h4
    have h5 : is = is' := h5
    rw [h1, h2, h3, h4, h5]
theorem lists_eq {α : Type} {xs ys : List α} (hl : xs.length = ys.length) (h : ∀ (j : Nat) (x : α), xs[j]? = some x → ys[j]? = some x) : xs = ys := by
  apply List.ext_getElem?
  intro j
  by_cases hj : j < xs.length
  · rw [List.getElem?_eq_getElem hj, h j _ (List.getElem?_eq_getElem hj)]
  · rw [List.getElem?_eq_none (by omega), List.getElem?_eq_none (by omega)]
theorem same_eq {A B : Bool} (h : A = true ↔ B = true) : A = B := by cases A <;> cases B <;> simp_all
theorem bnot_ret {b c : Bool} (h : b = c) : Ending.returned (.bool b) = .returned (.bool c) := by rw [h]
set_option maxHeartbeats 8000000 in
set_option maxRecDepth 3000 in
theorem refSame_any : ∀ (K : Nat) (x y : JV), x.cnt ≤ K → ∀ (w : World) (v u : Value), HV w v x → HV w u y →
    Calls Tryz.prog 15 #[v, u] w fun e w' => e = .returned (.bool (x.same y)) ∧ Below w.heap.size w w' := by
  intro K
  induction K with
  | zero => intro x y h; have := x.cnt_pos; omega
  | succ K ih =>
  intro x y hK w v u hv hu
  obtain ⟨cs, rfl, hc⟩ := hv
  obtain ⟨a, b, ca, cb, rfl, hB, hN, hI⟩ := hc.form
  obtain ⟨cs, rfl, hc'⟩ := hu
  obtain ⟨a', b', ca', cb', rfl, hB', hN', hI'⟩ := hc'.form
  obtain ⟨m, hm⟩ : ∃ m, x.is.length = m := ⟨_, rfl⟩
  obtain ⟨m', hm'⟩ : ∃ m, y.is.length = m := ⟨_, rfl⟩
  obtain ⟨r, hr⟩ : ∃ m, x.ns.length = m := ⟨_, rfl⟩
  obtain ⟨r', hr'⟩ : ∃ m, y.ns.length = m := ⟨_, rfl⟩
  have hm2 : (m : Int) ≤ 9223372036854775807 := by have := hB.2.2.2.2.1; unfold maxLen at this; omega
  have hr2 : (r : Int) ≤ 9223372036854775807 := by have := hB.2.2.2.1; unfold maxLen at this; omega
  rw [hm, hm', hr, hr']
  obtain ⟨kI, hk⟩ : ∃ z : Int, z = (x.k : Int) := ⟨_, rfl⟩
  obtain ⟨kI', hk'⟩ : ∃ z : Int, z = (y.k : Int) := ⟨_, rfl⟩
  obtain ⟨nI, hn⟩ : ∃ z : Int, z = x.n := ⟨_, rfl⟩
  obtain ⟨nI', hn'⟩ : ∃ z : Int, z = y.n := ⟨_, rfl⟩
  obtain ⟨t, ht⟩ : ∃ z, z = x.t := ⟨_, rfl⟩
  obtain ⟨t', ht'⟩ : ∃ z, z = y.t := ⟨_, rfl⟩
  rw [← hk, ← hk', ← hn, ← hn', ← ht, ← ht']
  have HM := Lib.hid hm
  have HM' := Lib.hid hm'
  have HR := Lib.hid hr
  have HR' := Lib.hid hr'
  have HK := Lib.hid hk
  have HK' := Lib.hid hk'
  have HNn := Lib.hid hn
  have HNn' := Lib.hid hn'
  have HTt := Lib.hid ht
  have HTt' := Lib.hid ht'
  have s1 := S_toList t
  have s2 := S_toList t'
  clear hm hm' hr hr' hk hk' hn hn' ht ht' hc hc' hB hB'
  obtain ⟨W1, hW1⟩ : ∃ W, W = w.alloc (.cells #[.int .u8 kI, .int .i64 nI, .string (S t), .slice a r ca, .slice b m cb] 26) := ⟨_, rfl⟩
  obtain ⟨W2, hW2⟩ : ∃ W, W = W1.alloc (.cells #[.int .u8 kI', .int .i64 nI', .string (S t'), .slice a' r' ca', .slice b' m' cb'] 26) := ⟨_, rfl⟩
  have b1 : Below w.heap.size w W1 := by rw [hW1]; exact (Below.refl _ _).alloc (Nat.le_refl _) _
  have b12 : Below W1.heap.size W1 W2 := by rw [hW2]; exact (Below.refl _ _).alloc (Nat.le_refl _) _
  have V1 : VAt w.heap.size W1 (.int .u8 kI) (.int .i64 nI) (.string (S t)) (.slice a r ca) (.slice b m cb) := by rw [hW1]; exact VAt.new ..
  have V2 : VAt W1.heap.size W2 (.int .u8 kI') (.int .i64 nI') (.string (S t')) (.slice a' r' ca') (.slice b' m' cb') := by rw [hW2]; exact VAt.new ..
  have V1 := V1.below b12
  have c2 := b1.trans (b12.mono b1.size)
  have e1 : W1.heap.size = w.heap.size + 1 := by rw [hW1]; simp
  rw [e1] at V2
  clear b1 b12 e1
  by_cases h1 : kI ≠ kI'
  · have hb : (kI != kI') = true := bne_iff_ne.2 h1
    have HF : Hid (x.same y = false) := JV.same_no fun h => h1 (by rw [HK.out, HK'.out, h])
    go_enter Tryz.func15, Tryz.ntmps15
    go_wp2_with fail
    rw [← hW1, ← hW2]
    go_ret
    exact ⟨ret_bool HF.out.symm, c2⟩
  obtain rfl : kI = kI' := Classical.not_not.1 h1
  clear h1
  by_cases h2 : nI ≠ nI'
  · have hb : (nI != nI') = true := bne_iff_ne.2 h2
    have HF : Hid (x.same y = false) := JV.same_no fun h => h2 (by rw [HNn.out, HNn'.out, h])
    go_enter Tryz.func15, Tryz.ntmps15
    go_wp2_with fail
    rw [← hW1, ← hW2]
    go_ret
    exact ⟨ret_bool HF.out.symm, c2⟩
  obtain rfl : nI = nI' := Classical.not_not.1 h2
  clear h2
  by_cases h3 : t ≠ t'
  · have hb : ((S t).toList == (S t').toList) = false := by rw [s1, s2]; exact beq_eq_false_iff_ne.2 h3
    have HF : Hid (x.same y = false) := JV.same_no fun h => h3 (by rw [HTt.out, HTt'.out, h])
    go_enter Tryz.func15, Tryz.ntmps15
    go_wp2_with fail
    rw [← hW1, ← hW2]
    go_ret
    exact ⟨ret_bool HF.out.symm, c2⟩
  obtain rfl : t = t' := Classical.not_not.1 h3
  clear h3
  by_cases h4 : r ≠ r'
  · have hb : ((r : Int) != (r' : Int)) = true := bne_iff_ne.2 (by omega)
    have HF : Hid (x.same y = false) := JV.same_no fun h => h4 (by rw [← HR.out, ← HR'.out, h])
    go_enter Tryz.func15, Tryz.ntmps15
    go_wp2_with fail
    rw [← hW1, ← hW2]
    go_ret
    exact ⟨ret_bool HF.out.symm, c2⟩
  obtain rfl : r = r' := Classical.not_not.1 h4
  clear h4
  by_cases h5 : m ≠ m'
  · have hb : ((m : Int) != (m' : Int)) = true := bne_iff_ne.2 (by omega)
    have HF : Hid (x.same y = false) := JV.same_no fun h => h5 (by rw [← HM.out, ← HM'.out, h])
    go_enter Tryz.func15, Tryz.ntmps15
    go_wp2_with fail
    rw [← hW1, ← hW2]
    go_ret
    exact ⟨ret_bool HF.out.symm, c2⟩
  obtain rfl : m = m' := Classical.not_not.1 h5
  clear h5
  go_enter Tryz.func15, Tryz.ntmps15
  go_wp2_with fail
  rw [← hW1, ← hW2]
  clear hW1 hW2
  go_loopw [5] (fun iv wr => ∃ i : Nat, iv = .int .i64 (i : Int) ∧ i ≤ r ∧ Hid (∀ (j : Nat) (p : List UInt8), j < i → x.ns[j]? = some p → y.ns[j]? = some p) ∧ Below W2.heap.size W2 wr) (fun iv _ => r - (intOf iv).toNat)
  case atStart => exact ⟨0, rfl, Nat.zero_le _, fun j p h => by omega, Below.refl _ _⟩
  case round =>
    obtain ⟨i, rfl, hi, HS, hW⟩ := hrel
    have hbr : Hid (Below w.heap.size w wr) := c2.trans (hW.mono c2.size)
    obtain ⟨⟨p0, p1, p2, p3, p4⟩, _⟩ := (V1.below hW).cells
    obtain ⟨⟨q0, q1, q2, q3, q4⟩, _⟩ := (V2.below hW).cells
    have a9 : ∀ n, Below wr.heap.size wr (wr.drewN n) := fun n => ⟨rfl, rfl, rfl, Nat.le_refl _, fun _ _ => rfl⟩
    by_cases hlt : (i : Int) < (r : Int)
    · obtain ⟨p, hp⟩ : ∃ p, x.ns[i]? = some p := ⟨x.ns[i]'(by have := HR.out; omega), List.getElem?_eq_getElem _⟩
      obtain ⟨q, hq⟩ : ∃ p, y.ns[i]? = some p := ⟨y.ns[i]'(by have := HR'.out; omega), List.getElem?_eq_getElem _⟩
      obtain ⟨bb, oo, rfl, g0⟩ := (hN.below hbr.out) i p hp
      obtain ⟨bb', oo', rfl, g1⟩ := (hN'.below hbr.out) i q hq
      have u1 := S_toList p
      have u2 := S_toList q
      have HP := Lib.hid hp
      have HQ := Lib.hid hq
      clear hp hq
      by_cases hpq : p = q
      · subst hpq
        go_wp2_with fail
        go_quiet (fail)
        go_wp2_with fail
        go_roundw
        case rel =>
          refine ⟨i + 1, by go_num, by omega, fun j z hj hz => ?_, hW.trans ((a9 _).mono hW.size)⟩
          by_cases hji : j < i
          · exact HS.out j z hji hz
          · obtain rfl : j = i := by omega
            rw [HP.out] at hz
            rw [HQ.out]
            exact hz
        case measure => simp [intOf]; omega
      · have hb : ((S p).toList == (S q).toList) = false := by rw [u1, u2]; exact beq_eq_false_iff_ne.2 hpq
        have hb' : (p == q) = false := beq_eq_false_iff_ne.2 hpq
        have HF : Hid (x.same y = false) := JV.same_no fun h => by
          have h1 := HP.out
          rw [h, HQ.out] at h1
          exact hpq (by simpa using h1.symm)
        clear hpq
        go_wp2_with fail
        go_quiet (fail)
        go_wp2_with fail
        go_ret
        exact ⟨ret_bool HF.out.symm, hbr.out.trans ((a9 _).mono hbr.out.size)⟩
    · obtain rfl : i = r := by omega
      have hns : Hid (x.ns = y.ns) := lists_eq (by rw [HR.out, HR'.out]) fun j z hz => HS.out j z (by have := (List.getElem?_eq_some_iff.1 hz).1; have := HR.out; omega) hz
      have V1 := V1.below hW
      have V2 := V2.below hW
      clear HS hlt a9 hi
      go_wp2_with fail
      clear p0 p1 p2 p3 p4 q0 q1 q2 q3 q4
      obtain ⟨W5, rfl⟩ : ∃ W5 : World, W5 = wr := ⟨_, rfl⟩
      go_loopw [6] (fun iv w3 => ∃ i : Nat, iv = .int .i64 (i : Int) ∧ i ≤ m ∧ Hid (∀ (j : Nat) (p : JV), j < i → x.is[j]? = some p → y.is[j]? = some p) ∧ Below W5.heap.size W5 w3) (fun iv _ => m - (intOf iv).toNat)
      case atStart => exact ⟨0, rfl, Nat.zero_le _, fun j p h => by omega, Below.refl _ _⟩
      case round =>
        obtain ⟨i, rfl, hi, HS, hW3⟩ := hrel
        have hb3 : Hid (Below w.heap.size w wr) := hbr.out.trans (hW3.mono hbr.out.size)
        have V1 := V1.below hW3
        have V2 := V2.below hW3
        obtain ⟨⟨p0, p1, p2, p3, p4⟩, _⟩ := V1.cells
        obtain ⟨⟨q0, q1, q2, q3, q4⟩, _⟩ := V2.cells
        by_cases hlt : (i : Int) < (m : Int)
        · obtain ⟨p, hp⟩ : ∃ p, x.is[i]? = some p := ⟨x.is[i]'(by have := HM.out; omega), List.getElem?_eq_getElem _⟩
          obtain ⟨q, hq⟩ : ∃ p, y.is[i]? = some p := ⟨y.is[i]'(by have := HM'.out; omega), List.getElem?_eq_getElem _⟩
          obtain ⟨blk, off, rfl, hII⟩ := items_at hI hp
          obtain ⟨blk', off', rfl, hII'⟩ := items_at hI' hq
          obtain ⟨c0, c1, c2, c3, c4, g0, g1, g2, g3, g4, hcp⟩ := (HI.below hb3.out _ _ _ hII).get hp
          obtain ⟨d0, d1, d2, d3, d4, f0, f1, f2, f3, f4, hcq⟩ := (HI.below hb3.out _ _ _ hII').get hq
          have hpc := JV.cnt_item hp
          have cQ : ∀ dd os, Calls Tryz.prog 15 #[.agg #[c0, c1, c2, c3, c4], .agg #[d0, d1, d2, d3, d4]] (Go.Sort.grow (redrawn wr dd) os) fun e w'' => e = .returned (.bool (p.same q)) ∧ ∃ z : Regrown, w'' = Go.Sort.grow (redrawn wr z.d) z.os :=
            fun dd os => Calls.regrown_of (ih p q (by omega) _ _ _ ⟨_, rfl, HC.below (below_regrown wr dd os) p _ hcp⟩ ⟨_, rfl, HC.below (below_regrown wr dd os) q _ hcq⟩)
          have G0 := fun dd os => cell_regrown g0 dd os
          have G1 := fun dd os => cell_regrown g1 dd os
          have G2 := fun dd os => cell_regrown g2 dd os
          have G3 := fun dd os => cell_regrown g3 dd os
          have G4 := fun dd os => cell_regrown g4 dd os
          have F0 := fun dd os => cell_regrown f0 dd os
          have F1 := fun dd os => cell_regrown f1 dd os
          have F2 := fun dd os => cell_regrown f2 dd os
          have F3 := fun dd os => cell_regrown f3 dd os
          have F4 := fun dd os => cell_regrown f4 dd os
          have P4 := fun dd os => cell_regrown p4 dd os
          have Q4 := fun dd os => cell_regrown q4 dd os
          have HP := Lib.hid hp
          have HQ := Lib.hid hq
          clear hp hq hII hII' hcp hcq hpc
          by_cases hpq : p = q
          · subst hpq
            have HT := JV.same_yes p
            go_wp2_with fail
            refine wp_region_quiet_below (by kernel_rfl) (by kernel_rfl) ?_
            repeat (quiet_step (exact cQ _ _))
            refine wpQuiet_nil ?_
            intro _ hw'
            obtain ⟨⟨dq, osq⟩, hw''⟩ := hw'
            subst hw''
            go_wp2_with fail
            go_roundw
            case rel =>
              refine ⟨i + 1, by go_num, by omega, fun j z hj hz => ?_, hW3.trans ((below_regrown wr dq osq).mono hW3.size)⟩
              by_cases hji : j < i
              · exact HS.out j z hji hz
              · obtain rfl : j = i := by omega
                rw [HP.out] at hz
                rw [HQ.out]
                exact hz
            case measure => simp [intOf]; omega
          · have HT := JV.same_no hpq
            have HF : Hid (x.same y = false) := JV.same_no fun h => by
              have h1 := HP.out
              rw [h, HQ.out] at h1
              exact hpq (by simpa using h1.symm)
            clear hpq
            go_wp2_with fail
            refine wp_region_quiet_below (by kernel_rfl) (by kernel_rfl) ?_
            repeat (quiet_step (exact cQ _ _))
            refine wpQuiet_nil ?_
            intro _ hw'
            obtain ⟨⟨dq, osq⟩, hw''⟩ := hw'
            subst hw''
            go_wp2_with fail
            go_ret
            exact ⟨ret_bool HF.out.symm, hb3.out.trans ((below_regrown wr dq osq).mono hb3.out.size)⟩
        · obtain rfl : i = m := by omega
          have HT : Hid (x.same y = true) := JV.same_iff.2 (JV.ext (by have := HK.out; have := HK'.out; omega) (by rw [← HNn.out, ← HNn'.out]) (by rw [← HTt.out, ← HTt'.out]) hns.out
            (lists_eq (by rw [HM.out, HM'.out]) fun j z hz => HS.out j z (by have := (List.getElem?_eq_some_iff.1 hz).1; have := HM.out; omega) hz))
          go_wp2_with fail
          go_ret
          exact ⟨ret_bool HT.out.symm, hb3.out⟩
end

section
open Go.RowKit

set_option maxHeartbeats 8000000 in
set_option maxRecDepth 5000 in
theorem awake_any (w : World) (hw : TabL w) : Calls Tryz.prog 12 #[] w fun e w' => e = .returned (.bool true) ∧ Below w.heap.size w w' := by
  have c1 := rd_call is1 w hw
  go_enter Tryz.func12, Tryz.ntmps12
  go_wp2_with fail
  refine c1.mono ?_; rintro e w1 ⟨ak, an, at', aa, ab, ai, aj, aca, acb, rfl, hA, g1⟩
  obtain ⟨W1, hW1⟩ : ∃ W, W = w1.alloc (.cells #[.int .u8 ak, .int .i64 an, .string at', .slice aa ai aca, .slice ab aj acb] 26) := ⟨_, rfl⟩
  have q1 : Below w1.heap.size w1 W1 := by rw [hW1]; exact (Below.refl _ _).alloc (Nat.le_refl _) _
  have B1 := g1.trans (q1.mono g1.size)
  have A1 := hA.below q1
  have V1 : VAt w1.heap.size W1 (.int .u8 ak) (.int .i64 an) (.string at') (.slice aa ai aca) (.slice ab aj acb) := by rw [hW1]; exact VAt.new ..
  obtain ⟨b1, hb1⟩ : ∃ b, b = w1.heap.size := ⟨_, rfl⟩
  rw [← hb1] at V1
  have c2 := rd_call is2 W1 (hw.below B1)
  clear c1 hA g1 q1
  go_wp2_with fail
  rw [← hW1, ← hb1]
  clear hW1 hb1
  refine c2.mono ?_; rintro e w2 ⟨bk, bn, bt, ba, bb, bi, bj, bca, bcb, rfl, _, g2⟩
  obtain ⟨W2, hW2⟩ : ∃ W, W = w2.alloc (.cells #[.int .u8 bk, .int .i64 bn, .string bt, .slice ba bi bca, .slice bb bj bcb] 26) := ⟨_, rfl⟩
  have q2 : Below w2.heap.size w2 W2 := by rw [hW2]; exact (Below.refl _ _).alloc (Nat.le_refl _) _
  have B2 := B1.trans ((g2.trans (q2.mono g2.size)).mono B1.size)
  have A2 := (A1.below g2).below q2
  have V2 := (V1.below g2).below q2
  have c3 := rd_call is3 W2 (hw.below B2)
  clear c2 g2 q2 B1 A1 V1
  go_wp2_with fail
  rw [← hW2]
  clear hW2
  refine c3.mono ?_; rintro e w3 ⟨ck, cn, ct, ca, cb, ci, cj, cca, ccb, rfl, _, g3⟩
  obtain ⟨W3, hW3⟩ : ∃ W, W = w3.alloc (.cells #[.int .u8 ck, .int .i64 cn, .string ct, .slice ca ci cca, .slice cb cj ccb] 26) := ⟨_, rfl⟩
  have q3 : Below w3.heap.size w3 W3 := by rw [hW3]; exact (Below.refl _ _).alloc (Nat.le_refl _) _
  have B3 := B2.trans ((g3.trans (q3.mono g3.size)).mono B2.size)
  have A3 := (A2.below g3).below q3
  have V3 := (V2.below g3).below q3
  have c4 := rd_call is4 W3 (hw.below B3)
  clear c3 g3 q3 B2 A2 V2
  go_wp2_with fail
  rw [← hW3]
  clear hW3
  refine c4.mono ?_; rintro e w4 ⟨dk, dn, dt, da, db, di, dj, dca, dcb, rfl, _, g4⟩
  obtain ⟨W4, hW4⟩ : ∃ W, W = w4.alloc (.cells #[.int .u8 dk, .int .i64 dn, .string dt, .slice da di dca, .slice db dj dcb] 26) := ⟨_, rfl⟩
  have q4 : Below w4.heap.size w4 W4 := by rw [hW4]; exact (Below.refl _ _).alloc (Nat.le_refl _) _
  have B4 := B3.trans ((g4.trans (q4.mono g4.size)).mono B3.size)
  have A4 := (A3.below g4).below q4
  have V4 := (V3.below g4).below q4
  obtain ⟨nb, hnb⟩ : ∃ b, b = W4.heap.size := ⟨_, rfl⟩
  obtain ⟨U1, hU1⟩ : ∃ W, W = W4.alloc (.cells #[.string ⟨#[97]⟩, .string ⟨#[98]⟩] 9) := ⟨_, rfl⟩
  obtain ⟨U2, hU2⟩ : ∃ W, W = U1.alloc (.cells #[.int .u8 2, .int .i64 1, .string ⟨#[]⟩, .slice none 0 0, .slice none 0 0, .int .u8 1, .int .i64 1, .string ⟨#[]⟩, .slice none 0 0, .slice none 0 0] 26) := ⟨_, rfl⟩
  obtain ⟨U3, hU3⟩ : ∃ W, W = U2.alloc (.cells #[.int .u8 3, .int .i64 0, .string ⟨#[120]⟩, .slice none 0 0, .slice none 0 0, .int .u8 4, .int .i64 0, .string ⟨#[]⟩, .slice none 0 0, .slice (some ⟨nb + 1, 0, none⟩) 2 2] 26) := ⟨_, rfl⟩
  obtain ⟨U4, hU4⟩ : ∃ W, W = U3.alloc (.cells #[.int .u8 5, .int .i64 0, .string ⟨#[]⟩, .slice (some ⟨nb, 0, none⟩) 2 2, .slice (some ⟨nb + 2, 0, none⟩) 2 2] 26) := ⟨_, rfl⟩
  have s1 : U1.heap.size = nb + 1 := by rw [hU1, hnb]; simp
  have s2 : U2.heap.size = nb + 2 := by rw [hU2]; simp [s1]
  have s3 : U3.heap.size = nb + 3 := by rw [hU3]; simp [s2]
  have r1 : Below W4.heap.size W4 U1 := by rw [hU1]; exact (Below.refl _ _).alloc (Nat.le_refl _) _
  have r2 : Below U1.heap.size U1 U2 := by rw [hU2]; exact (Below.refl _ _).alloc (Nat.le_refl _) _
  have r3 : Below U2.heap.size U2 U3 := by rw [hU3]; exact (Below.refl _ _).alloc (Nat.le_refl _) _
  have r4 : Below U3.heap.size U3 U4 := by rw [hU4]; exact (Below.refl _ _).alloc (Nat.le_refl _) _
  have R4 : Below W4.heap.size W4 U4 := ((r1.trans (r2.mono r1.size)).trans (r3.mono (by omega))).trans (r4.mono (by omega))
  have N1 : U1.heap[nb]? = some (.cells (NC [[97], [98]]).toArray 9 (0, 0)) := by rw [hU1, hnb]; exact heap_alloc_new W4 _
  have N4 : U4.heap[nb]? = some (.cells (NC [[97], [98]]).toArray 9 (0, 0)) := (r4.block nb (by omega)).trans ((r3.block nb (by omega)).trans ((r2.block nb (by omega)).trans N1))
  have I2 : U2.heap[nb + 1]? = some (.cells ([.int .u8 2, .int .i64 1, .string (S []), .slice none 0 0, .slice none 0 0, .int .u8 1, .int .i64 1, .string (S []), .slice none 0 0, .slice none 0 0] : List Value).toArray 26 (0, 0)) := by rw [hU2, ← s1]; exact heap_alloc_new U1 _
  have I4 : U4.heap[nb + 1]? = some (.cells ([.int .u8 2, .int .i64 1, .string (S []), .slice none 0 0, .slice none 0 0, .int .u8 1, .int .i64 1, .string (S []), .slice none 0 0, .slice none 0 0] : List Value).toArray 26 (0, 0)) := (r4.block _ (by omega)).trans ((r3.block _ (by omega)).trans I2)
  have K3 : U3.heap[nb + 2]? = some (.cells ([.int .u8 3, .int .i64 0, .string (S [120]), .slice none 0 0, .slice none 0 0, .int .u8 4, .int .i64 0, .string (S []), .slice none 0 0, .slice (some ⟨nb + 1, 0, none⟩) 2 2] : List Value).toArray 26 (0, 0)) := by rw [hU3, ← s2]; exact heap_alloc_new U2 _
  have K4 : U4.heap[nb + 2]? = some (.cells ([.int .u8 3, .int .i64 0, .string (S [120]), .slice none 0 0, .slice none 0 0, .int .u8 4, .int .i64 0, .string (S []), .slice none 0 0, .slice (some ⟨nb + 1, 0, none⟩) 2 2] : List Value).toArray 26 (0, 0)) := (r4.block _ (by omega)).trans K3
  have bare : ∀ (k : Nat) (n : Int) (t : List UInt8), k < 256 → (-9223372036854775808 ≤ n ∧ n ≤ 9223372036854775807) → t.length ≤ maxLen → HC U4 [.int .u8 (k : Int), .int .i64 n, .string (S t), .slice none 0 0, .slice none 0 0] (.mk k n t [] []) := fun k n t h1 h2 h3 => (HCp.bare (fun _ => True) U4 k n t h1 h2 h3).hc
  have hcI : HCS U4 [.int .u8 2, .int .i64 1, .string (S []), .slice none 0 0, .slice none 0 0, .int .u8 1, .int .i64 1, .string (S []), .slice none 0 0, .slice none 0 0] [.mk 2 1 [] [] [], .mk 1 1 [] [] []] :=
    ⟨_, _, _, _, _, _, rfl, bare 2 1 [] (by omega) (by omega) (Nat.zero_le _), _, _, _, _, _, _, rfl, bare 1 1 [] (by omega) (by omega) (Nat.zero_le _), rfl⟩
  have hI := HI.of_block I4 hcI
  have hL : HC U4 [.int .u8 4, .int .i64 0, .string (S []), .slice none 0 0, .slice (some ⟨nb + 1, 0, none⟩) 2 2] (.mk 4 0 [] [] [.mk 2 1 [] [] [], .mk 1 1 [] [] []]) := by
    obtain ⟨cs, e, h⟩ := HV.of U4 4 0 [] [] [.mk 2 1 [] [] [], .mk 1 1 [] [] []] none (some ⟨nb + 1, 0, none⟩) 0 2 ⟨by omega, by omega, Nat.zero_le _, Nat.zero_le _, by decide, fun x h => by simp at h⟩ (NS.nil _ _) (.inr ⟨_, _, rfl, hI⟩)
    simp only [Value.agg.injEq] at e
    have e' := congrArg Array.toList e
    simp at e'
    rw [← e'] at h
    exact h
  have hcK : HCS U4 [.int .u8 3, .int .i64 0, .string (S [120]), .slice none 0 0, .slice none 0 0, .int .u8 4, .int .i64 0, .string (S []), .slice none 0 0, .slice (some ⟨nb + 1, 0, none⟩) 2 2] [.mk 3 0 [120] [] [], .mk 4 0 [] [] [.mk 2 1 [] [] [], .mk 1 1 [] [] []]] :=
    ⟨_, _, _, _, _, _, rfl, bare 3 0 [120] (by omega) (by omega) (by decide), _, _, _, _, _, _, rfl, hL, rfl⟩
  have hW : HV U4 (.agg #[.int .u8 5, .int .i64 0, .string ⟨#[]⟩, .slice (some ⟨nb, 0, none⟩) 2 2, .slice (some ⟨nb + 2, 0, none⟩) 2 2]) J1 :=
    HV.of U4 5 0 [] [[97], [98]] [.mk 3 0 [120] [] [], .mk 4 0 [] [] [.mk 2 1 [] [] [], .mk 1 1 [] [] []]] (some ⟨nb, 0, none⟩) (some ⟨nb + 2, 0, none⟩) 2 2 ⟨by omega, by omega, Nat.zero_le _, by decide, by decide, by decide⟩ (NS.of_block N4) (.inr ⟨_, _, rfl, HI.of_block K4 hcK⟩)
  have cS := refSame_any _ J1 J1 (Nat.le_refl _) U4 _ _ (A4.below R4) hW
  rw [JV.same_yes J1] at cS
  obtain ⟨⟨p0, p1, p2, p3, p4⟩, pf⟩ := (V4.below R4).cells
  have HB4 := Lib.hid (B4.trans (R4.mono B4.size))
  clear c4 g4 q4 B3 A3 V3 B4 A4 V4 s1 s2 s3 r1 r2 r3 r4 R4 N1 N4 I2 I4 K3 K4 bare hcI hI hL hcK hW
  rw [hU4, hU3, hU2, hU1, hW4] at p0 p1 p2 p3 p4 pf
  have hnb' : nb = (w4.alloc (.cells #[.int .u8 dk, .int .i64 dn, .string dt, .slice da di dca, .slice db dj dcb] 26)).heap.size := by rw [hnb, hW4]
  have HNB := Lib.hid hnb'
  rw [hnb'] at p0 p1 p2 p3 p4 pf
  simp at p0 p1 p2 p3 p4 pf
  clear hnb'
  go_wp2_with fail
  have e : w4.heap.size + 1 = nb := by rw [HNB.out]; simp
  rw [← hW4, e, show nb + 1 + 1 = nb + 2 from rfl, ← hU1, ← hU2, ← hU3, ← hU4]
  clear hW4 hU1 hU2 hU3 hU4 p0 p1 p2 p3 p4 pf e hnb
  refine cS.mono ?_; rintro e w5 ⟨rfl, b5⟩
  have HB5 := Lib.hid (HB4.out.trans (b5.mono HB4.out.size))
  clear cS b5
  go_wp2_with fail
  go_ret
  exact ⟨rfl, HB5.out⟩
end
end Go.Proofs.YtpifbmcgadjhbaaGreatDoor
