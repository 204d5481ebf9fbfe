/-
  strings.Builder: what its WriteString and String come to, of a builder that the call has made itself.
  strings.Builder: String, by the library's contract.
  The program's parts of Encode: comma, text, alone.
-/
import Derived.Test.YtpifbmcgadjhbaaDoorBase
import Derived.Shelf.Strings.BuilderK
import Derived.Test.YtpifbmcgadjhbaaDoorShelf
import Derived.Test.YtpifbmcgadjhbaaDoorCanMath
import Derived.Test.YtpifbmcgadjhbaaDoorQuoteWrite
import Derived.Test.YtpifbmcgadjhbaaDoorNumProg
namespace Go.Proofs.YtpifbmcgadjhbaaDoor
section
open Go.RowKit

/-- block b is a builder that holds the bytes l; its rows are no older -/
def IsB (b : Nat) (l : List UInt8) (w : World) : Prop := Lib.IsBuilderF 39 5 b b (Lib.byteCells l) w
/-- nothing but the builder, and what is new, has changed -/
def KB (b : Nat) (w w' : World) : Prop := Below b w w' ∧ Lib.OthersKept 5 (some b) w w'
theorem KB.refl (b : Nat) (w : World) : KB b w w := ⟨Below.refl _ _, Lib.OthersKept.refl _ _ _⟩
theorem KB.trans {b : Nat} {u v w : World} (h : KB b u v) (g : KB b v w) : KB b u w := ⟨h.1.trans g.1, h.2.trans g.2⟩
theorem KB.of_below {b : Nat} {w w' : World} (hb : b ≤ w.heap.size) (h : Below w.heap.size w w') : KB b w w' :=
  ⟨h.mono hb, fun k _ hk _ _ => (h.block k (Array.getElem?_eq_some_iff.1 hk).1).trans hk⟩
/-- a block that is not the builder's, and no row of bytes -/
theorem KB.block {b k : Nat} {w w' : World} (h : KB b w w') {cs : Array Value} {t : TypeId} {fr : Nat × Nat} (hk : w.heap[k]? = some (.cells cs t fr)) (hne : k ≠ b) (ht : t ≠ 5) : w'.heap[k]? = some (.cells cs t fr) :=
  h.2 k _ hk (fun e => hne (Option.some.inj e)) (fun c fz e => by
    simp only [Obj.cells.injEq] at e
    exact ht e.2.1)
theorem IsB.lt {b : Nat} {l : List UInt8} {w : World} (h : IsB b l w) : b < w.heap.size := by
  rcases h with h | h
  · obtain ⟨_, v, hb, _⟩ := h
    exact (Array.getElem?_eq_some_iff.1 hb).1
  · obtain ⟨_, v, hb, _⟩ := h
    exact (Array.getElem?_eq_some_iff.1 hb).1
theorem ownF_below {w w' : World} {B : Nat} {e : TypeId} {sz : Nat} {v : Value} {n : Nat} {xs : List Value} (h : w.ownsRowF B e sz v n xs) (hb : Below w.heap.size w w') : w'.ownsRowF B e sz v n xs := by
  refine ⟨h.1, ?_⟩
  rcases h.2 with h2 | ⟨g, cap, cur, fz, h1, h2, h3, h4⟩
  · exact .inl h2
  · exact .inr ⟨g, cap, cur, fz, h1, h2, (hb.block g (Array.getElem?_eq_some_iff.1 h3).1).trans h3, h4⟩
theorem IsB.below {b : Nat} {l : List UInt8} {w w' : World} (h : IsB b l w) (hb : Below w.heap.size w w') : IsB b l w' := by
  have key : ∀ p, Lib.BuilderAtF 39 5 b b p (Lib.byteCells l) w → Lib.BuilderAtF 39 5 b b p (Lib.byteCells l) w' := fun p hp => by
    obtain ⟨h0, v, h1, h2, h3⟩ := hp
    exact ⟨h0, v, (hb.block b (Array.getElem?_eq_some_iff.1 h1).1).trans h1, ownF_below h2 hb, h3⟩
  exact h.elim (fun x => .inl (key _ x)) (fun x => .inr (key _ x))
/-- a builder that has just been laid -/
theorem IsB.new (w : World) : IsB w.heap.size [] (w.alloc (.cells #[.pointer none, .slice none 0 0] 39)) :=
  .inl ⟨Nat.le_refl _, .slice none 0 0, heap_alloc_new w _, ⟨rfl, .inl ⟨rfl, rfl⟩⟩, by simp [Value.ownBlock]⟩
theorem bSize : (Tryd.prog.info? 39).map (·.size) = some 2 := by kernel_rfl
theorem bLies : liesAt Tryd.prog Tryd.prog.depth 39 (2 / Tryd.prog.cellsOf 39) 0 39 1 = true := by kernel_rfl
set_option maxHeartbeats 1000000 in
set_option maxRecDepth 100000 in
/-- behind copyCheck the builder holds its own address -/
theorem bCheck_any (b : Nat) (bs : List Value) (w : World) (h : Lib.IsBuilderF 39 5 b b bs w) :
    Calls Tryd.prog 26 #[.pointer (some ⟨b, 0, none⟩)] w fun e w' => e = .returned (.tuple #[]) ∧ Lib.BuilderAtF 39 5 b b (.pointer (some ⟨b, 0, none⟩)) bs w' ∧ KB b w w' := by
  obtain ⟨j, hj, hjs⟩ := Option.map_eq_some_iff.1 bSize
  rcases h with h | h
  · have c0 := h.cell0
    have hsh := h.shape
    have hfz := h.frozen0
    have HH := Lib.hid h
    clear h
    go_enter Tryd.func26, Tryd.ntmps26
    go_wp2
    rw [Lib.run_to_unsafe w ⟨b, 0, none⟩ Tryd.underlying36 Tryd.underlying54 hj (by rw [hjs]; decide) hsh (Nat.zero_lt_succ 1)]
    simp only [Result.andThen]
    rw [Oper.upon_value]
    go_wp2
    rw [run_callFunc_extern Tryd.func36 (by kernel_rfl) (by kernel_rfl) (by kernel_rfl) (e := Extern.AbiNoEscape.same) (by kernel_rfl)]
    rw [Lib.run_noEscape]
    simp only [Result.andThen]
    rw [Oper.upon_value]
    go_wp2
    rw [Lib.run_from_unsafe w ⟨b, 0, none⟩ Tryd.underlying54 Tryd.underlying36 hj hsh bLies]
    simp only [Result.andThen]
    rw [Oper.upon_value]
    go_wp2
    go_end0
    exact ⟨rfl, HH.out.used _, (Below.refl b w).setCell (p := ⟨b, 0, none⟩) HH.out.1 _, (Lib.OthersKept.refl _ _ w).setCell ⟨b, 0, none⟩ rfl _⟩
  · have c0 := h.cell0
    have HH := Lib.hid h
    clear h
    go_enter Tryd.func26, Tryd.ntmps26
    go_wp2
    rw [Lib.run_neq_ptr_same w _ Tryd.underlying36 hj]
    go_wp2
    go_end0
    exact ⟨rfl, HH.out, KB.refl _ _⟩
set_option maxHeartbeats 2000000 in
set_option maxRecDepth 100000 in
theorem bWrite_any (b : Nat) (l r : List UInt8) (w : World) (h : IsB b l w) (hlen : l.length + r.length ≤ 1000000000) :
    Calls Tryd.prog 18 #[.pointer (some ⟨b, 0, none⟩), .string (S r)] w fun e w' => e = .returned (.tuple #[.int .i64 (r.length : Int), .nilIface]) ∧ IsB b (l ++ r) w' ∧ KB b w w' := by
  obtain ⟨i0, hi, hz0, hz1, hz2⟩ := info_parts info5
  obtain ⟨R, hR⟩ : ∃ R : Int, R = (r.length : Int) := ⟨_, rfl⟩
  have hsz : ((S r).size : Int) = R := by rw [S_size, hR]
  rw [← hR]
  have HR := Lib.hid hR
  have hbw : b ≤ w.heap.size := Nat.le_of_lt h.lt
  have HBW := Lib.hid hbw
  have cC := bCheck_any b (Lib.byteCells l) w h
  clear hR h hbw
  go_enter Tryd.func18, Tryd.ntmps18
  go_wp2_with fail
  refine cC.mono ?_
  rintro e w1 ⟨rfl, h1, hb1, hk1⟩
  obtain ⟨hB, v, hbk, hown, hne⟩ := h1
  rw [Lib.byteCells_length] at hown
  have c0 : w1.cell? ⟨b, 0, none⟩ = some (.pointer (some ⟨b, 0, none⟩)) := by rw [Lib.cell_of_heap hbk]; rfl
  have c1 : w1.cell? ⟨b, 1, none⟩ = some v := by rw [Lib.cell_of_heap hbk]; rfl
  have hlt : b < w1.heap.size := (Array.getElem?_eq_some_iff.1 hbk).1
  have hs1 := hb1.size
  have HS1 := Lib.hid hs1
  have HLT := Lib.hid hlt
  have HK := Lib.hid hk1
  have HB1 := Lib.hid hb1
  have HBK := Lib.hid hbk
  have hrs : (S r).size = r.length := S_size r
  clear cC hk1 hb1 hbk hs1 hlt
  go_wp2_with (at_builtin; refine Lib.wpList_append_own_stringF _ rfl _ _ 37 9 rfl b 5 i0 Tryd.underlying37 Tryd.underlying9 hi hz0 hz1 hz2 v l.length (Lib.byteCells l) rfl hown (S r) rfl ?c3 ?c4 ?c5 ?_)
  case c3 => unfold maxLen; omega
  case c4 => omega
  case c5 => exact Nat.le_of_lt HLT.out
  intro v' w2 hown' hgrow _
  have hb2 : w2.heap[b]? = some (.cells #[.pointer (some ⟨b, 0, none⟩), v] 39 (0, 0)) := by
    rw [hgrow.block b HLT.out (fun e => hne e.symm)]
    exact HBK.out
  have d0 : w2.cell? ⟨b, 0, none⟩ = some (.pointer (some ⟨b, 0, none⟩)) := by rw [Lib.cell_of_heap hb2]; rfl
  have d1 : w2.cell? ⟨b, 1, none⟩ = some v := by rw [Lib.cell_of_heap hb2]; rfl
  have f1 : w2.frozen? ⟨b, 1, none⟩ = false := Lib.frozen_of_heap hb2 1
  obtain ⟨ao, n', cap, rfl⟩ : ∃ ao n' cap, v' = .slice ao n' cap := by
    rcases hown'.2 with ⟨hv, _⟩ | ⟨g, cap, cur, fz, hv, _⟩
    · exact ⟨_, _, _, hv⟩
    · exact ⟨_, _, _, hv⟩
  have HO := Lib.hid hown
  have HO' := Lib.hid hown'
  have HG := Lib.hid hgrow
  have HB2 := Lib.hid hb2
  clear hown hown' hgrow hb2 c0 c1
  go_wp2_with fail
  go_ret2
  refine ⟨by rw [HR.out]; rfl, .inr ?_, ?_, ((HK.out.grown HG.out (Lib.ownsRowF_kind HO.out)).setCell ⟨b, 1, none⟩ rfl _)⟩
  · refine Lib.BuilderAtF.put (T := 39) (e := 5) hB HB2.out (bs' := Lib.byteCells (l ++ r)) ?_ (by decide)
    rw [Lib.byteCells_length, Lib.byteCells_append, List.length_append, ← hrs]
    exact HO'.out
  · exact (HB1.out.grown HG.out (by have := HS1.out; have := HBW.out; omega) (fun k hk => (HO.out.lt k hk).1)).setCell (p := ⟨b, 1, none⟩) hB _
end

section
open Go.RowKit Go.Shelf

theorem bExtra : Builder.Extra Tryd.prog lays169_ren := {
  sizeBuilder := by kernel_rfl
  liesBuilder := by kernel_rfl
  t5 := Tryd.underlying5
  a5 := Tryd.isAgg5
  z5 := Tryd.sizeOf5
  v5 := Tryd.zeroValue5
  infoByte := by kernel_rfl
  cellsByte := by kernel_rfl
  sizeByte := by kernel_rfl
  neB5 := by decide }
theorem bString_any (b : Nat) (l : List UInt8) (w : World) (h : IsB b l w) :
    Calls Tryd.prog 22 #[.pointer (some ⟨b, 0, none⟩)] w fun e w' => e = .returned (.string (S l)) ∧ Below b w w' :=
  (Any.Builder_String_any_k lays169 bExtra b b l w h (Nat.le_of_lt h.lt)).mono fun _ _ ⟨h1, _, h2, _⟩ => ⟨h1, h2⟩
end

section
open Go.RowKit

theorem comma_any (i : Nat) (w : World) : Calls Tryd.prog 19 #[.int .i64 (i : Int)] w fun e w' => e = .returned (.string (S (Cn.hd (decide (0 < i))))) ∧ w = w' := by
  obtain ⟨I, hI⟩ : ∃ I : Int, I = (i : Int) := ⟨_, rfl⟩
  rw [← hI]
  have HI := Lib.hid hI
  clear hI
  by_cases h : I = 0
  · subst h
    have h0 : i = 0 := by have := HI.out; omega
    subst h0
    go_enter Tryd.func19, Tryd.ntmps19
    go_wp2_with fail
    go_ret
    exact ⟨rfl, rfl⟩
  · have hb : (I == 0) = false := beq_eq_false_iff_ne.2 h
    have h0 : decide (0 < i) = true := decide_eq_true (by have := HI.out; omega)
    rw [h0]
    clear h0 h
    go_enter Tryd.func19, Tryd.ntmps19
    go_wp2_with fail
    go_ret
    exact ⟨rfl, rfl⟩
theorem txt_quo {l : List UInt8} (h : Jn.txt l = true) : QUO l = (Qm.quo l, 0) ∧ l.length ≤ 4096 := by
  unfold Jn.txt at h
  rw [Bool.and_eq_true, decide_eq_true_eq] at h
  exact ⟨QUO_ok h.2 h.1, h.2⟩
theorem canText_any (l : List UInt8) (w : World) (h : Jn.txt l = true) : Calls Tryd.prog 20 #[.string (S l)] w fun e w' => e = .returned (.string (S (Qm.quo l))) ∧ Below w.heap.size w w' := by
  obtain ⟨h1, h2⟩ := txt_quo h
  have cQ := Quote_any l w (by omega)
  rw [h1] at cQ
  clear h1 h2 h
  go_enter Tryd.func20, Tryd.ntmps20
  go_wp2_with fail
  refine cQ.mono ?_; rintro e w1 ⟨rfl, hb⟩
  go_wp2_with fail
  go_ret
  exact ⟨rfl, hb⟩
set_option maxHeartbeats 1000000 in
set_option maxRecDepth 3000 in
theorem alone_any (x : JV) (hp : x.part = true) (hk : x.k = 1 ∨ x.k = 2 ∨ x.k = 3) (w : World) (v : Value) (hv : HV w v x) (hT : TabN w) : Calls Tryd.prog 21 #[v] w fun e w' => e = .returned (.string (S (Cn.form x))) ∧ Below w.heap.size w w' := by
  obtain ⟨cs, rfl, hc⟩ := hv
  obtain ⟨a, c, ca, cc, rfl, hJB, _, _⟩ := hc.form
  clear hc
  obtain ⟨k, n, t, ns, is⟩ := x
  obtain ⟨p1, p2, p3, _, _⟩ := Cn.part_bare hp
  have hJ : (-9223372036854775808 ≤ n ∧ n ≤ 9223372036854775807) := hJB.2.1
  show Calls _ _ #[.agg #[.int .u8 (k : Int), .int .i64 n, .string (S t), .slice a ns.length ca, .slice c is.length cc]] w _
  have hk : k = 1 ∨ k = 2 ∨ k = 3 := hk
  clear hJB hp
  rcases hk with rfl | rfl | rfl
  · obtain ⟨hn, rfl, rfl, rfl⟩ := p1 rfl
    have e1 : Cn.form (.mk 1 n [] [] []) = if n = 1 then Cn.TRUE else Cn.FALSE := by
      rw [Cn.form, if_neg (by decide), if_neg (by decide), if_neg (by decide), if_neg (by decide)]
    rw [e1]
    clear p1 p2 p3 e1 hJ
    rcases hn with rfl | rfl
    · go_enter Tryd.func21, Tryd.ntmps21
      go_wp2_with fail
      go_ret
      exact ⟨rfl, (Below.refl _ _).alloc (Nat.le_refl _) _⟩
    · go_enter Tryd.func21, Tryd.ntmps21
      go_wp2_with fail
      go_ret
      exact ⟨rfl, (Below.refl _ _).alloc (Nat.le_refl _) _⟩
  · obtain ⟨rfl, rfl, rfl⟩ := p2 rfl
    have e1 : Cn.form (.mk 2 n [] [] []) = Lib.itoa n := by
      rw [Cn.form, if_neg (by decide), if_neg (by decide), if_pos rfl]
    obtain ⟨W1, hW1⟩ : ∃ W, W = w.alloc (.cells #[.int .u8 2, .int .i64 n, .string (S []), .slice a 0 ca, .slice c 0 cc] 25) := ⟨_, rfl⟩
    have g1 : Below w.heap.size w W1 := by rw [hW1]; exact (Below.refl _ _).alloc (Nat.le_refl _) _
    have HG1 := Lib.hid g1
    rw [e1]
    have cS := numShow_any n W1 (hT.below g1) hJ.1 hJ.2
    clear p1 p2 p3 e1 g1 hJ hT
    go_enter Tryd.func21, Tryd.ntmps21
    go_wp2_with fail
    rw [← hW1]
    refine cS.mono ?_; rintro e w2 ⟨rfl, b2⟩
    go_wp2_with fail
    go_ret
    exact ⟨rfl, HG1.out.trans (b2.mono HG1.out.size)⟩
  · obtain ⟨rfl, rfl, rfl, ht⟩ := p3 rfl
    have e1 : Cn.form (.mk 3 0 t [] []) = Qm.quo t := by
      rw [Cn.form, if_neg (by decide), if_neg (by decide), if_neg (by decide), if_pos rfl]
    obtain ⟨W1, hW1⟩ : ∃ W, W = w.alloc (.cells #[.int .u8 3, .int .i64 0, .string (S t), .slice a 0 ca, .slice c 0 cc] 25) := ⟨_, rfl⟩
    have g1 : Below w.heap.size w W1 := by rw [hW1]; exact (Below.refl _ _).alloc (Nat.le_refl _) _
    have HG1 := Lib.hid g1
    rw [e1]
    have cS := canText_any t W1 ht
    clear p1 p2 p3 e1 g1 hJ hT ht
    go_enter Tryd.func21, Tryd.ntmps21
    go_wp2_with fail
    rw [← hW1]
    refine cS.mono ?_; rintro e w2 ⟨rfl, b2⟩
    go_wp2_with fail
    go_ret
    exact ⟨rfl, HG1.out.trans (b2.mono HG1.out.size)⟩
end
end Go.Proofs.YtpifbmcgadjhbaaDoor
