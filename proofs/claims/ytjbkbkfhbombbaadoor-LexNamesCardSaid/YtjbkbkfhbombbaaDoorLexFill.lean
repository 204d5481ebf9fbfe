/-
  What the law LexNames asks of closed texts; a row of blanks.
-/
import Derived.Test.YtjbkbkfhbombbaaDoorLexAwake
import Derived.Test.YtjbkbkfhbombbaaDoorLexMore
import Derived.Laws.MakeOwn
import Derived.Laws.IdiomStrings
namespace Go.Proofs.YtjbkbkfhbombbaaDoor
open Go.RowKit

namespace Lm
def MS1 : List Mark := [⟨1, 0, 1, 0, []⟩, ⟨2, 1, 2, 0, []⟩, ⟨3, 2, 3, 0, []⟩, ⟨4, 3, 4, 0, []⟩, ⟨5, 4, 5, 0, []⟩, ⟨6, 5, 6, 0, []⟩, ⟨7, 6, 10, 0, []⟩, ⟨8, 11, 16, 0, []⟩, ⟨9, 16, 18, -5, []⟩, ⟨10, 18, 21, 0, [120]⟩, ⟨11, 21, 21, 0, []⟩]
theorem nm1 : ALL [123, 125, 91, 93, 44, 58, 116, 114, 117, 101, 32, 102, 97, 108, 115, 101, 45, 53, 34, 120, 34] = (MS1, 0, 0) := by kernel_rfl
theorem nm1_kind {i : Nat} (h : i < 11) : ∃ m, MS1[i]? = some m ∧ ((i : Int) + 1) = (m.k : Int) := by
  rcases (show i = 0 ∨ i = 1 ∨ i = 2 ∨ i = 3 ∨ i = 4 ∨ i = 5 ∨ i = 6 ∨ i = 7 ∨ i = 8 ∨ i = 9 ∨ i = 10 by omega) with rfl | rfl | rfl | rfl | rfl | rfl | rfl | rfl | rfl | rfl | rfl <;> exact ⟨_, rfl, rfl⟩
def EX : List (List UInt8 × Nat × Nat) := [([116, 114, 117], 0, 3), ([116, 114, 117, 101, 102, 97, 108, 115, 101], 0, 3), ([116, 114, 117, 101, 88], 4, 3), ([110, 117, 108, 108], 0, 3), ([84, 114, 117, 101], 0, 3), ([32, 9, 13, 10, 39], 4, 3), ([0], 0, 3), ([11], 0, 3), ([91, 32, 48, 49, 93], 2, 3), ([49, 44, 45], 2, 3), ([49, 116, 114, 117, 101], 1, 0), ([49, 101, 53], 0, 3), ([101, 53], 0, 3), ([43, 49], 0, 3), ([46], 0, 3), ([57, 50, 50, 51, 51, 55, 50, 48, 51, 54, 56, 53, 52, 55, 55, 53, 56, 48, 56], 0, 9), ([34, 97], 0, 4), ([44, 34, 255, 34], 1, 12), ([35], 0, 3), ([233], 0, 3)]
theorem ex_bad {i : Nat} (h : i < 20) (h10 : i ≠ 10) : ∃ s a e, EX[i]? = some (s, a, e) ∧ ALL s = ([], a, e) ∧ 0 < e ∧ s.length ≤ 100 := by
  rcases (show i = 0 ∨ i = 1 ∨ i = 2 ∨ i = 3 ∨ i = 4 ∨ i = 5 ∨ i = 6 ∨ i = 7 ∨ i = 8 ∨ i = 9 ∨ i = 11 ∨ i = 12 ∨ i = 13 ∨ i = 14 ∨ i = 15 ∨ i = 16 ∨ i = 17 ∨ i = 18 ∨ i = 19 by omega) with rfl | rfl | rfl | rfl | rfl | rfl | rfl | rfl | rfl | rfl | rfl | rfl | rfl | rfl | rfl | rfl | rfl | rfl | rfl
  · exact ⟨_, _, _, rfl, by kernel_rfl, by decide, by decide⟩
  · exact ⟨_, _, _, rfl, by kernel_rfl, by decide, by decide⟩
  · exact ⟨_, _, _, rfl, by kernel_rfl, by decide, by decide⟩
  · exact ⟨_, _, _, rfl, by kernel_rfl, by decide, by decide⟩
  · exact ⟨_, _, _, rfl, by kernel_rfl, by decide, by decide⟩
  · exact ⟨_, _, _, rfl, by kernel_rfl, by decide, by decide⟩
  · exact ⟨_, _, _, rfl, by kernel_rfl, by decide, by decide⟩
  · exact ⟨_, _, _, rfl, by kernel_rfl, by decide, by decide⟩
  · exact ⟨_, _, _, rfl, by kernel_rfl, by decide, by decide⟩
  · exact ⟨_, _, _, rfl, by kernel_rfl, by decide, by decide⟩
  · exact ⟨_, _, _, rfl, by kernel_rfl, by decide, by decide⟩
  · exact ⟨_, _, _, rfl, by kernel_rfl, by decide, by decide⟩
  · exact ⟨_, _, _, rfl, by kernel_rfl, by decide, by decide⟩
  · exact ⟨_, _, _, rfl, by kernel_rfl, by decide, by decide⟩
  · exact ⟨_, _, _, rfl, by kernel_rfl, by decide, by decide⟩
  · exact ⟨_, _, _, rfl, by kernel_rfl, by decide, by decide⟩
  · exact ⟨_, _, _, rfl, by kernel_rfl, by decide, by decide⟩
  · exact ⟨_, _, _, rfl, by kernel_rfl, by decide, by decide⟩
  · exact ⟨_, _, _, rfl, by kernel_rfl, by decide, by decide⟩
theorem ex_good : ALL [49, 116, 114, 117, 101] = ([⟨9, 0, 1, 1, []⟩, ⟨7, 1, 5, 0, []⟩, ⟨11, 5, 5, 0, []⟩], 0, 0) := by kernel_rfl
/-- n blanks; a name, so that the walk does not look behind it -/
def Ba (n : Nat) : List UInt8 := List.replicate n 32
/-- k blanks, zeros behind them, n in all -/
def Bz (n k : Nat) : List UInt8 := List.replicate k 32 ++ List.replicate (n - k) 0
theorem Ba_length (n : Nat) : (Ba n).length = n := List.length_replicate
theorem Bz_length (n k : Nat) (h : k ≤ n) : (Bz n k).length = n := by simp [Bz]; omega
theorem Bz_zero (n : Nat) : Bz n 0 = List.replicate n 0 := by simp [Bz]
theorem Bz_full (n : Nat) : Bz n n = Ba n := by simp [Bz, Ba]
theorem Bz_set (n k : Nat) (h : k < n) : (Bz n k).set k 32 = Bz n (k + 1) := by
  unfold Bz
  rw [List.set_append_right _ _ (by simp), List.length_replicate, Nat.sub_self, show n - k = (n - (k + 1)) + 1 by omega, List.replicate_succ, List.set_cons_zero, List.replicate_succ', List.append_assoc]
  rfl
theorem Ba_take (N n : Nat) (h : n ≤ N) : (Ba N).take n = Ba n := by simp [Ba, Nat.min_eq_left h]
theorem Ba_ws (n : Nat) : (Ba n).all ws = true := by
  rw [List.all_eq_true]
  intro c hc
  rw [(List.mem_replicate.1 hc).2]
  rfl
theorem Ba_ok (n : Nat) (h : n ≤ 65536) : ALL (Ba n) = ([⟨11, n, n, 0, []⟩], 0, 0) := by
  refine ALL_row (.stop ?_ rfl) (by rw [Ba_length]; exact h)
  have hs : skip (Ba n) 0 = n := by
    unfold skip run
    rw [List.drop_zero, takeWhile_id _ (Ba_ws n), Ba_length, Nat.zero_add]
  rw [hs]
  unfold mark
  rw [List.drop_of_length_le (by rw [Ba_length]; exact Nat.le_refl _)]
theorem Ba_long (n : Nat) (h : 65536 < n) : ALL (Ba n) = ([], 0, 5) := by
  unfold ALL
  rw [if_pos (by rw [Ba_length]; exact h)]
theorem na1 : NEXT [97] 2 = (⟨0, 0, 0, 0, []⟩, 1) := by kernel_rfl
theorem na2 : NEXT [97] (-1) = (⟨0, 0, 0, 0, []⟩, 1) := by kernel_rfl
theorem na3 : NEXT [97] 1 = (⟨11, 1, 1, 0, []⟩, 0) := by kernel_rfl
end Lm
def BB (l : List UInt8) : Array Value := (V l).toArray
theorem BB_size (l : List UInt8) : (BB l).size = l.length := by simp [BB, V]
theorem cell_BB (w : World) (b : Nat) (l : List UInt8) (t : TypeId) (fr : Nat × Nat) (h : w.heap[b]? = some (.cells (BB l) t fr)) (k : Nat) (hk : k < l.length) : w.cell? ⟨b, k, none⟩ = some (.int .u8 ((l[k]'hk).toNat : Int)) := by
  rw [cell_of_row w b k _ _ _ h]
  simp [BB, V, List.getElem?_eq_getElem hk]
theorem made_BB (n : Nat) : madeCells (Value.int .u8 0).cells (n * 1) = BB (Lm.Bz n 0) := by
  rw [Lm.Bz_zero, Nat.mul_one]
  apply Array.ext
  · rw [size_madeCells, BB_size, List.length_replicate]
  · intro i h1 h2
    simp [madeCells, BB, V, Value.cells, Nat.mod_one]
theorem run_make_BB (n : Nat) (c : Int) (hc : c = (n : Int)) (hn : n ≤ 100000000) (w : World) :
    (Instr.makeSlice 31 (.int .i64 c) (.int .i64 c)).run Tryd.prog w = .ok (.slice (some ⟨w.heap.size, 0, none⟩) n n) (w.alloc (.cells (BB (Lm.Bz n 0)) 5)) := by
  subst hc
  obtain ⟨i0, hi, hz, hs, hb⟩ := info_parts info5
  have h := run_make (P := Tryd.prog) w 31 5 i0 _ Tryd.underlying31 hi hz .i64 .i64 (n : Int) (n : Int) (by omega) (by omega) (by rw [hb]; omega) (by omega)
  rw [h, Int.toNat_natCast, hs, made_BB]
theorem set_BB (w : World) (b n : Nat) (t : TypeId) (fr : Nat × Nat) (k : Nat) (hk : k < n) (h : w.heap[b]? = some (.cells (BB (Lm.Bz n k)) t fr)) :
    (w.setCell ⟨b, k, none⟩ (.int .u8 32)).heap[b]? = some (.cells (BB (Lm.Bz n (k + 1))) t fr) := by
  have e : (BB (Lm.Bz n k)).setIfInBounds k (.int .u8 32) = BB (Lm.Bz n (k + 1)) := by
    rw [← Lm.Bz_set n k hk]
    simp [BB, V, List.map_set]
  rw [← e]
  simp [World.setCell, Array.getElem?_modify, h]
/-- string(row[:n]), the row being blanks -/
theorem conv_Ba (w : World) (b N n : Nat) (h : w.heap[b]? = some (.cells (BB (Lm.Bz N N)) 5 (0, 0))) (hn : n ≤ N) :
    (convert 31 9 (.slice (some ⟨b, 0, none⟩) n N)).run Tryd.prog w = .ok (.string (S (Lm.Ba n))) w := by
  rw [Lm.Bz_full] at h
  have hl := Lm.Ba_length n
  have := run_convert_bytes_back (P := Tryd.prog) w 31 9 5 ⟨b, 0, none⟩ N (Lm.Ba n) Tryd.underlying31 Tryd.underlying5 Tryd.underlying9 (by
    intro j hj
    rw [hl] at hj
    have ha : (⟨b, 0, none⟩ : Addr).add j = ⟨b, j, none⟩ := by unfold Addr.add; split <;> simp_all
    rw [ha, cell_BB w b _ _ _ h j (by rw [Lm.Ba_length]; omega)]
    simp [Lm.Ba])
  rw [hl] at this
  exact this
/-- the table's cells -/
def EXC : Array Value := #[.string ⟨#[116, 114, 117]⟩, .int .i64 0, .int .i64 3, .string ⟨#[116, 114, 117, 101, 102, 97, 108, 115, 101]⟩, .int .i64 0, .int .i64 3, .string ⟨#[116, 114, 117, 101, 88]⟩, .int .i64 4, .int .i64 3, .string ⟨#[110, 117, 108, 108]⟩, .int .i64 0, .int .i64 3, .string ⟨#[84, 114, 117, 101]⟩, .int .i64 0, .int .i64 3, .string ⟨#[32, 9, 13, 10, 39]⟩, .int .i64 4, .int .i64 3, .string ⟨#[0]⟩, .int .i64 0, .int .i64 3, .string ⟨#[11]⟩, .int .i64 0, .int .i64 3, .string ⟨#[91, 32, 48, 49, 93]⟩, .int .i64 2, .int .i64 3, .string ⟨#[49, 44, 45]⟩, .int .i64 2, .int .i64 3, .string ⟨#[49, 116, 114, 117, 101]⟩, .int .i64 1, .int .i64 0, .string ⟨#[49, 101, 53]⟩, .int .i64 0, .int .i64 3, .string ⟨#[101, 53]⟩, .int .i64 0, .int .i64 3, .string ⟨#[43, 49]⟩, .int .i64 0, .int .i64 3, .string ⟨#[46]⟩, .int .i64 0, .int .i64 3, .string ⟨#[57, 50, 50, 51, 51, 55, 50, 48, 51, 54, 56, 53, 52, 55, 55, 53, 56, 48, 56]⟩, .int .i64 0, .int .i64 9, .string ⟨#[34, 97]⟩, .int .i64 0, .int .i64 4, .string ⟨#[44, 34, 255, 34]⟩, .int .i64 1, .int .i64 12, .string ⟨#[35]⟩, .int .i64 0, .int .i64 3, .string ⟨#[233]⟩, .int .i64 0, .int .i64 3]
theorem EXC_cell {i : Nat} {s : List UInt8} {a e : Nat} (h : i < 20) (hx : Lm.EX[i]? = some (s, a, e)) : EXC[i * 3]? = some (.string (S s)) ∧ EXC[i * 3 + 1]? = some (.int .i64 (a : Int)) ∧ EXC[i * 3 + 2]? = some (.int .i64 (e : Int)) := by
  rcases (show i = 0 ∨ i = 1 ∨ i = 2 ∨ i = 3 ∨ i = 4 ∨ i = 5 ∨ i = 6 ∨ i = 7 ∨ i = 8 ∨ i = 9 ∨ i = 10 ∨ i = 11 ∨ i = 12 ∨ i = 13 ∨ i = 14 ∨ i = 15 ∨ i = 16 ∨ i = 17 ∨ i = 18 ∨ i = 19 by omega) with rfl | rfl | rfl | rfl | rfl | rfl | rfl | rfl | rfl | rfl | rfl | rfl | rfl | rfl | rfl | rfl | rfl | rfl | rfl | rfl
  all_goals
    obtain ⟨rfl, rfl, rfl⟩ : _ ∧ _ ∧ _ := by simpa [Lm.EX] using hx
    exact ⟨rfl, rfl, rfl⟩
/-- block b holds the table -/
def ExAt (b : Nat) (w : World) : Prop := w.heap[b]? = some (.cells EXC 29 (0, 0))
theorem ExAt.below {b : Nat} {w w' : World} (h : ExAt b w) (hb : Below w.heap.size w w') : ExAt b w' := (hb.block b (Array.getElem?_eq_some_iff.1 h).1).trans h
theorem ExAt.row {b : Nat} {w : World} (h : ExAt b w) {i : Nat} {s : List UInt8} {a e : Nat} (hi : i < 20) (hx : Lm.EX[i]? = some (s, a, e)) {aI eI : Int} (ha : aI = (a : Int)) (he : eI = (e : Int)) :
    w.cell? ⟨b, i * 3, none⟩ = some (.string (S s)) ∧ w.cell? ⟨b, i * 3 + 1, none⟩ = some (.int .i64 aI) ∧ w.cell? ⟨b, i * 3 + 2, none⟩ = some (.int .i64 eI) := by
  subst ha he
  obtain ⟨h1, h2, h3⟩ := EXC_cell hi hx
  exact ⟨(cell_of_row w b _ _ _ _ h).trans h1, (cell_of_row w b _ _ _ _ h).trans h2, (cell_of_row w b _ _ _ _ h).trans h3⟩
/-- block b holds one row of the table -/
def XAt (b : Nat) (w : World) (s : List UInt8) (aI eI : Int) : Prop := w.heap[b]? = some (.cells #[.string (S s), .int .i64 aI, .int .i64 eI] 29 (0, 0))
theorem XAt.below {b : Nat} {w w' : World} {s : List UInt8} {aI eI : Int} (h : XAt b w s aI eI) (hb : Below w.heap.size w w') : XAt b w' s aI eI := (hb.block b (Array.getElem?_eq_some_iff.1 h).1).trans h
theorem XAt.cells {b : Nat} {w : World} {s : List UInt8} {aI eI : Int} (h : XAt b w s aI eI) : w.cell? ⟨b, 0, none⟩ = some (.string (S s)) ∧ w.cell? ⟨b, 1, none⟩ = some (.int .i64 aI) ∧ w.cell? ⟨b, 2, none⟩ = some (.int .i64 eI) :=
  ⟨(cell_of_row w b 0 _ _ _ h).trans rfl, (cell_of_row w b 1 _ _ _ h).trans rfl, (cell_of_row w b 2 _ _ _ h).trans rfl⟩
end Go.Proofs.YtjbkbkfhbombbaaDoor
