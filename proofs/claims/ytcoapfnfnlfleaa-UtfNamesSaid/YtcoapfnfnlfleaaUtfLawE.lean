/-
  The walk of UtfNames: it comes to true. A map's ten entries in whatever order; three rows of texts; a row of numbers.
-/
import Derived.Test.YtcoapfnfnlfleaaUtfLawC
import Derived.Maps.RangeRun
import Derived.MapKept
namespace Go.Proofs.Ytcoapfnfnlfleaa
open Go.RowKit
open Go.ChangeMaps (setBlock)

/-- the map's entries, each by the number of its laying -/
def EL : List (Nat × List UInt8) :=
  [(0, [0]), (127, [127]), (128, [194, 128]), (2047, [223, 191]), (2048, [224, 160, 128]), (55295, [237, 159, 191]), (57344, [238, 128, 128]), (65535, [239, 191, 191]), (65536, [240, 144, 128, 128]), (1114111, [244, 143, 191, 191])]
def ent (x : (Nat × List UInt8) × Nat) : MapEntry := { key := .int .i64 (x.1.1 : Int), val := .string (S x.1.2), born := x.2 }
def E (n : Nat) : Array MapEntry := ((EL.zipIdx.take n).map ent).toArray
theorem ins_new (t : TypeId) (ht : Try.prog.underlying t = some (.map 3 9)) (w : World) (es : Array MapEntry) (c : Nat) (k : Int) (s : ByteArray) (hn : Instr.findNow (.int .i64) (.int .i64 k) es.toList 0 = some none) :
    (Instr.mapUpdate t (.map (some w.heap.size)) (.int .i64 k) (.string s)).run Try.prog (w.alloc (.map es c)) = .ok () (w.alloc (.map (es.push { key := .int .i64 k, val := .string s, born := c }) (c + 1))) := by
  have hg : (w.alloc (.map es c)).heap[w.heap.size]? = some (.map es c) := heap_alloc_new w _
  have hf := MapKept.run_findKey (P := Try.prog) (w := w.alloc (.map es c)) (kt := 3) Try.underlying3 hn
  have hck : (Instr.checkKey false 10000 3 (.int .i64 k)).run Try.prog (w.alloc (.map es c)) = .ok () (w.alloc (.map es c)) := by kernel_rfl
  have hs : (setObj w.heap.size (.map (es.push { key := .int .i64 k, val := .string s, born := c }) (c + 1))).run Try.prog (w.alloc (.map es c)) = .ok () (w.alloc (.map (es.push { key := .int .i64 k, val := .string s, born := c }) (c + 1))) := by
    simp only [setObj, Sem.run, hg]
    congr 1
    unfold World.alloc
    congr 1
    apply Array.toList_inj.1
    simp
  simp only [Instr.mapUpdate, Sem.run_bind, run_underlying ht, Result.andThen, MapKept.run_getObj_map hg, hck, hf, hs]
theorem E_push (n : Nat) (x : (Nat × List UInt8) × Nat) (h : EL.zipIdx[n]? = some x) : (E n).push (ent x) = E (n + 1) := by
  apply Array.toList_inj.1
  unfold E
  rw [List.take_add_one, h]
  simp
theorem ins_E (w : World) (n : Nat) (k : Int) (s : ByteArray) (x : Nat × List UInt8) (h : EL.zipIdx[n]? = some (x, n)) (hk : k = (x.1 : Int)) (hs : s = S x.2) (hn : Instr.findNow (.int .i64) (.int .i64 k) (E n).toList 0 = some none) :
    (Instr.mapUpdate 33 (.map (some w.heap.size)) (.int .i64 k) (.string s)).run Try.prog (w.alloc (.map (E n) n)) = .ok () (w.alloc (.map (E (n + 1)) (n + 1))) := by
  rw [ins_new _ Try.underlying33 w (E n) n k s hn, ← E_push n (x, n) h, hk, hs]
  rfl
/-- what is asked of an entry -/
def Good (e : MapEntry) : Prop := ∃ (k : Int) (n : Nat) (u : List UInt8), e.key = .int .i64 k ∧ e.val = .string (S u) ∧ k = (n : Int) ∧ PUT k = (u, 0) ∧ Um.nx (u ++ [255]) = (n, u.length, 0) ∧ (LEN u).2 = true ∧ (LEN (u ++ [255])).2 = false ∧ u.length ≤ 4
theorem E_born : (E 10).toList.map (·.born) = [0, 1, 2, 3, 4, 5, 6, 7, 8, 9] := rfl
theorem E_old : ∀ x ∈ (E 10).toList, x.born < 10 := fun x hx => by
  have : x.born ∈ (E 10).toList.map (·.born) := List.mem_map.2 ⟨x, hx, rfl⟩
  rw [E_born] at this
  revert this
  simp
  omega
theorem E_nodup : ((E 10).toList.map (·.born)).Nodup := by rw [E_born]; decide
theorem good_of (k : Int) (n : Nat) (u : List UInt8) (b : Nat) (hk : k = (n : Int)) (hr : Um.rn n) (hu : Um.enc n = u) : Good { key := .int .i64 k, val := .string (S u), born := b } := by
  subst hu
  have h1 := Um.nx_enc hr []
  rw [List.append_nil] at h1
  have hl := (Um.enc_length n).2
  refine ⟨k, n, Um.enc n, rfl, rfl, hk, by rw [hk]; exact PUT_nat hr rfl, Um.nx_enc hr [255], ?_, ?_, hl⟩
  · have := Um.cnt_one h1
    rw [List.take_of_length_le (Nat.le_refl _)] at this
    rw [LEN_some this]
  · have := Um.cnt_never (Um.enc n) [] 255 (by decide)
    rw [List.append_nil] at this
    rw [LEN_none this]
instance (r : Nat) : Decidable (Um.rn r) := by unfold Um.rn; infer_instance
theorem E_good : ∀ x ∈ (E 10).toList, Good x := by
  have h : (E 10).toList = EL.zipIdx.map ent := rfl
  rw [h]
  intro x hx
  obtain ⟨y, hy, rfl⟩ := List.mem_map.1 hx
  have hall : ∀ z ∈ EL.zipIdx, Um.rn z.1.1 ∧ Um.enc z.1.1 = z.1.2 := by decide +kernel
  exact good_of _ _ _ _ rfl (hall y hy).1 (hall y hy).2
theorem heap_block (w : World) (r : Nat) (o : Obj) (hr : r < w.heap.size) : (setBlock w r o).heap[r]? = some o := by
  simp [setBlock, hr]
theorem heap_block_other (w : World) (r i : Nat) (o : Obj) (h : i ≠ r) : (setBlock w r o).heap[i]? = w.heap[i]? := by
  simp [setBlock, Array.getElem?_setIfInBounds_ne (Ne.symm h)]
theorem size_block (w : World) (r : Nat) (o : Obj) : (setBlock w r o).heap.size = w.heap.size := by simp [setBlock]
theorem below_block {w0 w : World} (h : Below w0.heap.size w0 w) (r : Nat) (o : Obj) (hr : w0.heap.size ≤ r) : Below w0.heap.size w0 (setBlock w r o) :=
  ⟨h.os, h.tape, h.output, by rw [size_block]; exact h.size, fun k hk => by rw [heap_block_other _ _ _ _ (by omega)]; exact h.block k hk⟩
/-- the rows of texts, of numbers, as they lie -/
def RowOf (L : List (List UInt8)) : Array Value := (L.map fun l => .string (S l)).toArray
def NumsOf (L : List Int) : Array Value := (L.map fun k => .int .i64 k).toArray
def L2 : List (List UInt8) := [[128], [191], [193, 191], [224, 159, 191], [224, 128], [237, 191, 191], [240, 143, 191, 191], [244, 144, 128, 128], [245], [248], [255], [194, 65], [226, 130, 65], [240, 144, 128, 192], [240, 144, 65]]
def L3 : List (List UInt8) := [[], [194], [224], [224, 160], [237, 159], [240, 144, 128], [244, 143, 191], [244]]
def L4 : List Int := [-1, 55296, 56319, 56320, 57343, 1114112, 4611686018427387904, -9223372036854775808]
theorem L2_all : ∀ l ∈ L2, Um.nx l = (0, 0, 12) ∧ (LEN l).2 = false ∧ (LEN ([97] ++ l)).2 = false ∧ l.length ≤ 4 := by decide +kernel
theorem L3_all : ∀ l ∈ L3, Um.nx l = (0, 0, 4) ∧ (LEN l).2 = l.isEmpty ∧ l.length ≤ 4 := by decide +kernel
theorem L4_all : ∀ k ∈ L4, PUT k = ([], 1) := by decide +kernel
theorem row_at {w w' : World} {L : List (List UInt8)} {t : TypeId} (h : Below (w.alloc (.cells (RowOf L) t)).heap.size (w.alloc (.cells (RowOf L) t)) w') (j : Nat) (hj : j < L.length) : ∃ l ∈ L, w'.cell? ⟨w.heap.size, j, none⟩ = some (.string (S l)) := by
  refine ⟨L[j], List.getElem_mem hj, ?_⟩
  have hc : (w.alloc (.cells (RowOf L) t)).cell? ⟨w.heap.size, j, none⟩ = some (.string (S L[j])) := by
    rw [cell_of_row _ w.heap.size j _ _ _ (heap_alloc_new w _)]
    simp [RowOf, List.getElem?_eq_getElem hj]
  exact (h.cell (World.block_lt_of_cell? _ _ hc)).trans hc
theorem num_at {w w' : World} {L : List Int} {t : TypeId} (h : Below (w.alloc (.cells (NumsOf L) t)).heap.size (w.alloc (.cells (NumsOf L) t)) w') (j : Nat) (hj : j < L.length) : ∃ k ∈ L, w'.cell? ⟨w.heap.size, j, none⟩ = some (.int .i64 k) := by
  refine ⟨L[j], List.getElem_mem hj, ?_⟩
  have hc : (w.alloc (.cells (NumsOf L) t)).cell? ⟨w.heap.size, j, none⟩ = some (.int .i64 L[j]) := by
    rw [cell_of_row _ w.heap.size j _ _ _ (heap_alloc_new w _)]
    simp [NumsOf, List.getElem?_eq_getElem hj]
  exact (h.cell (World.block_lt_of_cell? _ _ hc)).trans hc
set_option maxRecDepth 100000 in
set_option maxHeartbeats 1600000 in
theorem law_UtfNames (w : World) :
    Calls Try.prog 5 #[] w fun e w' => e = .returned (.bool true) ∧ Below w.heap.size w w' := by
  go_enter Try.func5, Try.ntmps5
  go_wp2_with fail
  refine (awake_any _).mono ?_; rintro e w1 ⟨rfl, h1⟩
  have hmk : (Instr.makeMap 33 none).run Try.prog w1 = .ok (.map (some w1.heap.size)) (w1.alloc (.map (E 0) 0)) := rfl
  have i0 := ins_E w1 0 0 ⟨#[0]⟩ (0, [0]) rfl rfl rfl rfl
  have i1 := ins_E w1 1 127 ⟨#[127]⟩ (127, [127]) rfl rfl rfl rfl
  have i2 := ins_E w1 2 128 ⟨#[194, 128]⟩ (128, [194, 128]) rfl rfl rfl rfl
  have i3 := ins_E w1 3 2047 ⟨#[223, 191]⟩ (2047, [223, 191]) rfl rfl rfl rfl
  have i4 := ins_E w1 4 2048 ⟨#[224, 160, 128]⟩ (2048, [224, 160, 128]) rfl rfl rfl rfl
  have i5 := ins_E w1 5 55295 ⟨#[237, 159, 191]⟩ (55295, [237, 159, 191]) rfl rfl rfl rfl
  have i6 := ins_E w1 6 57344 ⟨#[238, 128, 128]⟩ (57344, [238, 128, 128]) rfl rfl rfl rfl
  have i7 := ins_E w1 7 65535 ⟨#[239, 191, 191]⟩ (65535, [239, 191, 191]) rfl rfl rfl rfl
  have i8 := ins_E w1 8 65536 ⟨#[240, 144, 128, 128]⟩ (65536, [240, 144, 128, 128]) rfl rfl rfl rfl
  have i9' := ins_E w1 9 1114111 ⟨#[244, 143, 191, 191]⟩ (1114111, [244, 143, 191, 191]) rfl rfl rfl rfl
  obtain ⟨W0, hW0⟩ : ∃ W0, W0 = w1.alloc (.map (E (9 + 1)) (9 + 1)) := ⟨_, rfl⟩
  have hb0 : Below w.heap.size w W0 := by rw [hW0]; exact h1.alloc h1.size _
  have hm0 : W0.heap[w1.heap.size]? = some (.map (E 10) 10) := by rw [hW0]; exact heap_alloc_new w1 _
  have hlt0 : w1.heap.size < W0.heap.size := (Array.getElem?_eq_some_iff.1 hm0).1
  rw [← hW0] at i9'
  have hsz0 := hb0.size
  have hrg := run_range_map (P := Try.prog) W0 33 _ _ w1.heap.size (E 10) 10 Try.underlying33 hm0
  obtain ⟨W1, hW1⟩ : ∃ W1, W1 = W0.alloc (.mapIter (some w1.heap.size) 10 #[] 10) := ⟨_, rfl⟩
  have hr1 : W1.heap[W0.heap.size]? = some (.mapIter (some w1.heap.size) 10 #[] 10) := by rw [hW1]; exact heap_alloc_new W0 _
  have hm1 : W1.heap[w1.heap.size]? = some (.map (E 10) 10) := by rw [hW1, heap_alloc_old W0 _ hlt0]; exact hm0
  have hb1 : Below w.heap.size w W1 := by rw [hW1]; exact hb0.alloc hsz0 _
  rw [← hW1] at hrg
  have HR1 := Lib.hid hr1
  have HM1 := Lib.hid hm1
  have HB1 := Lib.hid hb1
  have HSZ := Lib.hid hsz0
  have HLT := Lib.hid hlt0
  clear hW0 hW1 hr1 hm1 hm0 hb0 hb1 h1 hsz0 hlt0
  go_wp2_with fail
  go_loopw [1, 2, 3, 4] (fun _ _ _ _ wr => ∃ seen : Array Nat, wr.heap[W0.heap.size]? = some (.mapIter (some w1.heap.size) 10 seen 10) ∧ wr.heap[w1.heap.size]? = some (.map (E 10) 10) ∧ Below w.heap.size w wr) (fun _ _ _ _ wr => (leftOf (E 10) (wr.iterSeen W0.heap.size)).size)
  case atStart => exact ⟨#[], HR1.out, HM1.out, HB1.out⟩
  case round =>
    obtain ⟨seen, hr, hm, hb⟩ := hrel
    have hlt := HLT.out
    have hrs : W0.heap.size < wr.heap.size := (Array.getElem?_eq_some_iff.1 hr).1
    rcases run_next_at (P := Try.prog) wr 0 W0.heap.size w1.heap.size 10 10 seen (E 10) 10 hr hm E_old (Nat.le_refl _) with ⟨h0, hrun⟩ | ⟨e, he, w2, hal, hrun⟩
    · have hnx : ∀ ty, (Instr.next (.pointer (some ⟨W0.heap.size, 0, none⟩)) false ty).run Try.prog wr = _ := fun _ => hrun
      have HB := Lib.hid hb
      have HS := Lib.hid hb.size
      clear hrun h0 hr hm hb HR1 HM1 HB1 hmk hrg i0 i1 i2 i3 i4 i5 i6 i7 i8 i9'
      go_wp2_with fail
      obtain ⟨W3, hW3⟩ : ∃ W3, W3 = wr.alloc (.cells (RowOf L2) 9) := ⟨_, rfl⟩
      rw [show wr.alloc (.cells #[.string ⟨#[128]⟩, .string ⟨#[191]⟩, .string ⟨#[193, 191]⟩, .string ⟨#[224, 159, 191]⟩, .string ⟨#[224, 128]⟩, .string ⟨#[237, 191, 191]⟩, .string ⟨#[240, 143, 191, 191]⟩, .string ⟨#[244, 144, 128, 128]⟩, .string ⟨#[245]⟩, .string ⟨#[248]⟩, .string ⟨#[255]⟩, .string ⟨#[194, 65]⟩, .string ⟨#[226, 130, 65]⟩, .string ⟨#[240, 144, 128, 192]⟩, .string ⟨#[240, 144, 65]⟩] 9) = W3 from hW3.symm]
      have HW3 := Lib.hid hW3
      have HB3 : Hid (Below w.heap.size w W3) := by rw [hW3]; exact HB.out.alloc HS.out _
      clear hW3 hnx
      go_loopw [6, 69] (fun _ i wr2 => ∃ j : Nat, j ≤ 15 ∧ i = .int .i64 (j : Int) ∧ Below W3.heap.size W3 wr2) (fun _ i _ => 15 - (intOf i).toNat)
      case atStart => exact ⟨0, by decide, rfl, Below.refl _ _⟩
      case round =>
        obtain ⟨j, hj, rfl, hbel⟩ := hrel
        by_cases hlt : (j : Int) < 15
        · obtain ⟨l, hl, hcell⟩ := row_at (L := L2) (by rw [← HW3.out]; exact hbel) j (by have : L2.length = 15 := rfl; omega)
          obtain ⟨g1, g2, g3, g4⟩ := L2_all l hl
          have a1 : ∀ w : World, (Op.stringOp .add (⟨#[97]⟩ : ByteArray) (S l)).run Try.prog w = .ok (.string (S ([97] ++ l))) w := add_S [97] l (by simp; omega)
          have G1 := Lib.hid g1
          have G2 := Lib.hid g2
          have G3 := Lib.hid g3
          have G5 : Hid (l.length ≤ 100000000 ∧ ([97] ++ l).length ≤ 100000000) := by unfold Hid; simp; omega
          clear g1 g2 g3 hl
          go_wp2_with fail
          refine (is_at hbel l 0 0 12 G1.out rfl rfl rfl).mono ?_; rintro e w4 ⟨rfl, h4⟩
          go_wp2_with fail
          refine (Valid_at h4 l G5.out.1 G2.out).mono ?_; rintro e w5 ⟨rfl, h5⟩
          go_wp2_with fail
          refine (Valid_at h5 ([97] ++ l) G5.out.2 G3.out).mono ?_; rintro e w6 ⟨rfl, h6⟩
          go_wp2_with fail
          go_roundw
          case rel => exact ⟨j + 1, by omega, rfl, h6⟩
          case measure => simp [intOf]; omega
        · have HB4 := Lib.hid (HB3.out.trans (hbel.mono HB3.out.size))
          have HS4 := Lib.hid HB4.out.size
          obtain ⟨W4, hW4⟩ : ∃ W4, W4 = wr.alloc (.cells (RowOf L3) 9) := ⟨_, rfl⟩
          go_wp2_with fail
          rw [show wr.alloc (.cells #[.string ⟨#[]⟩, .string ⟨#[194]⟩, .string ⟨#[224]⟩, .string ⟨#[224, 160]⟩, .string ⟨#[237, 159]⟩, .string ⟨#[240, 144, 128]⟩, .string ⟨#[244, 143, 191]⟩, .string ⟨#[244]⟩] 9) = W4 from hW4.symm]
          have HW4 := Lib.hid hW4
          have HB5 : Hid (Below w.heap.size w W4) := by rw [hW4]; exact HB4.out.alloc HS4.out _
          clear hW4 hbel
          go_loopw [8, 88] (fun _ i wr2 => ∃ j : Nat, j ≤ 8 ∧ i = .int .i64 (j : Int) ∧ Below W4.heap.size W4 wr2) (fun _ i _ => 8 - (intOf i).toNat)
          case atStart => exact ⟨0, by decide, rfl, Below.refl _ _⟩
          case round =>
            obtain ⟨j, hj, rfl, hbel⟩ := hrel
            by_cases hlt : (j : Int) < 8
            · obtain ⟨l, hl, hcell⟩ := row_at (L := L3) (by rw [← HW4.out]; exact hbel) j (by have : L3.length = 8 := rfl; omega)
              obtain ⟨g1, g2, g4⟩ := L3_all l hl
              have G1 := Lib.hid g1
              have G2 := Lib.hid g2
              have G5 : Hid (l.length ≤ 100000000) := by unfold Hid; omega
              clear g1 g2 hl
              by_cases hnil : l = []
              · have e1 : (S l).toList = [] := by rw [S_toList, hnil]
                have e2 : (S l).toList.isEmpty = true := by rw [e1]; rfl
                have G6 : Hid ((LEN l).2 = true) := by rw [G2.out, hnil]; rfl
                clear hnil
                go_wp2_with fail
                refine (is_at hbel l 0 0 4 G1.out rfl rfl rfl).mono ?_; rintro e w4 ⟨rfl, h4⟩
                go_wp2_with fail
                refine (Valid_at h4 l G5.out G6.out).mono ?_; rintro e w5 ⟨rfl, h5⟩
                go_wp2_with fail
                go_roundw
                case rel => exact ⟨j + 1, by omega, rfl, h5⟩
                case measure => simp [intOf]; omega
              · have e1 : ¬ (S l).toList = [] := by rw [S_toList]; exact hnil
                have e2 : (S l).toList.isEmpty = false := by rw [List.isEmpty_eq_false_iff]; exact e1
                have G6 : Hid ((LEN l).2 = false) := by rw [G2.out, List.isEmpty_eq_false_iff]; exact hnil
                clear hnil
                go_wp2_with fail
                refine (is_at hbel l 0 0 4 G1.out rfl rfl rfl).mono ?_; rintro e w4 ⟨rfl, h4⟩
                go_wp2_with fail
                refine (Valid_at h4 l G5.out G6.out).mono ?_; rintro e w5 ⟨rfl, h5⟩
                go_wp2_with fail
                go_roundw
                case rel => exact ⟨j + 1, by omega, rfl, h5⟩
                case measure => simp [intOf]; omega
            · have HB6 := Lib.hid (HB5.out.trans (hbel.mono HB5.out.size))
              have HS6 := Lib.hid HB6.out.size
              obtain ⟨W5, hW5⟩ : ∃ W5, W5 = wr.alloc (.cells (NumsOf L4) 3) := ⟨_, rfl⟩
              go_wp2_with fail
              rw [show wr.alloc (.cells #[.int .i64 (-1), .int .i64 (55296), .int .i64 (56319), .int .i64 (56320), .int .i64 (57343), .int .i64 (1114112), .int .i64 (4611686018427387904), .int .i64 (-9223372036854775808)] 3) = W5 from hW5.symm]
              have HW5 := Lib.hid hW5
              have HB7 : Hid (Below w.heap.size w W5) := by rw [hW5]; exact HB6.out.alloc HS6.out _
              clear hW5 hbel
              go_loopw [10, 11, 12, 105] (fun _ _ _ i wr2 => ∃ j : Nat, j ≤ 8 ∧ i = .int .i64 (j : Int) ∧ Below W5.heap.size W5 wr2) (fun _ _ _ i _ => 8 - (intOf i).toNat)
              case atStart => exact ⟨0, by decide, rfl, Below.refl _ _⟩
              case round =>
                obtain ⟨j, hj, rfl, hbel⟩ := hrel
                by_cases hlt : (j : Int) < 8
                · obtain ⟨k, hk, hcell⟩ := num_at (L := L4) (by rw [← HW5.out]; exact hbel) j (by have : L4.length = 8 := rfl; omega)
                  have G1 := Lib.hid (L4_all k hk)
                  have e1 : (S ([] : List UInt8)).toList = [] := S_toList []
                  clear hk
                  go_wp2_with fail
                  refine (Put_at hbel k G1.out).mono ?_; rintro e w4 ⟨rfl, h4⟩
                  go_wp2_with fail
                  go_roundw
                  case rel => exact ⟨j + 1, by omega, rfl, h4⟩
                  case measure => simp [intOf]; omega
                · have HB8 := Lib.hid (HB7.out.trans (hbel.mono HB7.out.size))
                  clear hbel
                  go_wp2_with fail
                  refine (Len_at HB8.out [97, 195, 169, 226, 130, 172] (by decide) (x := (3, true)) (by decide +kernel)).mono ?_; rintro e w4 ⟨rfl, h4⟩
                  go_wp2_with fail
                  refine (Len_at h4 [97, 195] (by decide) (x := (0, false)) (by decide +kernel)).mono ?_; rintro e w5 ⟨rfl, h5⟩
                  go_wp2_with fail
                  refine (Next_at h5 [97] (-1) (x := (0, 0, 1)) (by decide)).mono ?_; rintro e w6 ⟨rfl, h6⟩
                  go_wp2_with fail
                  go_ret
                  exact ⟨rfl, h6⟩
    · obtain ⟨W2, hW2⟩ : ∃ W2, W2 = setBlock w2 W0.heap.size (.mapIter (some w1.heap.size) 10 (seen.push e.born) 10) := ⟨_, rfl⟩
      have hsz2 : w2.heap.size = wr.heap.size := by rcases hal with rfl | rfl <;> rfl
      have hm2 : w2.heap[w1.heap.size]? = some (.map (E 10) 10) := by rcases hal with rfl | rfl <;> exact hm
      have hb2 : Below w.heap.size w w2 := by rcases hal with rfl | rfl; exact hb; exact hb.drew
      have hR : W2.heap[W0.heap.size]? = some (.mapIter (some w1.heap.size) 10 (seen.push e.born) 10) := by rw [hW2]; exact heap_block _ _ _ (by omega)
      have hM : W2.heap[w1.heap.size]? = some (.map (E 10) 10) := by rw [hW2, heap_block_other _ _ _ _ (by omega)]; exact hm2
      have hB : Below w.heap.size w W2 := by rw [hW2]; exact below_block hb2 _ _ HSZ.out
      rw [← hW2] at hrun
      have hen := run_entry_at (P := Try.prog) W2 W0.heap.size w1.heap.size 10 seen (E 10) 10 e hR hM (mem_left he).1 E_nodup
      obtain ⟨k, n, u, hk, hv, hkn, g1, g2, g3, g4, g5⟩ := E_good e (mem_left he).1
      rw [hk, hv] at hrun hen
      have hnx : ∀ ty, (Instr.next (.pointer (some ⟨W0.heap.size, 0, none⟩)) false ty).run Try.prog wr = _ := fun _ => hrun
      have z1 := S_size u
      have a1 := add_S u [255] (by simp; omega)
      have HKN := Lib.hid hkn
      have G1 := Lib.hid g1
      have G2 := Lib.hid g2
      have G3 := Lib.hid g3
      have G4 := Lib.hid g4
      have q5 : Hid (u.length ≤ 100000000 ∧ (u ++ [255]).length ≤ 100000000) := by unfold Hid; simp; omega
      have HRr := Lib.hid hR
      have HMr := Lib.hid hM
      have HBr := Lib.hid hB
      have HE := Lib.hid (left_shrinks (E 10) seen e he)
      have HI : Hid (wr.iterSeen W0.heap.size = seen) := by unfold Hid World.iterSeen; rw [hr]
      clear hrun hr hm hb HR1 HM1 HB1 hmk hrg i0 i1 i2 i3 i4 i5 i6 i7 i8 i9' hW2 hk hv hkn g1 g2 g3 g4 hR hM hB hm2 hb2 hsz2 hal he
      go_wp2_with fail
      refine (Put_at (Below.refl _ _) k G1.out).mono ?_; rintro e w3 ⟨rfl, h3⟩
      go_wp2_with fail
      refine (is_at h3 (u ++ [255]) n u.length 0 G2.out HKN.out rfl rfl).mono ?_; rintro e w4 ⟨rfl, h4⟩
      go_wp2_with fail
      refine (Valid_at h4 u q5.out.1 G3.out).mono ?_; rintro e w5 ⟨rfl, h5⟩
      go_wp2_with fail
      refine (Valid_at h5 (u ++ [255]) q5.out.2 G4.out).mono ?_; rintro e w6 ⟨rfl, h6⟩
      go_wp2_with fail
      have b1 : W0.heap.size < W2.heap.size := (Array.getElem?_eq_some_iff.1 HRr.out).1
      have b2 : w1.heap.size < W2.heap.size := (Array.getElem?_eq_some_iff.1 HMr.out).1
      have b3 := (h6.block _ b1).trans HRr.out
      have b4 : Hid (w6.iterSeen W0.heap.size = seen.push e.born) := by unfold Hid World.iterSeen; rw [b3]
      have B5 := Lib.hid (HBr.out.trans (h6.mono HBr.out.size))
      go_roundw
      case rel => exact ⟨seen.push e.born, b3, (h6.block _ b2).trans HMr.out, B5.out⟩
      case measure =>
        rw [HI.out, b4.out]
        exact HE.out
end Go.Proofs.Ytcoapfnfnlfleaa
