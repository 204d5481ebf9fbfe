/-
  What mac.block, mac.Block, mac.xor and mac.combine come to.
-/
import Derived.Test.YtnlkmbbgcellfaaDoorMacRow
import Derived.Test.YtnlkmbbgcellfaaDoorShaAt
import Derived.Deep.DrawnRows
namespace Go.Proofs.YtnlkmbbgcellfaaDoor
open Go.RowKit

namespace Mm
/-- what of a key goes into its block -/
def kk (l : List UInt8) : List UInt8 := if 64 < l.length then Sm.sha l else l
/-- the block of a key -/
def blk (l : List UInt8) : List UInt8 := kk l ++ List.replicate (64 - (kk l).length) 0
theorem kk_le (l : List UInt8) : (kk l).length ≤ 64 := by
  unfold kk
  split
  · rw [Sm.sha_length]; omega
  · omega
theorem blk_length (l : List UInt8) : (blk l).length = 64 := by
  have := kk_le l
  simp [blk]; omega
/-- a row of 64 bytes behind k rounds -/
def out (l : List UInt8) (x : UInt8) (k : Nat) : List UInt8 := xr (l.take k) x ++ List.replicate (64 - k) 0
theorem out_length (l : List UInt8) (x : UInt8) (k : Nat) (h : l.length = 64) (hk : k ≤ 64) : (out l x k).length = 64 := by simp [out, xr]; omega
theorem out_zero (l : List UInt8) (x : UInt8) : out l x 0 = List.replicate 64 0 := by simp [out, xr]
theorem out_full (l : List UInt8) (x : UInt8) (h : l.length = 64) : out l x 64 = xr l x := by simp [out, ← h]
theorem out_set (l : List UInt8) (x : UInt8) (k : Nat) (hl : l.length = 64) (h : k < 64) : (out l x k).set k (l.getD k 0 ^^^ x) = out l x (k + 1) := by
  unfold out
  have h1 : (xr (l.take k) x).length = k := by simp [xr]; omega
  have h2 : k < l.length := by omega
  rw [List.set_append_right _ _ (by omega), h1, Nat.sub_self, show 64 - k = (64 - (k + 1)) + 1 by omega, List.replicate_succ, List.set_cons_zero, List.take_succ_eq_append_getElem h2]
  unfold xr
  rw [List.map_append, List.append_assoc]
  simp [List.getD_eq_getElem?_getD, List.getElem?_eq_getElem h2]
/-- a round: the byte, and what it comes to, each by a name -/
theorem out_round (l : List UInt8) (x : UInt8) (k : Nat) (hl : l.length = 64) (h : k < 64) : ∃ c v : UInt8, Sm.byte l k = c.toNat ∧ c ^^^ x = v ∧ (out l x k).set k v = out l x (k + 1) :=
  ⟨_, _, rfl, rfl, out_set l x k hl h⟩
end Mm
def Z64b : List UInt8 := List.replicate 64 0
theorem zero_64b (w : World) : (zeroValue 34).run Tryd.prog w = .ok (.agg (AB Z64b)) w := by kernel_rfl
theorem info64b : (Tryd.prog.info? 34).map (·.size) = some 64 := by kernel_rfl
/-- x[:] of an array of 64 bytes -/
theorem cutAll (W : World) (B : Nat) :
    (Instr.sliceAt 34 (.pointer (some ⟨B, 0, none⟩)) none none none).run Tryd.prog W = .ok (.slice (some ⟨B, 0, none⟩) 64 64) W := by
  rw [run_sliceAt_array_all W 34 ⟨B, 0, none⟩ und64b, elem64b, sizeb, len64b]
  simp only [Result.andThen, slicedAt]
  rw [if_neg (by omega)]
  have ha : (⟨B, 0, none⟩ : Addr).add (0 * 1) = ⟨B, 0, none⟩ := by unfold Addr.add; split <;> simp_all
  rw [ha]
theorem idx_AB64 (l : List UInt8) (w : World) (k : Nat) (hl : l.length = 64) (h : k < 64) : (Instr.index 34 (.agg (AB l)) (.int .i64 (k : Int))).run Tryd.prog w = .ok (.int .u8 ((Sm.byte l k : Nat) : Int)) w := by
  have h1 := AB_at l k (by omega)
  have hs : (sizeOf 5).run Tryd.prog w = .ok 1 w := by kernel_rfl
  have hu : Tryd.prog.underlying 34 = some (.array 64 5) := by kernel_rfl
  have e1 : (0 : Int) ≤ (k : Int) ∧ (k : Int) < (64 : Nat) := by omega
  have e2 : ¬ 64 ≤ k := by omega
  simp [Instr.index, asIntOf, run_underlying hu, Sem.run_bind, e1, hs, part, h1, e2]

/-- copy into a row of zeros -/
theorem wpList_copy_zeros {ops : Array Oper} {rl : List Oper} {o : Oper} {a : Act} {w : World} {Q : Exit → Act → World → Prop} (hgd : o.guard = none) (d x : Operand)
    (ho : o.op = .call { callee := .builtin .copy, args := #[d, x], argTypes := #[31, 9] })
    (b : Nat) (R : List UInt8) (hd : a.eval d = .slice (some ⟨b, 0, none⟩) 64 64) (hx : a.eval x = .string (S R)) (hR : R.length ≤ 64)
    (hg : w.heap[b]? = some (.cells (AB Z64b) 34 (0, 0)))
    (h : ∀ w1, Hid (w1.heap[b]? = some (.cells (AB (R ++ List.replicate (64 - R.length) 0)) 34 (0, 0))) → Kp b w w1 → wpList Tryd.prog ops Q rl (a.put o.dst (.int .i64 (R.length : Int))) w1) : wpList Tryd.prog ops Q (o :: rl) a w := by
  refine wpList_copy_str hgd d x _ _ ho 5 Tryd.underlying31 (by kernel_rfl) b 0 64 64 (S R) hd hx _ _ hg R.length (by rw [S_size]; exact (Nat.min_eq_left hR).symm) (by rw [AB_size]; simpa [Z64b] using hR) ?_
  have e : ((AB Z64b).toList.take 0 ++ V ((S R).data.toList.take R.length) ++ (AB Z64b).toList.drop (0 + R.length)).toArray = AB (R ++ List.replicate (64 - R.length) 0) := by
    have hd : (V Z64b).drop R.length = V (List.replicate (64 - R.length) 0) := by
      rw [V, ← List.map_drop, Z64b, List.drop_replicate]; rfl
    rw [S_data, List.take_of_length_le (Nat.le_refl _), Nat.zero_add]
    show (List.take 0 (V Z64b) ++ V R ++ (V Z64b).drop R.length).toArray = AB (R ++ List.replicate (64 - R.length) 0)
    rw [hd]
    simp [AB, V]
  rw [e]
  exact h _ (setRow_heap w b _ _ _ _ hg) (Kp.setRow b w _)

theorem sum_l {w0 w : World} (h : Below w0.heap.size w0 w) (hT : Tabs w0) (l : List UInt8) (hl : l.length ≤ 900000000) :
    Calls Tryd.prog 16 #[.string (S l)] w fun e w' => e = .returned (.string (S (Sm.sha l))) ∧ Below w0.heap.size w0 w' ∧ Below w.heap.size w w' :=
  fsum_at h hT (S l) (by rw [S_size]; exact hl)

theorem row_past {w : World} {b : Nat} {o c : Obj} (h : w.heap[b]? = some o) : (w.alloc c).heap[b]? = some o :=
  (((Below.refl w.heap.size w).alloc (Nat.le_refl _) c).block b (Array.getElem?_eq_some_iff.1 h).1).trans h
set_option maxRecDepth 100000 in
set_option maxHeartbeats 800000 in
theorem block_any (l : List UInt8) (w : World) (hT : Tabs w) (hl : l.length ≤ 900000000) :
    Calls Tryd.prog 18 #[.string (S l)] w fun e w' => e = .returned (.agg (AB (Mm.blk l))) ∧ Below w.heap.size w w' := by
  have hz := zero_64b
  have hcut := cutAll
  have h0 : Below w.heap.size w (w.alloc (.cells (AB Z64b) 34)) := (Below.refl _ _).alloc (Nat.le_refl _) _
  have HA : Hid ((w.alloc (.cells (AB Z64b) 34)).heap[w.heap.size]? = some (.cells (AB Z64b) 34 (0, 0))) := heap_alloc_new w _
  by_cases hk : 64 < l.length
  · have HK : Hid (Mm.kk l = Sm.sha l) := by unfold Mm.kk Hid; rw [if_pos hk]
    have hd : (64 : Int) < ((S l).size : Int) := by rw [S_size]; omega
    go_enter Tryd.func18, Tryd.ntmps18
    go_wp2_with fail
    refine (sum_l h0 hT l hl).mono ?_; rintro e w1 ⟨rfl, h1, b1⟩
    have HA1 : Hid (w1.heap[w.heap.size]? = some (.cells (AB Z64b) 34 (0, 0))) := (b1.block _ (Array.getElem?_eq_some_iff.1 HA.out).1).trans HA.out
    have hlt : w.heap.size < w1.heap.size := (Array.getElem?_eq_some_iff.1 HA1.out).1
    clear HA b1 h0
    have HN : Hid ((w1.alloc (.cells (AB Z64b) 34)).heap[w1.heap.size]? = some (.cells (AB Z64b) 34 (0, 0))) := heap_alloc_new w1 _
    have HB : Hid (Below w.heap.size w (w1.alloc (.cells (AB Z64b) 34))) := h1.alloc (Nat.le_of_lt hlt) _
    have HA2 : Hid ((w1.alloc (.cells (AB Z64b) 34)).heap[w.heap.size]? = some (.cells (AB Z64b) 34 (0, 0))) := row_past HA1.out
    have hq : (Sm.sha l).length ≤ 64 := by rw [Sm.sha_length]; omega
    have hne : w.heap.size ≠ w1.heap.size := Nat.ne_of_lt hlt
    go_wp2_with (first
      | (refine wpList_copy_zeros (by rfl) _ _ (by rfl) w1.heap.size (Sm.sha l) (by rfl) (by rfl) hq (by exact HN.out) ?_
         intro w2 HN2 k2
         have HA3 : Hid (w2.heap[w.heap.size]? = some (.cells (AB Z64b) 34 (0, 0))) := (k2.block _ hne (Array.getElem?_eq_some_iff.1 HA2.out).1).trans HA2.out
         have HB3 : Hid (Below w.heap.size w w2) := Kp.below HB.out k2 (Nat.le_of_lt hlt)
         have HE : Hid (w2.heap[w1.heap.size]? = some (.cells (AB (Mm.blk l)) 34 (0, 0))) := by
           unfold Mm.blk Hid; rw [HK.out]; exact HN2.out
         clear HN2 k2)
      | (refine wpList_load_row (by rfl) 34 _ (by rfl) w1.heap.size (by rfl) 34 _ (0, 0) _ HE.out Tryd.underlying34 (by rfl) (by rw [AB_size, Mm.blk_length]; exact info64b) ?_)
      | (refine wpList_store_row (by rfl) 34 _ _ (by rfl) w.heap.size _ (by rfl) (by rfl) 34 _ HA3.out (by rw [AB_size, Mm.blk_length]; exact info64b) (by rw [AB_size, AB_size, Mm.blk_length]; rfl) (AB_one _) ?_))
    refine bodyPost_ret (results_cell_row (by rfl) _ _ w.heap.size 34 _ (0, 0) _ (by rfl) (setRow_heap _ _ _ _ _ _ HA3.out) Tryd.underlying34 (by rfl) (by rw [AB_size, Mm.blk_length]; exact info64b)) rfl ?_
    exact ⟨rfl, below_setRow HB3.out (Nat.le_refl _) _⟩
  · have HK : Hid (Mm.kk l = l) := by unfold Mm.kk Hid; rw [if_neg hk]
    have hd : ¬ (64 : Int) < ((S l).size : Int) := by rw [S_size]; omega
    have hlt : w.heap.size < w.heap.size + 1 := Nat.lt_succ_self _
    have hsz : (w.alloc (.cells (AB Z64b) 34)).heap.size = w.heap.size + 1 := by simp
    have HN : Hid (((w.alloc (.cells (AB Z64b) 34)).alloc (.cells (AB Z64b) 34)).heap[w.heap.size + 1]? = some (.cells (AB Z64b) 34 (0, 0))) := by
      have := heap_alloc_new (w.alloc (.cells (AB Z64b) 34)) (.cells (AB Z64b) 34)
      rw [hsz] at this
      exact this
    have HB : Hid (Below w.heap.size w ((w.alloc (.cells (AB Z64b) 34)).alloc (.cells (AB Z64b) 34))) := h0.alloc (by rw [hsz]; exact Nat.le_of_lt hlt) _
    have HA2 : Hid (((w.alloc (.cells (AB Z64b) 34)).alloc (.cells (AB Z64b) 34)).heap[w.heap.size]? = some (.cells (AB Z64b) 34 (0, 0))) := row_past HA.out
    have hq : l.length ≤ 64 := by omega
    clear HA h0
    go_enter Tryd.func18, Tryd.ntmps18
    have hne : w.heap.size ≠ (w.heap.size + 1) := Nat.ne_of_lt hlt
    go_wp2_with (first
      | (refine wpList_copy_zeros (by rfl) _ _ (by rfl) (w.heap.size + 1) (l) (by rfl) (by rfl) hq (by exact HN.out) ?_
         intro w2 HN2 k2
         have HA3 : Hid (w2.heap[w.heap.size]? = some (.cells (AB Z64b) 34 (0, 0))) := (k2.block _ hne (Array.getElem?_eq_some_iff.1 HA2.out).1).trans HA2.out
         have HB3 : Hid (Below w.heap.size w w2) := Kp.below HB.out k2 (Nat.le_of_lt hlt)
         have HE : Hid (w2.heap[(w.heap.size + 1)]? = some (.cells (AB (Mm.blk l)) 34 (0, 0))) := by
           unfold Mm.blk Hid; rw [HK.out]; exact HN2.out
         clear HN2 k2)
      | (refine wpList_load_row (by rfl) 34 _ (by rfl) (w.heap.size + 1) (by rfl) 34 _ (0, 0) _ HE.out Tryd.underlying34 (by rfl) (by rw [AB_size, Mm.blk_length]; exact info64b) ?_)
      | (refine wpList_store_row (by rfl) 34 _ _ (by rfl) w.heap.size _ (by rfl) (by rfl) 34 _ HA3.out (by rw [AB_size, Mm.blk_length]; exact info64b) (by rw [AB_size, AB_size, Mm.blk_length]; rfl) (AB_one _) ?_))
    refine bodyPost_ret (results_cell_row (by rfl) _ _ w.heap.size 34 _ (0, 0) _ (by rfl) (setRow_heap _ _ _ _ _ _ HA3.out) Tryd.underlying34 (by rfl) (by rw [AB_size, Mm.blk_length]; exact info64b)) rfl ?_
    exact ⟨rfl, below_setRow HB3.out (Nat.le_refl _) _⟩
end Go.Proofs.YtnlkmbbgcellfaaDoor
