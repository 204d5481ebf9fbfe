/-
  What mac.Block, mac.xor and mac.combine come to.
-/
import Derived.Test.YtnlkmbbgcellfaaDoorMacBlock
namespace Go.Proofs.YtnlkmbbgcellfaaDoor
open Go.RowKit

set_option maxRecDepth 100000 in
set_option maxHeartbeats 800000 in
theorem Block_any (l : List UInt8) (w : World) (hT : Tabs w) (hl : l.length ≤ 900000000) :
    Calls Tryd.prog 13 #[.string (S l)] w fun e w' => e = .returned (.string (S (Mm.blk l))) ∧ Below w.heap.size w w' := by
  have hz := zero_64b
  have hcut := cutAll
  go_enter Tryd.func13, Tryd.ntmps13
  go_wp2_with fail
  refine (block_any l w hT hl).mono ?_; rintro e w1 ⟨rfl, h1⟩
  have HN : Hid ((w1.alloc (.cells (AB Z64b) 34)).heap[w1.heap.size]? = some (.cells (AB Z64b) 34 (0, 0))) := heap_alloc_new w1 _
  have HB : Hid (Below w.heap.size w ((w1.alloc (.cells (AB Z64b) 34)).setRow w1.heap.size (AB (Mm.blk l)))) := below_setRow (h1.alloc h1.size _) h1.size _
  have hcv := conv_rowp _ w1.heap.size 64 _ 64 _ _ (setRow_heap (w1.alloc (.cells (AB Z64b) 34)) w1.heap.size _ (AB (Mm.blk l)) _ _ HN.out) (by rw [Mm.blk_length]; exact Nat.le_refl _) (Mm.blk l) (List.take_of_length_le (by rw [Mm.blk_length]; exact Nat.le_refl _))
  go_wp2_with (refine wpList_store_row (by rfl) 34 _ _ (by rfl) w1.heap.size _ (by rfl) (by rfl) 34 _ HN.out (by rw [AB_size, Mm.blk_length]; exact info64b) (by rw [AB_size, AB_size, Mm.blk_length]; rfl) (AB_one _) ?_)
  go_ret
  exact ⟨rfl, HB.out⟩

/-- the function that mac.xor hands back -/
def Xf (b : Nat) : Value := .func (.func 26) #[] #[.pointer (some ⟨b, 0, none⟩)]
/-- v is a function that does c ^ x -/
def Xo (x : UInt8) (w : World) (v : Value) : Prop := ∃ b, v = Xf b ∧ w.cell? ⟨b, 0, none⟩ = some (.int .u8 (x.toNat : Int))
theorem Xo.below {x : UInt8} {w w' : World} {v : Value} (h : Xo x w v) (hb : Below w.heap.size w w') : Xo x w' v := by
  obtain ⟨b, h1, h2⟩ := h
  exact ⟨b, h1, (hb.cell (World.block_lt_of_cell? w _ h2)).trans h2⟩
set_option maxHeartbeats 400000 in
theorem xor_any (x : UInt8) (w : World) :
    Calls Tryd.prog 20 #[.int .u8 (x.toNat : Int)] w fun e w' => ∃ v, e = .returned v ∧ Xo x w' v ∧ Below w.heap.size w w' := by
  have hmf : ∀ (fn : Fn) (first cap : Array Value) (w : World), (Instr.makeFunc fn first cap).run Tryd.prog w = .ok (.func fn first cap) w := fun _ _ _ _ => rfl
  have hc : (w.alloc (.cells #[.int .u8 (x.toNat : Int)] 5)).cell? ⟨w.heap.size, 0, none⟩ = some (.int .u8 (x.toNat : Int)) := by
    rw [cell_of_row _ _ 0 _ _ _ (heap_alloc_new w _)]; rfl
  have HC := Lib.hid hc
  clear hc
  go_enter Tryd.func20, Tryd.ntmps20
  go_wp2_with fail
  go_ret
  exact ⟨_, rfl, ⟨w.heap.size, rfl, HC.out⟩, (Below.refl _ _).alloc (Nat.le_refl _) _⟩
set_option maxHeartbeats 400000 in
theorem xor1_any (b : Nat) (c x v : UInt8) (w : World) (hv : c ^^^ x = v) (h : w.cell? ⟨b, 0, none⟩ = some (.int .u8 (x.toNat : Int))) :
    Calls Tryd.prog 26 #[.int .u8 (c.toNat : Int), .pointer (some ⟨b, 0, none⟩)] w fun e w' => e = .returned (.int .u8 (v.toNat : Int)) ∧ w = w' := by
  subst hv
  obtain ⟨v, hv⟩ : ∃ v, v = c ^^^ x := ⟨_, rfl⟩
  have rX := Mm.xor_byte c x
  rw [← hv] at rX
  rw [← hv]
  clear hv
  go_enter Tryd.func26, Tryd.ntmps26
  go_wp2_with fail
  go_ret
  exact ⟨rfl, rfl⟩

set_option maxRecDepth 100000 in
set_option maxHeartbeats 800000 in
theorem combine_any (l : List UInt8) (x : UInt8) (b : Nat) (w : World) (hl : l.length = 64) (h : w.cell? ⟨b, 0, none⟩ = some (.int .u8 (x.toNat : Int))) :
    Calls Tryd.prog 19 #[.agg (AB l), Xf b] w fun e w' => e = .returned (.string (S (Mm.xr l x))) ∧ Below w.heap.size w w' := by
  have hb := World.block_lt_of_cell? w _ h
  have hz := zero_64b
  have hcut := cutAll
  obtain ⟨W, hW⟩ : ∃ W, W = (w.alloc (.cells (AB l) 34)).alloc (.cells (AB Z64b) 34) := ⟨_, rfl⟩
  have hs : (w.alloc (.cells (AB l) 34)).heap.size = w.heap.size + 1 := by simp
  have H1 : Hid (W.heap[w.heap.size]? = some (.cells (AB l) 34 (0, 0))) := by rw [hW]; exact row_past (heap_alloc_new w _)
  have H2 : Hid (W.heap[w.heap.size + 1]? = some (.cells (AB (Mm.out l x 0)) 34 (0, 0))) := by
    have := heap_alloc_new (w.alloc (.cells (AB l) 34)) (.cells (AB Z64b) 34)
    rw [hs] at this
    rw [hW, Mm.out_zero]
    exact this
  have HB : Hid (Below w.heap.size w W) := by rw [hW]; exact ((Below.refl _ _).alloc (Nat.le_refl _) _).alloc (by rw [hs]; exact Nat.le_succ _) _
  go_enter Tryd.func19, Tryd.ntmps19
  unfold Xf
  go_wp2_with (refine wpList_load_row (by rfl) 34 _ (by rfl) w.heap.size (by rfl) 34 _ (0, 0) _ (by rw [hW] at H1; exact H1.out) Tryd.underlying34 (by rfl) (by rw [AB_size, hl]; exact info64b) ?_)
  rw [← hW]
  clear hW H1
  go_loopw [6, 7, 9] (fun _ _ i wr => ∃ k : Nat, k ≤ 64 ∧ i = .int .i64 k ∧ Hid (wr.heap[w.heap.size + 1]? = some (.cells (AB (Mm.out l x k)) 34 (0, 0))) ∧ Below w.heap.size w wr) (fun _ _ i _ => 64 - (intOf i).toNat)
  case atStart => exact ⟨0, by omega, rfl, H2, HB.out⟩
  case round =>
    clear H2 HB
    obtain ⟨k, hk, rfl, HR, hbel⟩ := hrel
    by_cases hlt : k < 64
    · obtain ⟨c, v, hc, hv, hset⟩ := Mm.out_round l x k hl hlt
      have hi := fun w => idx_AB64 l w k hl hlt
      rw [hc] at hi
      clear hc
      have hcell := cell_AB wr _ _ _ _ HR.out k (by rw [Mm.out_length l x k hl hk]; exact hlt)
      have hf := frozen_of_row wr _ k _ _ HR.out
      have HS := Lib.hid (hset ▸ set_AB wr _ _ _ _ HR.out k v)
      have HB := hbel.setCell (p := ⟨w.heap.size + 1, k, none⟩) (Nat.le_succ _) (.int .u8 (v.toNat : Int))
      have hx := Lib.hid ((hbel.cell (p := ⟨b, 0, none⟩) hb).trans h)
      clear hset
      have HV := Lib.hid hv
      clear hv
      go_wp2_with fail
      refine (xor1_any b c x v wr HV.out hx.out).mono ?_; rintro e w1 ⟨rfl, rfl⟩
      go_wp2_with fail
      go_roundw
      case rel => exact ⟨k + 1, by omega, by go_num, HS, HB⟩
      case measure => simp [intOf]; omega
    · obtain rfl : k = 64 := by omega
      have hcv := conv_rowp wr (w.heap.size + 1) 64 _ 64 _ _ HR.out (by rw [Mm.out_length l x 64 hl hk]; exact Nat.le_refl _) (Mm.xr l x) (by rw [List.take_of_length_le (by rw [Mm.out_length l x 64 hl hk]; exact Nat.le_refl _), Mm.out_full l x hl])
      go_wp2_with fail
      go_ret
      exact ⟨rfl, hbel⟩
end Go.Proofs.YtnlkmbbgcellfaaDoor
