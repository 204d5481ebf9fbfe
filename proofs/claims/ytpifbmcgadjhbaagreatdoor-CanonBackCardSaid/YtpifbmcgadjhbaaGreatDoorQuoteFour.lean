/-
  What join and four come to: the number of four digits.
-/
import Derived.Test.YtpifbmcgadjhbaaGreatDoorQuoteDig
import Derived.Lib.QuoteBits
namespace Go.Proofs.YtpifbmcgadjhbaaGreatDoor
open Go.RowKit

namespace Qm
def val (ds : List Nat) : Nat := ds.foldl (fun a d => 16 * a + d) 0
theorem val_snoc (ds : List Nat) (d : Nat) : val (ds ++ [d]) = 16 * val ds + d := by simp [val]
theorem val_lt : ∀ (ds : List Nat) (a : Nat), (∀ d ∈ ds, d < 16) → ds.foldl (fun a d => 16 * a + d) a < (a + 1) * 16 ^ ds.length
  | [], a, _ => by simp
  | d :: ds, a, h => by
    have hd := h d (List.mem_cons_self ..)
    refine Nat.lt_of_lt_of_le (val_lt ds (16 * a + d) (fun x hx => h x (List.mem_cons_of_mem _ hx))) ?_
    rw [List.length_cons, Nat.pow_succ, Nat.mul_comm (16 ^ _) 16, ← Nat.mul_assoc]
    exact Nat.mul_le_mul_right _ (by omega)
theorem val_bd (ds : List Nat) (h : ∀ d ∈ ds, d < 16) (hl : ds.length ≤ 4) : val ds < 65536 := by
  have h1 := val_lt ds 0 h
  have h2 : 16 ^ ds.length ≤ 16 ^ 4 := Nat.pow_le_pow_right (by decide) hl
  unfold val
  omega
theorem val_take (ds : List Nat) (k : Nat) (h : k < ds.length) : val (ds.take (k + 1)) = 16 * val (ds.take k) + ds.getD k 0 := by
  rw [List.take_succ_eq_append_getElem h, val_snoc]
  simp [List.getD_eq_getElem?_getD, List.getElem?_eq_getElem h]
theorem or_nibble (a d : Nat) (hd : d < 16) (ha : a < 1000000) : bits .or .i64 ((a : Int) * 16) (d : Int) = ((16 * a + d : Nat) : Int) := by
  rw [show (a : Int) * 16 = ((a * 16 : Nat) : Int) by omega]
  show IntKind.i64.wrap ((BitVec.ofInt 64 ((a * 16 : Nat) : Int) ||| BitVec.ofInt 64 (d : Int)).toNat : Int) = _
  have h1 : a * 16 ||| d = 16 * a + d := by
    have := Nat.two_pow_add_eq_or_of_lt (i := 4) (b := d) (by omega) a
    rw [show 2 ^ 4 * a = 16 * a from rfl] at this
    rw [Nat.mul_comm a 16, ← this]
  rw [BitVec.toNat_or, ofInt_u64 _ (by omega), ofInt_u64 _ (by omega), h1]
  exact IntWalk.i64_in _ (by omega)
end Qm
/-- an array of four whose first cells hold ds -/
def DG (ds : List Nat) : Array Value := ((ds ++ List.replicate (4 - ds.length) 0).map fun d : Nat => Value.int .i64 (d : Int)).toArray
theorem DG_size (ds : List Nat) (h : ds.length ≤ 4) : (DG ds).size = 4 := by simp [DG]; omega
theorem DG_nil : DG [] = #[.int .i64 0, .int .i64 0, .int .i64 0, .int .i64 0] := rfl
theorem DG_at (ds : List Nat) (k : Nat) (h : k < ds.length) : (DG ds)[k]? = some (.int .i64 (ds.getD k 0 : Nat)) := by
  unfold DG
  rw [List.getElem?_toArray, List.map_append, List.getElem?_append_left (by simpa using h)]
  simp [List.getD_eq_getElem?_getD, List.getElem?_eq_getElem h]
theorem DG_set (ds : List Nat) (d : Nat) (h : ds.length < 4) : (DG ds).setIfInBounds ds.length (.int .i64 (d : Int)) = DG (ds ++ [d]) := by
  apply Array.toList_inj.1
  rw [Array.toList_setIfInBounds]
  unfold DG
  simp only [List.map_append, List.map_replicate, List.length_append, List.length_cons, List.length_nil]
  rw [List.set_append_right _ _ (by simp), List.length_map, Nat.sub_self, show 4 - ds.length = (4 - (ds.length + (0 + 1))) + 1 by omega, List.replicate_succ, List.set_cons_zero]
  simp
theorem cell_DG (w : World) (b : Nat) (ds : List Nat) (t : TypeId) (fr : Nat × Nat) (h : w.heap[b]? = some (.cells (DG ds) t fr)) (k : Nat) (hk : k < ds.length) :
    w.cell? ⟨b, k, none⟩ = some (.int .i64 (ds.getD k 0 : Nat)) := by
  rw [cell_of_row w b k _ t fr h, DG_at ds k hk]

set_option maxHeartbeats 400000 in
theorem join_any (ds : List Nat) (b : Nat) (w : World) (fr : Nat × Nat) (h : w.heap[b]? = some (.cells (DG ds) 210 fr)) (hl : ds.length = 4) (hd : ∀ d ∈ ds, d < 16) :
    Calls Tryz.prog 204 #[.slice (some ⟨b, 0, none⟩) 4 4] w fun e w' => e = .returned (.int .i64 (Qm.val ds : Int)) ∧ w = w' := by
  have H := Lib.hid h
  have HL := Lib.hid hl
  have HD := Lib.hid hd
  clear h hl hd
  go_enter Tryz.func204, Tryz.ntmps204
  go_wp2_with fail
  go_loop [3, 5, 8] (fun n _ i => ∃ k : Nat, k ≤ 4 ∧ i = .int .i64 (k : Int) ∧ n = .int .i64 (Qm.val (ds.take k) : Int)) (fun _ _ i => 4 - (intOf i).toNat)
  case atStart => exact ⟨0, by omega, rfl, rfl⟩
  case round =>
    obtain ⟨k, hk, rfl, rfl⟩ := hrel
    by_cases hlt : k < 4
    · have c1 := cell_DG w b ds _ _ H.out k (by have := HL.out; omega)
      have hdd : ds.getD k 0 < 16 := by
        rw [List.getD_eq_getElem?_getD, List.getElem?_eq_getElem (by have := HL.out; omega)]
        exact HD.out _ (List.getElem_mem _)
      have hv := Qm.val_bd (ds.take k) (fun d h => HD.out d (List.mem_of_mem_take h)) (by rw [List.length_take]; omega)
      have hs := Qm.val_take ds k (by have := HL.out; omega)
      have ho := Qm.or_nibble (Qm.val (ds.take k)) (ds.getD k 0) hdd (by omega)
      rw [← hs] at ho
      clear hs
      obtain ⟨a', ha⟩ : ∃ a', a' = Qm.val (ds.take (k + 1)) := ⟨_, rfl⟩
      rw [← ha] at ho
      have HA := Lib.hid ha
      clear ha
      generalize ds.getD k 0 = d at *
      generalize Qm.val (ds.take k) = a at *
      go_wp2_with fail
      go_round
      case rel => exact ⟨k + 1, by omega, by go_num, by rw [HA.out]⟩
      case measure => simp [intOf]; omega
    · obtain rfl : k = 4 := by omega
      have hE : Hid (Qm.val (ds.take 4) = Qm.val ds) := by unfold Hid; rw [List.take_of_length_le (by have := HL.out; omega)]
      go_wp2_with fail
      go_ret
      exact ⟨by rw [hE.out]; rfl, rfl⟩

theorem len4i : Tryz.prog.arrayLen 210 = 4 := by kernel_rfl
theorem elem4i : Tryz.prog.elem 210 = 3 := by kernel_rfl
theorem und4i : Tryz.prog.underlying 210 = some (.array (Tryz.prog.arrayLen 210) (Tryz.prog.elem 210)) := by kernel_rfl
theorem sizei (w : World) : (sizeOf 3).run Tryz.prog w = .ok 1 w := by kernel_rfl
/-- x[:] of an array of four -/
theorem cutDG (W : World) (B : Nat) :
    (Instr.sliceAt 210 (.pointer (some ⟨B, 0, none⟩)) none none none).run Tryz.prog W = .ok (.slice (some ⟨B, 0, none⟩) 4 4) W := by
  rw [run_sliceAt_array_all W 210 ⟨B, 0, none⟩ und4i, elem4i, sizei, len4i]
  simp only [Result.andThen, slicedAt]
  rw [if_neg (by omega)]
  have ha : (⟨B, 0, none⟩ : Addr).add (0 * 1) = ⟨B, 0, none⟩ := by unfold Addr.add; split <;> simp_all
  rw [ha]
set_option maxRecDepth 100000 in
set_option maxHeartbeats 800000 in
theorem four_any (l : List UInt8) (p : Nat) (w : World) (hp : p ≤ l.length) (hl : l.length ≤ 100000000) (hT : Tab w) :
    Calls Tryz.prog 196 #[.string (S l), .int .i64 (p : Int)] w fun e w' =>
      (∃ n : Nat, Qm.f4 (l.drop p) = (n, 0) ∧ e = .returned (.tuple #[.int .i64 (n : Int), .int .i64 ((p + 4 : Nat) : Int), .int .i64 0]) ∧ Below w.heap.size w w')
      ∨ (∃ c : Nat, c ≠ 0 ∧ Qm.f4 (l.drop p) = (0, c) ∧ e = .returned (.tuple #[.int .i64 0, .int .i64 0, .int .i64 (c : Int)]) ∧ Below w.heap.size w w') := by
  have z1 := S_size l
  have hat := S_at l
  have hcut := cutDG
  have hB := hT.lt
  have H0 : Hid ((w.alloc (.cells (DG []) 210 (0, 0))).heap[w.heap.size]? = some (.cells (DG []) 210 (0, 0))) := heap_alloc_new w _
  rw [DG_nil] at H0
  go_enter Tryz.func196, Tryz.ntmps196
  go_wp2_with fail
  go_loopw [1, 8, 9, 10, 11] (fun at' _ _ _ i wr => ∃ (k q : Nat) (ds : List Nat), k ≤ 4 ∧ i = .int .i64 (k : Int) ∧ at' = .int .i64 (q : Int) ∧ Hid (q = p + k) ∧ q ≤ l.length ∧ Hid (ds.length = k) ∧ Hid (∀ d ∈ ds, d < 16)
      ∧ Hid (wr.heap[w.heap.size]? = some (.cells (DG ds) 210 (0, 0))) ∧ Hid (Qm.f4 (l.drop p) = Qm.hexs (4 - k) (l.drop q) (Qm.val ds)) ∧ Below w.heap.size w wr) (fun _ _ _ _ i _ => 4 - (intOf i).toNat)
  case atStart => exact ⟨0, p, [], by omega, rfl, rfl, rfl, by omega, rfl, fun d hd => (List.not_mem_nil hd).elim, H0, rfl, (Below.refl _ _).alloc (Nat.le_refl _) _⟩
  case round =>
    clear H0
    obtain ⟨k, q, ds, hk, rfl, rfl, HQ, hq, HL, HD, HC, HF, hbel⟩ := hrel
    have hsz := hbel.size
    by_cases hlt : k < 4
    · have hf4 : Hid (4 - k = (3 - k) + 1) := by unfold Hid; omega
      by_cases hin : q < l.length
      · obtain ⟨c, t, hc⟩ := drop_at hin
        obtain ⟨_, hb, ht⟩ := at_drop hc
        have hT' := hT.below hbel hB
        by_cases hdB : Qm.dB c = true
        · have HF' : Hid (Qm.f4 (l.drop p) = Qm.hexs (4 - (k + 1)) (l.drop (q + 1)) (Qm.val (ds ++ [Qm.dV c]))) := by
            unfold Hid
            rw [HF.out, hf4.out, hc, Qm.hexs, if_pos hdB, Qm.val_snoc, ht, show 4 - (k + 1) = 3 - k by omega]
          have HL' : Hid ((ds ++ [Qm.dV c]).length = k + 1) := by unfold Hid; rw [List.length_append, HL.out]; rfl
          have HD' : Hid (∀ d ∈ ds ++ [Qm.dV c], d < 16) := by
            intro d hd
            rcases List.mem_append.1 hd with h | h
            · exact HD.out d h
            · rw [List.mem_singleton.1 h]; exact Qm.dV_lt c
          have hds : (DG ds).size = 4 := DG_size ds (by have := HL.out; omega)
          have hset := DG_set ds (Qm.dV c) (by have := HL.out; omega)
          rw [HL.out] at hset
          have HSET := Lib.hid hset
          have HDS := Lib.hid hds
          generalize ds ++ [Qm.dV c] = ds' at *
          have hblt : w.heap.size < wr.heap.size := (Array.getElem?_eq_some_iff.1 HC.out).1
          clear hc ht hds hset HF HL HD hf4
          go_wp2_with fail
          refine (qdigit_any c _ hT').mono ?_; rintro e w1 ⟨rfl, h1⟩
          rw [hdB]
          have HC1 : Hid (w1.heap[w.heap.size]? = some (.cells (DG ds) 210 (0, 0))) := (h1.block _ hblt).trans HC.out
          have g1 : w1.cell? ⟨w.heap.size, k, none⟩ = some ((DG ds)[k]'(by rw [HDS.out]; omega)) := by rw [cell_of_row w1 _ k _ _ _ HC1.out]; exact Array.getElem?_eq_getElem _
          have g2 : w1.frozen? ⟨w.heap.size, k, none⟩ = false := by have := HC1.out; simp [World.frozen?, this]
          have HC2 : Hid ((w1.setCell ⟨w.heap.size, k, none⟩ (.int .i64 (Qm.dV c : Int))).heap[w.heap.size]? = some (.cells (DG ds') 210 (0, 0))) := by
            have := HC1.out
            rw [← HSET.out]
            simp [Hid, World.setCell, Array.getElem?_modify, this]
          have hb2 : Below w.heap.size w (w1.setCell ⟨w.heap.size, k, none⟩ (.int .i64 (Qm.dV c : Int))) := (hbel.trans (h1.mono hsz)).setCell (Nat.le_refl _) _
          clear HC h1 HC1
          go_wp2_with fail
          go_roundw
          case rel => exact ⟨k + 1, q + 1, ds', by omega, by go_num, by go_num, by have := HQ.out; unfold Hid; omega, by omega, HL', HD', HC2, HF', hb2⟩
          case measure => simp [intOf]; omega
        · have HF' : Hid (Qm.f4 (l.drop p) = (0, 3)) := by
            unfold Hid
            rw [HF.out, hf4.out, hc, Qm.hexs, if_neg hdB]
          have hdB' : Qm.dB c = false := by simpa using hdB
          clear hc ht hdB
          go_wp2_with fail
          refine (from_ hbel (qdigit_any c _ hT')).mono ?_; rintro e w1 ⟨rfl, h1⟩
          rw [hdB']
          go_wp2_with fail
          go_ret3
          exact .inr ⟨3, by decide, HF'.out, rfl, h1⟩
      · have HF' : Hid (Qm.f4 (l.drop p) = (0, 4)) := by
          unfold Hid
          rw [HF.out, hf4.out, bt_nil l q (by omega), Qm.hexs]
        obtain rfl : q = l.length := by omega
        clear hf4
        go_wp2_with fail
        go_ret3
        exact .inr ⟨4, by decide, HF'.out, rfl, hbel⟩
    · obtain rfl : k = 4 := by omega
      have HF' : Hid (Qm.f4 (l.drop p) = (Qm.val ds, 0)) := by
        unfold Hid
        rw [HF.out, Nat.sub_self, Qm.hexs]
      have hq4 : (q : Int) = ((p + 4 : Nat) : Int) := by have := HQ.out; omega
      have HQ4 := Lib.hid hq4
      clear hq4
      go_wp2_with fail
      refine (join_any ds _ _ _ HC.out HL.out HD.out).mono ?_; rintro e w1 ⟨rfl, rfl⟩
      go_wp2_with fail
      go_ret3
      exact .inl ⟨_, HF'.out, by rw [← HQ4.out]; rfl, hbel⟩
end Go.Proofs.YtpifbmcgadjhbaaGreatDoor
