/-
  The document's Sum: the padding.
-/
import Derived.Test.YtnlkmbbgcellfaaDoorShaRefV
import Derived.Deep.CutRange
import Derived.Deep.RegionHeld3
import Derived.Deep.DrawnRows
import Derived.Deep.AppendLies
namespace Go.Proofs.YtnlkmbbgcellfaaDoor
open Go.RowKit

theorem app_S (x : List UInt8) (s : ByteArray) : S x ++ s = S (x ++ s.data.toList) := by
  apply ByteArray.ext
  apply Array.toList_inj.1
  simp [S]
/-- string([]byte{x}) -/
theorem conv_one (w : World) (x : Nat) (h1 : x ≤ 255) :
    (convert 31 9 (.slice (some ⟨w.heap.size, 0, none⟩) 1 1)).run Tryd.prog (w.alloc (.cells #[.int .u8 (x : Int)] 5)) = .ok (.string (S [UInt8.ofNat x])) (w.alloc (.cells #[.int .u8 (x : Int)] 5)) := by
  have h := run_convert_bytes_back (P := Tryd.prog) (w.alloc (.cells #[.int .u8 (x : Int)] 5)) 31 9 5 ⟨w.heap.size, 0, none⟩ 1 [UInt8.ofNat x] Tryd.underlying31 Tryd.underlying5 Tryd.underlying9 ?_
  · exact h
  · intro j hj
    obtain rfl : j = 0 := by simpa using hj
    rw [show (⟨w.heap.size, 0, none⟩ : Addr).add 0 = ⟨w.heap.size, 0, none⟩ from rfl, World.cell?_alloc_mark]
    have : x % 256 = x := by omega
    simp [this]
namespace Sm
def zl (n : Nat) : Nat := plen n - 9
theorem zl_bd (n : Nat) : zl n ≤ 63 ∧ (n + 1 + zl n) % 64 = 56 := by
  have := plen_bd n
  unfold zl
  omega
/-- the text behind k zeros -/
def pre (l : List UInt8) (k : Nat) : List UInt8 := l ++ 128 :: List.replicate k 0
theorem pre_length (l : List UInt8) (k : Nat) : (pre l k).length = l.length + 1 + k := by simp [pre]; omega
theorem pre_succ (l : List UInt8) (k : Nat) : pre l k ++ [0] = pre l (k + 1) := by
  unfold pre
  rw [List.replicate_succ']
  simp
/-- and behind t bytes of the number -/
def full (l : List UInt8) (t : Nat) : List UInt8 := pre l (zl l.length) ++ (lowb (8 * l.length) 8).take t
theorem full_length (l : List UInt8) (t : Nat) (h : t ≤ 8) : (full l t).length = l.length + 1 + zl l.length + t := by
  unfold full
  rw [List.length_append, pre_length, List.length_take, lowb_length]
  omega
theorem lowb_at (m : Nat) (k t : Nat) (h : t < k) : (lowb m k)[t]? = some (UInt8.ofNat (m / 256 ^ (k - 1 - t))) := by
  induction k generalizing t with
  | zero => omega
  | succ k ih =>
    cases t with
    | zero => simp [lowb]
    | succ t => simp only [lowb, List.getElem?_cons_succ, ih t (by omega)]; congr 4; omega
theorem full_succ (l : List UInt8) (t : Nat) (h : t < 8) : full l t ++ [UInt8.ofNat (8 * l.length / 256 ^ (7 - t))] = full l (t + 1) := by
  unfold full
  rw [List.append_assoc]
  congr 1
  have := lowb_at (8 * l.length) 8 t h
  rw [List.take_add_one, this]
  rfl
theorem full_end (l : List UInt8) : full l 8 = l ++ pad l.length := by
  unfold full pre pad zl
  rw [List.take_of_length_le (by rw [lowb_length]; omega), List.append_assoc]
  rfl
end Sm

theorem Sm.Ok.chain (P : List UInt8) : ∀ n, Sm.Ok (Sm.chain P n)
  | 0 => Sm.Ok.zero
  | _ + 1 => Sm.Ok.mix _ _
theorem Sm.Ok.nth {s : Sm.St} (h : Sm.Ok s) (k : Nat) (hk : k < 8) : Sm.nth s.list k < 4294967296 :=
  Sm.eight (P := fun k => Sm.nth s.list k < 4294967296) h.1 h.2.1 h.2.2.1 h.2.2.2.1 h.2.2.2.2.1 h.2.2.2.2.2.1 h.2.2.2.2.2.2.1 h.2.2.2.2.2.2.2 k hk
theorem wrap8 (y : Nat) (h : y < 256) : IntKind.u8.wrap (y : Int) = (y : Int) := by
  have : IntKind.u8.wrap (y : Int) = (y : Int) % 256 := by simp [IntKind.wrap, IntKind.bits, IntKind.signed]
  omega
attribute [local go_sem ↓] Go.wp_at_zero Go.wp_at_succ
set_option maxRecDepth 100000 in
set_option maxHeartbeats 1600000 in
theorem refSum_any (l : List UInt8) (w : World) (hl : l.length ≤ 100000) :
    Calls Tryd.prog 21 #[.string (S l)] w fun e w' => e = .returned (.string (S (Sm.sha l))) ∧ Below w.heap.size w w' := by
  have z0 := S_size l
  have eA : S l ++ ⟨#[128]⟩ = S (Sm.pre l 0) := by rw [app_S]; rfl
  obtain ⟨zb1, zb2⟩ := Sm.zl_bd l.length
  obtain ⟨z, hz⟩ : ∃ z, z = Sm.zl l.length := ⟨_, rfl⟩
  rw [← hz] at zb1 zb2
  have HZ := Lib.hid hz
  have m1 : IntKind.u64.wrap (l.length : Int) = (l.length : Int) := by
    have : IntKind.u64.wrap (l.length : Int) = (l.length : Int) % 18446744073709551616 := by simp [IntKind.wrap, IntKind.bits, IntKind.signed]
    omega
  obtain ⟨M, hM⟩ : ∃ M, M = 8 * l.length := ⟨_, rfl⟩
  have m2 : (l.length : Int) * 8 = (M : Int) := by omega
  have m3 : IntKind.u64.wrap (M : Int) = (M : Int) := by
    have : IntKind.u64.wrap (M : Int) = (M : Int) % 18446744073709551616 := by simp [IntKind.wrap, IntKind.bits, IntKind.signed]
    omega
  have hMb : M ≤ 800000 := by omega
  have HM := Lib.hid hM
  clear hz hM
  go_enter Tryd.func21, Tryd.ntmps21
  go_wp2
  go_loop [0] (fun sv => ∃ k : Nat, k ≤ z ∧ sv = .string (S (Sm.pre l k))) (fun sv => 100100 - lenOf sv)
  case atStart => exact ⟨0, by omega, rfl⟩
  case round =>
    clear eA
    obtain ⟨k, hk, rfl⟩ := hrel
    have zk : (S (Sm.pre l k)).size = l.length + 1 + k := by rw [S_size, Sm.pre_length]
    obtain ⟨r, hr⟩ : ∃ r, r = (l.length + 1 + k) % 64 := ⟨_, rfl⟩
    have e1 : ((l.length : Int) + 1 + (k : Int)).tmod 64 = (r : Int) := by rw [Int.tmod_eq_emod_of_nonneg (by omega)]; omega
    by_cases hlt : k < z
    · have hne : ((r : Int) != 56) = true := by rw [bne_iff_ne]; omega
      have eA : S (Sm.pre l k) ++ ⟨#[0]⟩ = S (Sm.pre l (k + 1)) := by rw [app_S, ← Sm.pre_succ]
      have zk1 : (S (Sm.pre l (k + 1))).size = l.length + 1 + (k + 1) := by rw [S_size, Sm.pre_length]
      clear hr
      go_wp2
      go_round
      case rel => exact ⟨k + 1, by omega, rfl⟩
      case measure => simp only [lenOf, zk, zk1]; omega
    · obtain rfl : k = z := by omega
      have hne : ((r : Int) != 56) = false := by rw [bne_eq_false_iff_eq]; omega
      clear hr hlt
      go_wp2
      have HB0 : Below w.heap.size w w := Below.refl _ _
      go_loopw [0, 4, 5, 6] (fun sv iv _ _ wr => ∃ t q : Nat, t + q = 8 ∧ iv = .int .i64 ((q : Int) - 1) ∧ sv = .string (S (Sm.full l t)) ∧ Below w.heap.size w wr) (fun _ iv _ _ _ => (intOf iv + 1).toNat)
      case atStart => exact ⟨0, 8, rfl, rfl, by rw [HZ.out]; unfold Sm.full; rw [List.take_zero, List.append_nil], HB0⟩
      case round =>
        clear HB0 hne e1 zk
        obtain ⟨t, q, htq, rfl, rfl, hbel⟩ := hrel
        rcases q with _ | p
        · obtain rfl : t = 8 := by omega
          rw [Sm.full_end]
          obtain ⟨P, hP⟩ : ∃ P, P = l ++ Sm.pad l.length := ⟨_, rfl⟩
          have hPl : P.length = l.length + Sm.plen l.length := by rw [hP, List.length_append, Sm.pad_length]
          have hpb := Sm.plen_bd l.length
          obtain ⟨nb, hnb⟩ : ∃ nb, P.length = 64 * nb := ⟨P.length / 64, by omega⟩
          have hPb : P.length ≤ 200000 := by omega
          have zP := S_size P
          have HP := Lib.hid hP
          rw [← hP]
          clear hP hPl hpb zb1 zb2 z0
          go_wp2
          change Code.wp _ _ _ _ (wr.alloc (.cells (AR Sm.H0.list) 46))
          obtain ⟨W, hW⟩ : ∃ W, W = wr.alloc (.cells (AR Sm.H0.list) 46) := ⟨_, rfl⟩
          have G0 : Hid (W.heap[wr.heap.size]? = some (.cells (AR Sm.H0.list) 46 (0, 0))) := by rw [hW]; exact heap_alloc_new wr _
          have hsz := hbel.size
          have hbW : Below w.heap.size w W := by rw [hW]; exact hbel.alloc hsz _
          obtain ⟨g, hg⟩ : ∃ g, g = wr.heap.size := ⟨_, rfl⟩
          rw [← hW]
          rw [← hg] at G0 hsz
          rw [← hg]
          clear hW hg hbel
          go_loopw [8] (fun iv wr => ∃ k i : Nat, Hid (i = 64 * k) ∧ k ≤ nb ∧ iv = .int .i64 (i : Int) ∧ Hid (wr.heap[g]? = some (.cells (AR (Sm.chain P k).list) 46 (0, 0))) ∧ Below w.heap.size w wr) (fun iv _ => P.length - (intOf iv).toNat)
          case atStart => exact ⟨0, 0, rfl, by omega, rfl, G0, hbW⟩
          case round =>
            clear G0 hbW
            obtain ⟨k, i, HI, hk, rfl, G0, hbel⟩ := hrel
            have hi := HI.out
            by_cases hlt : k < nb
            · have hil : (i : Int) < (P.length : Int) := by omega
              clear hi
              go_wp2
              refine sum_region (by kernel_rfl) (by kernel_rfl) (by rfl) (by rfl) (by rfl) (by simp) (by have := HI.out; omega) (by omega) (Sm.Ok.chain P k) G0.out (fun f w2 hh hk2 => ?_)
              have HH : Hid (w2.heap[g]? = some (.cells (AR (Sm.chain P (k + 1)).list) 46 (0, 0))) := by
                have e : Sm.chain P (k + 1) = Sm.mix (Sm.chain P k) (Sm.words ((P.drop i).take 64)) := by rw [HI.out]; rfl
                rw [e]; exact hh
              have hbc : Below w.heap.size w w2 := Kp.below hbel hk2 hsz
              clear hh hk2
              rw [putR_lit]
              simp only [putL, p18, Nat.reduceAdd, Nat.reduceLeDiff, decide_true, decide_false, Bool.and_true, Bool.and_false, cond_true, cond_false]
              go_wp2
              go_roundw
              case rel => exact ⟨k + 1, i + 64, by have := HI.out; unfold Hid; omega, by omega, by go_num, HH, hbc⟩
              case measure => simp [intOf]; omega
            · obtain rfl : k = nb := by omega
              have hil : ¬ (i : Int) < (P.length : Int) := by omega
              have hst : Hid (Sm.sha l = Sm.out (Sm.chain P k)) := by
                unfold Sm.sha Sm.state Hid
                rw [← HP.out, hnb, Nat.mul_div_cancel_left _ (by omega)]
              have hok := Sm.Ok.chain P k
              obtain ⟨st, hst'⟩ : ∃ st, st = Sm.chain P k := ⟨_, rfl⟩
              rw [← hst'] at hst hok G0
              have hgl : g < wr.heap.size := (Array.getElem?_eq_some_iff.1 G0.out).1
              have hcells : ∀ j, j < 8 → wr.cell? ⟨g, j, none⟩ = some (.int .u32 (Sm.nth st.list j : Int)) := fun j hj => cell_AR wr _ _ _ _ G0.out j (by rw [Sm.list_length]; exact hj)
              have HC := Lib.hid hcells
              clear hst' hi hcells G0
              obtain ⟨i0, hi0, hz0, hz1, hz2⟩ := info_parts info5
              go_wp2
              go_loopw [9, 10] (fun v iv wz => ∃ k : Nat, k ≤ 8 ∧ iv = .int .i64 k ∧ wz.ownsRow (g + 1) 5 1 v (4 * k) (V (Sm.outK st.list k)) ∧ Hid (∀ j, j < 8 → wz.cell? ⟨g, j, none⟩ = some (.int .u32 (Sm.nth st.list j : Int))) ∧ g < wz.heap.size ∧ Below w.heap.size w wz) (fun _ iv _ => 8 - (intOf iv).toNat)
              case atStart => exact ⟨0, by omega, rfl, ⟨rfl, .inl ⟨rfl, rfl⟩⟩, HC, hgl, hbel⟩
              case round =>
                clear HC hgl hbel
                obtain ⟨j, hj, rfl, hown, HC, hgl, hbel⟩ := hrel
                have hsz2 := hbel.size
                by_cases hj8 : j < 8
                · have hx := hok.nth j hj8
                  have cx := HC.out j hj8
                  have HO := Sm.outK_succ st.list j (by rw [Sm.list_length]; exact hj8)
                  obtain ⟨x, hxx⟩ : ∃ x, x = Sm.nth st.list j := ⟨_, rfl⟩
                  rw [← hxx] at hx cx HO
                  obtain ⟨y1, hy1⟩ : ∃ y, y = x / 16777216 := ⟨_, rfl⟩
                  obtain ⟨z2, hz2'⟩ : ∃ y, y = x / 65536 := ⟨_, rfl⟩
                  obtain ⟨y2, hy2⟩ : ∃ y, y = z2 % 256 := ⟨_, rfl⟩
                  obtain ⟨z3, hz3'⟩ : ∃ y, y = x / 256 := ⟨_, rfl⟩
                  obtain ⟨y3, hy3⟩ : ∃ y, y = z3 % 256 := ⟨_, rfl⟩
                  obtain ⟨y4, hy4⟩ : ∃ y, y = x % 256 := ⟨_, rfl⟩
                  have HV : Hid (V (Sm.outK st.list (j + 1)) = V (Sm.outK st.list j) ++ [.int .u8 (y1 : Int), .int .u8 (y2 : Int), .int .u8 (y3 : Int), .int .u8 (y4 : Int)]) := by
                    unfold Hid
                    rw [HO, V_wb, show (x : Int) / 16777216 % 256 = (y1 : Int) by omega, show (x : Int) / 65536 % 256 = (y2 : Int) by omega, show (x : Int) / 256 % 256 = (y3 : Int) by omega, show (x : Int) % 256 = (y4 : Int) by omega]
                  have d1 : (x : Int).tdiv 16777216 = (y1 : Int) := by rw [Int.tdiv_eq_ediv_of_nonneg (by omega)]; omega
                  have d2 : (x : Int).tdiv 65536 = (z2 : Int) := by rw [Int.tdiv_eq_ediv_of_nonneg (by omega)]; omega
                  have d3 : (x : Int).tdiv 256 = (z3 : Int) := by rw [Int.tdiv_eq_ediv_of_nonneg (by omega)]; omega
                  have f1 : (x : Int) / 16777216 = (y1 : Int) := by omega
                  have f2 : (x : Int) / 65536 = (z2 : Int) := by omega
                  have f3 : (x : Int) / 256 = (z3 : Int) := by omega
                  have t2 : (z2 : Int).tmod 256 = (y2 : Int) := by rw [Int.tmod_eq_emod_of_nonneg (by omega)]; omega
                  have t3 : (z3 : Int).tmod 256 = (y3 : Int) := by rw [Int.tmod_eq_emod_of_nonneg (by omega)]; omega
                  have t4 : (x : Int).tmod 256 = (y4 : Int) := by rw [Int.tmod_eq_emod_of_nonneg (by omega)]; omega
                  have s2 : (z2 : Int) % 256 = (y2 : Int) := by omega
                  have s3 : (z3 : Int) % 256 = (y3 : Int) := by omega
                  have s4 : (x : Int) % 256 = (y4 : Int) := by omega
                  have u1 : IntKind.u32.wrap (y1 : Int) = (y1 : Int) := Sm.wrap_in _ (by omega)
                  have u2 : IntKind.u32.wrap (z2 : Int) = (z2 : Int) := Sm.wrap_in _ (by omega)
                  have u3 : IntKind.u32.wrap (z3 : Int) = (z3 : Int) := Sm.wrap_in _ (by omega)
                  have u4 : IntKind.u32.wrap (y2 : Int) = (y2 : Int) := Sm.wrap_in _ (by omega)
                  have u5 : IntKind.u32.wrap (y3 : Int) = (y3 : Int) := Sm.wrap_in _ (by omega)
                  have u6 : IntKind.u32.wrap (y4 : Int) = (y4 : Int) := Sm.wrap_in _ (by omega)
                  have v1 := wrap8 y1 (by omega)
                  have v2 := wrap8 y2 (by omega)
                  have v3 := wrap8 y3 (by omega)
                  have v4 := wrap8 y4 (by omega)
                  have g1 : (0 : Int) ≤ (j : Int) := by omega
                  have g2 : (j : Int) < 8 := by omega
                  have ag : u9.ownBlock ≠ some g := fun e => by have := (hown.lt _ e).1; omega
                  clear hxx hy1 hz2' hy2 hz3' hy3 hy4 HO hx
                  go_wp2_with fail
                  go_region_held3 (fun w' => w'.cell? ⟨g, j, none⟩ = some (.int .u32 (x : Int))) (first | (rw [hgrow.cell_far _ (by simp <;> omega) (Ne.symm ag)]; assumption) | go_keep)
                    ((refine step_append_lies _ (by rfl) _ _ _ (by rfl) (g + 1) 5 i0 _ 1 1 Tryd.underlying31 hi0 hz0 hz1 hz2 rfl (by omega) _ _ _ (by rfl) ((hown.alloc _).drew)
                        ⟨wr.heap.size, 0, none⟩ 4 4 [.int .u8 (y1 : Int), .int .u8 (y2 : Int), .int .u8 (y3 : Int), .int .u8 (y4 : Int)] (by rfl) (by rfl) (World.news_of_block (cs := #[.int .u8 (y1 : Int), .int .u8 (y2 : Int), .int .u8 (y3 : Int), .int .u8 (y4 : Int)]) (t := 5) (fr := (0, 0)) (heap_alloc_new wr _)) (by simp [Value.oneCell'])
                        (by omega) (by unfold maxLen; omega) (by omega) (by simp; omega) (wr.heap.size + 1) (by simp) ?_; intro gg cap w2 hown1 hgrow hat hlt2))
                  have HC2 : Hid (∀ q, q < 8 → w2.cell? ⟨g, q, none⟩ = some (.int .u32 (Sm.nth st.list q : Int))) := fun q hq => by
                    rw [hgrow.cell_far _ (by simp <;> omega) (Ne.symm ag)]
                    exact (World.cell?_alloc_lt _ _ _ hgl).trans (HC.out q hq)
                  have hb2 : Below w.heap.size w w2 := ((hbel.alloc hsz2 _).drew).grown hgrow (by simp <;> omega) (fun q e => by have := (hown.lt _ e).1; omega)
                  have hgl2 : g < w2.heap.size := World.block_lt_of_cell? w2 _ (HC2.out 0 (by omega))
                  clear hgrow hown cx hat
                  go_wp2
                  go_roundw
                  case rel => exact ⟨j + 1, by omega, by go_num, by rw [HV.out]; exact hown1, HC2, hgl2, hb2⟩
                  case measure => simp [intOf]; omega
                · obtain rfl : j = 8 := by omega
                  have hcv := conv_own wr (g + 1) _ (Sm.out st) (by unfold Sm.out; rw [Sm.outK_length _ _ (by rw [Sm.list_length]; omega)]; exact hown)
                  clear hown
                  go_wp2
                  go_ret
                  exact ⟨ret_str (by rw [hst.out]), hbel⟩
        · have ei : ((p + 1 : Nat) : Int) - 1 = (p : Int) := by omega
          rw [ei]
          have hsz := hbel.size
          go_wp2
          go_loop [5, 6] (fun mv kv => ∃ k : Nat, k ≤ p ∧ kv = .int .i64 k ∧ mv = .int .u64 ((M / 256 ^ k : Nat) : Int)) (fun _ kv => p - (intOf kv).toNat)
          case atStart => exact ⟨0, by omega, rfl, by simp⟩
          case round =>
            obtain ⟨k, hkp, rfl, rfl⟩ := hrel
            have hx : M / 256 ^ k ≤ 800000 := Nat.le_trans (Nat.div_le_self _ _) hMb
            have hs : Hid (M / 256 ^ (k + 1) = M / 256 ^ k / 256) := by rw [Nat.pow_succ, Nat.div_div_eq_div_mul]; rfl
            by_cases hlt : k < p
            · obtain ⟨x, hxx⟩ : ∃ x, x = M / 256 ^ k := ⟨_, rfl⟩
              rw [← hxx] at hx hs
              rw [← hxx]
              have m4 : (x : Int).tdiv 256 = (x : Int) / 256 := Int.tdiv_eq_ediv_of_nonneg (by omega)
              clear hxx
              go_wp2
              go_round
              case rel =>
                refine ⟨k + 1, by omega, by go_num, ?_⟩
                rw [hs.out]
                refine congrArg (Value.int IntKind.u64) ?_
                omega
              case measure => simp [intOf]; omega
            · obtain rfl : k = p := by omega
              have hfs := Sm.full_succ l t (by omega)
              rw [← HM.out, show 7 - t = k by omega] at hfs
              obtain ⟨x, hxx⟩ : ∃ x, x = M / 256 ^ k := ⟨_, rfl⟩
              rw [← hxx] at hfs hx
              rw [← hxx]
              obtain ⟨y, hy⟩ : ∃ y, y = x % 256 := ⟨_, rfl⟩
              have r1 : (x : Int).tmod 256 = (y : Int) := by rw [Int.tmod_eq_emod_of_nonneg (by omega)]; omega
              have r2 : (x : Int) % 256 = (y : Int) := by omega
              have hy2 : y ≤ 255 := by omega
              have hc := conv_one wr y hy2
              have hof : UInt8.ofNat y = UInt8.ofNat x := by
                apply UInt8.toNat_inj.1
                rw [UInt8.toNat_ofNat', UInt8.toNat_ofNat', hy]
                omega
              have eA : S (Sm.full l t) ++ S [UInt8.ofNat y] = S (Sm.full l (t + 1)) := by rw [app_S, S_data, hof, hfs]
              have zk : (S (Sm.full l t)).size ≤ 200000 := by
                rw [S_size, Sm.full_length _ _ (by omega)]
                have := Sm.zl_bd l.length
                omega
              have zo : (S [UInt8.ofNat y]).size = 1 := by rw [S_size]; rfl
              have hb' : Below w.heap.size w (wr.alloc (.cells #[.int .u8 (y : Int)] 5)) := hbel.alloc hsz _
              clear hxx hy hof hfs hs hlt
              go_wp2
              go_roundw
              case rel => exact ⟨t + 1, k, by omega, by go_num, rfl, hb'⟩
              case measure => simp [intOf]
end Go.Proofs.YtnlkmbbgcellfaaDoor
