/-
  What the document's Get comes to.
-/
import Derived.Test.YtcmalaabggohmaaValRefCnt
import Derived.Test.YtcmalaabggohmaaUtfFirst
namespace Go.Proofs.Ytcmalaabggohmaa
open Go.RowKit

namespace JV
def zero : JV := .mk 0 0 [] [] []
/-- where a name stands first (their number, if nowhere) -/
def find : List (List UInt8) → List UInt8 → Nat
  | [], _ => 0
  | n :: ns, l => if n = l then 0 else find ns l + 1
theorem find_at : ∀ {ns : List (List UInt8)} {l : List UInt8} {i : Nat}, ns[i]? = some l → (∀ (j : Nat) n, j < i → ns[j]? = some n → n ≠ l) → find ns l = i
  | [], l, i, h, _ => by simp at h
  | n :: ns, l, 0, h, _ => by
    obtain rfl : n = l := by simpa using h
    exact if_pos rfl
  | n :: ns, l, i + 1, h, hn => by
    have := find_at (ns := ns) (l := l) (i := i) (by simpa using h) fun j x hj hx => hn (j + 1) x (by omega) (by simpa using hx)
    rw [find, if_neg (hn 0 n (by omega) rfl), this]
theorem find_no : ∀ {ns : List (List UInt8)} {l : List UInt8}, (∀ (j : Nat) n, ns[j]? = some n → n ≠ l) → find ns l = ns.length
  | [], l, _ => rfl
  | n :: ns, l, hn => by
    rw [find, if_neg (hn 0 n rfl), find_no fun j x hx => hn (j + 1) x (by simpa using hx), List.length_cons]
/-- what Get gives -/
def get (x : JV) (l : List UInt8) : JV × Bool :=
  if x.k = 5 then if find x.ns l < x.ns.length then match x.is[find x.ns l]? with | some y => (y, true) | none => (zero, false) else (zero, false) else (zero, false)
end JV
theorem HV.zero (w : World) : HV w (.agg #[.int .u8 0, .int .i64 0, .string ⟨#[]⟩, .slice none 0 0, .slice none 0 0]) JV.zero := by
  refine ⟨_, rfl, ?_⟩
  unfold JV.zero HC
  exact ⟨none, none, 0, 0, rfl, ⟨by omega, by omega, Nat.zero_le _, Nat.zero_le _, Nat.zero_le _, fun x h => by simp at h⟩, fun i x h => by simp at h, .inl rfl⟩
theorem value_size : (Try.prog.info? 25).map (·.size) = some 5 := by kernel_rfl
theorem results_val {fn : Func} {t u : Tmp} (h : fn.results = #[.cell t 25, .tmp u]) (tmps : Array Value) (w : World) {b : Nat} {m : Array Value} {fr : Nat × Nat}
    (ht : tmps.getD t undef = .pointer (some ⟨b, 0, none⟩)) (hg : w.heap[b]? = some (.cells m 25 fr)) (hm : m.size = 5) :
    (results fn tmps).run Try.prog w = .ok (.tuple #[.agg m, tmps.getD u undef]) w := by
  have hl := run_loadVar_row (P := Try.prog) w b 25 25 m fr _ hg Try.underlying25 rfl (by rw [hm]; exact value_size)
  have ht' : tmps[t]?.getD undef = .pointer (some ⟨b, 0, none⟩) := by rw [← Array.getD_eq_getD_getElem?]; exact ht
  simp [results, h, ht', asAddr, hl]
theorem VAt.set5 {b : Nat} {w : World} {a0 a1 a2 a3 a4 : Value} (h : VAt b w a0 a1 a2 a3 a4) (v0 v1 v2 v3 v4 : Value) : (((((w.setCell ⟨b, 0, none⟩ v0).setCell ⟨b, 1, none⟩ v1).setCell ⟨b, 2, none⟩ v2).setCell ⟨b, 3, none⟩ v3).setCell ⟨b, 4, none⟩ v4).heap[b]? = some (.cells #[v0, v1, v2, v3, v4] 25 (0, 0)) := by
  have h0 := heap_setCell_same w b 0 _ _ v0 h
  have h1 := heap_setCell_same _ b 1 _ _ v1 h0
  have h2 := heap_setCell_same _ b 2 _ _ v2 h1
  have h3 := heap_setCell_same _ b 3 _ _ v3 h2
  exact heap_setCell_same _ b 4 _ _ v4 h3
theorem below_val {b B : Nat} {w0 w : World} (h : Below B w0 w) (hb : B ≤ b) (v0 v1 v2 v3 v4 : Value) : Below B w0 (((((w.setCell ⟨b, 0, none⟩ v0).setCell ⟨b, 1, none⟩ v1).setCell ⟨b, 2, none⟩ v2).setCell ⟨b, 3, none⟩ v3).setCell ⟨b, 4, none⟩ v4) :=
  ((((h.setCell (p := ⟨b, 0, none⟩) hb _).setCell (p := ⟨b, 1, none⟩) hb _).setCell (p := ⟨b, 2, none⟩) hb _).setCell (p := ⟨b, 3, none⟩) hb _).setCell (p := ⟨b, 4, none⟩) hb _
set_option maxHeartbeats 1000000 in
set_option maxRecDepth 3000 in
theorem refGet_any (x : JV) (l : List UInt8) (w : World) (v : Value) (hv : HV w v x) :
    Calls Try.prog 14 #[v, .string (S l)] w fun e w' => ∃ u, e = .returned (.tuple #[u, .bool (x.get l).2]) ∧ HV w' u (x.get l).1 ∧ Below w.heap.size w w' := by
  obtain ⟨cs, rfl, hc⟩ := hv
  obtain ⟨a, b, ca, cb, rfl, hB, hN, hI⟩ := hc.form
  obtain ⟨m, hm⟩ : ∃ m, x.is.length = m := ⟨_, rfl⟩
  obtain ⟨r, hr⟩ : ∃ m, x.ns.length = m := ⟨_, rfl⟩
  have hr2 : (r : Int) ≤ 9223372036854775807 := by have := hB.2.2.2.1; unfold maxLen at this; omega
  rw [hm, hr]
  obtain ⟨kI, hk⟩ : ∃ z : Int, z = (x.k : Int) := ⟨_, rfl⟩
  rw [← hk]
  obtain ⟨nI, hn⟩ : ∃ z : Int, z = x.n := ⟨_, rfl⟩
  obtain ⟨t, ht⟩ : ∃ z, z = x.t := ⟨_, rfl⟩
  rw [← hn, ← ht]
  have HM := Lib.hid hm
  have HR := Lib.hid hr
  have HK := Lib.hid hk
  clear hm hr hc hB hk hn ht
  obtain ⟨W1, hW1⟩ : ∃ W, W = w.alloc (.cells #[.int .u8 kI, .int .i64 nI, .string (S t), .slice a r ca, .slice b m cb] 25) := ⟨_, rfl⟩
  obtain ⟨W2, hW2⟩ : ∃ W, W = W1.alloc (.cells #[.int .u8 0, .int .i64 0, .string ⟨#[]⟩, .slice none 0 0, .slice none 0 0] 25) := ⟨_, rfl⟩
  have b1 : Below w.heap.size w W1 := by rw [hW1]; exact (Below.refl _ _).alloc (Nat.le_refl _) _
  have b12 : Below W1.heap.size W1 W2 := by rw [hW2]; exact (Below.refl _ _).alloc (Nat.le_refl _) _
  have V1 : VAt w.heap.size W1 (.int .u8 kI) (.int .i64 nI) (.string (S t)) (.slice a r ca) (.slice b m cb) := by rw [hW1]; exact VAt.new ..
  have V2 : VAt W1.heap.size W2 (.int .u8 0) (.int .i64 0) (.string ⟨#[]⟩) (.slice none 0 0) (.slice none 0 0) := by rw [hW2]; exact VAt.new ..
  have V1 := V1.below b12
  have c2 : Hid (Below w.heap.size w W2) := b1.trans (b12.mono b1.size)
  have e1 : W1.heap.size = w.heap.size + 1 := by rw [hW1]; simp
  rw [e1] at V2
  have HZ : Hid (∀ w, HV w (.agg #[.int .u8 0, .int .i64 0, .string ⟨#[]⟩, .slice none 0 0, .slice none 0 0]) JV.zero) := HV.zero
  have HV1 := Lib.hid V1
  have HV2 := Lib.hid V2
  have HN := Lib.hid (hN.below c2.out)
  have HI0 : Hid (x.is = [] ∨ ∃ blk off, b = some ⟨blk, off, none⟩ ∧ HI w blk off x.is) := hI
  obtain ⟨⟨p0, p1, p2, p3, p4⟩, _⟩ := V1.cells
  obtain ⟨⟨q0, q1, q2, q3, q4⟩, qf⟩ := V2.cells
  clear b1 b12 e1 hN hI V1 V2
  by_cases h1 : kI ≠ 5
  · have hb : (kI != 5) = true := bne_iff_ne.2 h1
    have HG : Hid (x.get l = (JV.zero, false)) := if_neg (by have := HK.out; omega)
    clear h1
    go_enter Try.func14, Try.ntmps14
    go_wp2_with fail
    rw [← hW1, ← hW2]
    clear hW1 hW2
    refine bodyPost_ret (results_val (fn := Try.f14) (t := 4) (u := 5) rfl _ _ rfl HV2.out rfl) rfl ?_
    rw [HG.out]
    exact ⟨_, rfl, HZ.out _, c2.out⟩
  obtain rfl : kI = 5 := Classical.not_not.1 h1
  have HK5 : Hid (x.k = 5) := by have := HK.out; show x.k = 5; omega
  clear h1
  go_enter Try.func14, Try.ntmps14
  go_wp2_with fail
  rw [← hW1, ← hW2]
  clear hW1 hW2
  go_wp2_with fail
  go_loopw [6] (fun iv wr => ∃ i : Nat, iv = .int .i64 (i : Int) ∧ i ≤ r ∧ Hid (∀ (j : Nat) (p : List UInt8), j < i → x.ns[j]? = some p → p ≠ l) ∧ W2 = wr) (fun iv _ => r - (intOf iv).toNat)
  case atStart => exact ⟨0, rfl, Nat.zero_le _, fun j p h => by omega, rfl⟩
  case round =>
    obtain ⟨i, rfl, hi, HS, rfl⟩ := hrel
    by_cases hlt : (i : Int) < (r : Int)
    · obtain ⟨p, hp⟩ : ∃ p, x.ns[i]? = some p := ⟨x.ns[i]'(by have := HR.out; omega), List.getElem?_eq_getElem _⟩
      obtain ⟨bb, oo, rfl, g0⟩ := HN.out i p hp
      have u1 := S_eq p l
      have HP := Lib.hid hp
      clear hp
      by_cases hpq : p = l
      · subst hpq
        have HF : Hid (JV.find x.ns p = i) := JV.find_at HP.out HS.out
        have hs : ((S p).toList == (S p).toList) = true := by simp
        by_cases him : (i : Int) < (m : Int)
        · obtain ⟨y, hy⟩ : ∃ y, x.is[i]? = some y := ⟨x.is[i]'(by have := HM.out; omega), List.getElem?_eq_getElem _⟩
          obtain ⟨blk, off, rfl, hII⟩ := items_at HI0.out hy
          obtain ⟨c0, c1, c2', c3, c4, f0, f1, f2, f3, f4, hcy⟩ := hII.get hy
          have hk : ∀ {o : Nat} {c : Value}, w.cell? ⟨blk, o, none⟩ = some c → W2.cell? ⟨blk, o, none⟩ = some c := fun hg => (c2.out.cell (World.block_lt_of_cell? w _ hg)).trans hg
          replace f0 := hk f0
          replace f1 := hk f1
          replace f2 := hk f2
          replace f3 := hk f3
          replace f4 := hk f4
          clear hk
          have HG : Hid (x.get p = (y, true)) := by
            unfold Hid JV.get
            rw [if_pos HK5.out, HF.out, if_pos (by have := HR.out; omega), hy]
          have HC1 := Lib.hid hcy
          obtain ⟨ya, yb, yca, ycb, hcs, _⟩ := hcy.form
          simp only [List.cons.injEq, and_true] at hcs
          obtain ⟨rfl, rfl, rfl, rfl, rfl⟩ := hcs
          clear hcy hII hy
          go_wp2_with fail
          refine bodyPost_ret (results_val (fn := Try.f14) (t := 4) (u := 5) rfl _ _ rfl (HV2.out.set5 _ _ _ _ _) rfl) rfl ?_
          rw [HG.out]
          have hz := below_val (b := w.heap.size + 1) c2.out (by omega) (.int .u8 (y.k : Int)) (.int .i64 y.n) (.string (S y.t)) (.slice ya y.ns.length yca) (.slice yb y.is.length ycb)
          exact ⟨_, rfl, ⟨_, rfl, HC.below hz y _ HC1.out⟩, hz⟩
        · have HG : Hid (x.get p = (JV.zero, false)) := by
            unfold Hid JV.get
            rw [if_pos HK5.out, HF.out, if_pos (by have := HR.out; omega), List.getElem?_eq_none (by have := HM.out; omega)]
          go_wp2_with fail
          refine bodyPost_ret (results_val (fn := Try.f14) (t := 4) (u := 5) rfl _ _ rfl (HV2.out.set5 _ _ _ _ _) rfl) rfl ?_
          rw [HG.out]
          exact ⟨_, rfl, HZ.out _, below_val c2.out (by omega) _ _ _ _ _⟩
      · have hb : ((S p).toList == (S l).toList) = false := by rw [u1]; exact beq_eq_false_iff_ne.2 hpq
        have HPQ := Lib.hid hpq
        clear u1 hpq
        go_wp2_with fail
        go_roundw
        case rel =>
          refine ⟨i + 1, by go_num, by omega, fun j z hj hz => ?_, trivial⟩
          by_cases hji : j < i
          · exact HS.out j z hji hz
          · obtain rfl : j = i := by omega
            rw [HP.out] at hz
            obtain rfl : p = z := by simpa using hz
            exact HPQ.out
        case measure => simp [intOf]; omega
    · obtain rfl : i = r := by omega
      have HF : Hid (JV.find x.ns l = x.ns.length) := JV.find_no fun j z hz => HS.out j z (by have := (List.getElem?_eq_some_iff.1 hz).1; have := HR.out; omega) hz
      have HG : Hid (x.get l = (JV.zero, false)) := by
        unfold Hid JV.get
        rw [if_pos HK5.out, HF.out, if_neg (Nat.lt_irrefl _)]
      go_wp2_with fail
      refine bodyPost_ret (results_val (fn := Try.f14) (t := 4) (u := 5) rfl _ _ rfl (HV2.out.set5 _ _ _ _ _) rfl) rfl ?_
      rw [HG.out]
      exact ⟨_, rfl, HZ.out _, below_val c2.out (by omega) _ _ _ _ _⟩
end Go.Proofs.Ytcmalaabggohmaa
