/-
  Where a name stands among names that rise: what the program's place comes to (sort.Search with its closure), and slices.Index, first.
-/
import Derived.Test.YtcmalaabggohmaaValForm
import Derived.Test.YtcmalaabggohmaaValRefGet
import Derived.BigQuiet
import Derived.Deep.QuietTactic
namespace Go.Proofs.Ytcmalaabggohmaa
open Go.RowKit

namespace Jn
theorem lt_trans : ∀ {x y z : List UInt8}, lt x y = true → lt y z = true → lt x z = true
  | [], y, [], _, h => by cases y <;> simp [lt, Op.bytesLess] at h
  | [], _, _ :: _, _, _ => rfl
  | _ :: _, [], _, h, _ => by simp [lt, Op.bytesLess] at h
  | _ :: _, _ :: _, [], _, h => by simp [lt, Op.bytesLess] at h
  | a :: x, b :: y, c :: z, h1, h2 => by
    unfold lt at h1 h2 ⊢
    rw [Op.bytesLess] at h1 h2 ⊢
    simp only [Bool.or_eq_true, decide_eq_true_eq, Bool.and_eq_true, beq_iff_eq, UInt8.lt_iff_toNat_lt] at h1 h2 ⊢
    rcases h1 with h1 | ⟨rfl, h1⟩
    · rcases h2 with h2 | ⟨rfl, h2⟩
      · left; omega
      · left; exact h1
    · rcases h2 with h2 | ⟨rfl, h2⟩
      · left; exact h2
      · right; exact ⟨rfl, lt_trans h1 h2⟩
theorem rise_tail {x : List UInt8} {ns : List (List UInt8)} (h : rise (x :: ns) = true) : rise ns = true := by
  cases ns with
  | nil => rfl
  | cons y r =>
    unfold rise at h
    rw [Bool.and_eq_true] at h
    exact h.2
theorem rise_head : ∀ {ns : List (List UInt8)} {x : List UInt8}, rise (x :: ns) = true → ∀ (j : Nat) y, ns[j]? = some y → lt x y = true
  | [], _, _, j, y, h => by simp at h
  | z :: r, x, h, 0, y, hy => by
    obtain rfl : z = y := by simpa using hy
    unfold rise at h
    rw [Bool.and_eq_true] at h
    exact h.1
  | z :: r, x, h, j + 1, y, hy => by
    have h1 := rise_head (rise_tail h) j y (by simpa using hy)
    unfold rise at h
    rw [Bool.and_eq_true] at h
    exact lt_trans h.1 h1
theorem rise_lt : ∀ {ns : List (List UInt8)}, rise ns = true → ∀ (i j : Nat) x y, i < j → ns[i]? = some x → ns[j]? = some y → lt x y = true
  | [], _, i, j, x, y, _, h, _ => by simp at h
  | z :: r, h, 0, j + 1, x, y, _, h1, h2 => by
    obtain rfl : z = x := by simpa using h1
    exact rise_head h j y (by simpa using h2)
  | z :: r, h, i + 1, j + 1, x, y, hij, h1, h2 => rise_lt (rise_tail h) i j x y (by omega) (by simpa using h1) (by simpa using h2)
  | z :: r, h, i, 0, x, y, hij, _, _ => by omega
/-- how many names at the front are below -/
def pos : List (List UInt8) → List UInt8 → Nat
  | [], _ => 0
  | n :: ns, l => if lt n l = true then pos ns l + 1 else 0
theorem pos_le (l : List UInt8) : ∀ ns : List (List UInt8), pos ns l ≤ ns.length
  | [] => Nat.le_refl _
  | n :: ns => by
    have := pos_le l ns
    rw [pos, List.length_cons]
    split <;> omega
theorem pos_eq {l : List UInt8} : ∀ {ns : List (List UInt8)} {p : Nat}, p ≤ ns.length → (∀ (t : Nat) x, t < p → ns[t]? = some x → lt x l = true) → (∀ x, ns[p]? = some x → lt x l = false) → pos ns l = p
  | [], p, h, _, _ => by
    rw [pos]
    simp at h
    omega
  | n :: ns, 0, _, _, h2 => by
    have := h2 n rfl
    rw [pos, this]
    simp
  | n :: ns, p + 1, h, h1, h2 => by
    have h3 := h1 0 n (by omega) rfl
    rw [pos, if_pos h3, pos_eq (ns := ns) (p := p) (by simpa using h) (fun t x ht hx => h1 (t + 1) x (by omega) (by simpa using hx)) (fun x hx => h2 x (by simpa using hx))]
theorem pos_below {l : List UInt8} : ∀ {ns : List (List UInt8)} {t : Nat} {x : List UInt8}, t < pos ns l → ns[t]? = some x → lt x l = true
  | [], t, x, _, h => by simp at h
  | n :: ns, 0, x, h, hx => by
    obtain rfl : n = x := by simpa using hx
    rw [pos] at h
    split at h
    · assumption
    · omega
  | n :: ns, t + 1, x, h, hx => by
    rw [pos] at h
    split at h
    · exact pos_below (ns := ns) (t := t) (by omega) (by simpa using hx)
    · omega
theorem pos_at {l : List UInt8} : ∀ {ns : List (List UInt8)} {x : List UInt8}, ns[pos ns l]? = some x → lt x l = false
  | [], x, h => by simp at h
  | n :: ns, x, h => by
    rw [pos] at h
    split at h
    · exact pos_at (ns := ns) (by simpa using h)
    · obtain rfl : n = x := by simpa using h
      exact Bool.eq_false_iff.2 (by assumption)
/-- whether it stands there -/
def has (ns : List (List UInt8)) (l : List UInt8) : Bool := decide (ns[pos ns l]? = some l)
theorem find_pos {ns : List (List UInt8)} {l : List UInt8} (h : has ns l = true) : JV.find ns l = pos ns l := by
  have h1 : ns[pos ns l]? = some l := of_decide_eq_true h
  refine JV.find_at h1 fun j n hj hn e => ?_
  have := pos_below hj hn
  rw [e, lt_irrefl] at this
  cases this
theorem find_not {ns : List (List UInt8)} {l : List UInt8} (hr : rise ns = true) (h : has ns l = false) : JV.find ns l = ns.length := by
  have h1 : ¬ ns[pos ns l]? = some l := of_decide_eq_false h
  refine JV.find_no fun j n hn e => ?_
  subst e
  by_cases h2 : j < pos ns n
  · have := pos_below h2 hn
    rw [lt_irrefl] at this
    cases this
  · by_cases h3 : j = pos ns n
    · rw [h3] at hn
      exact h1 hn
    · obtain ⟨y, hy⟩ : ∃ y, ns[pos ns n]? = some y := ⟨ns[pos ns n]'(by have := (List.getElem?_eq_some_iff.1 hn).1; omega), List.getElem?_eq_getElem _⟩
      have h4 := rise_lt hr (pos ns n) j y n (by omega) hy hn
      have h5 := pos_at hy
      rw [h4] at h5
      cases h5
theorem find_has {ns : List (List UInt8)} {l : List UInt8} (hr : rise ns = true) : has ns l = decide (JV.find ns l < ns.length) := by
  cases h : has ns l with
  | true =>
    have h1 : ns[pos ns l]? = some l := of_decide_eq_true h
    rw [find_pos h, eq_comm, decide_eq_true_iff]
    exact (List.getElem?_eq_some_iff.1 h1).1
  | false => rw [find_not hr h, eq_comm, decide_eq_false_iff_not]; omega
end Jn
theorem below_drewN (w : World) (n : Nat) : Below w.heap.size w (w.drewN n) := ⟨rfl, rfl, rfl, Nat.le_refl _, fun _ _ => rfl⟩
set_option maxHeartbeats 1000000 in
theorem closure_any (ns : List (List UInt8)) (l : List UInt8) (a : Option Addr) (r ca N1 N2 i : Nat) (x : List UInt8) (W : World) (hN : NS W a ns) (hx : ns[i]? = some x) (hi : (i : Int) < (r : Int)) (h1 : W.cell? ⟨N1, 0, none⟩ = some (.slice a r ca)) (h2 : W.cell? ⟨N2, 0, none⟩ = some (.string (S l))) :
    Calls Try.prog 53 #[.int .i64 (i : Int), .pointer (some ⟨N1, 0, none⟩), .pointer (some ⟨N2, 0, none⟩)] W fun e w' => e = .returned (.bool (!Jn.lt x l)) ∧ Below W.heap.size W w' := by
  obtain ⟨b, o, rfl, g0⟩ := hN i x hx
  have s1 := S_toList x
  have s2 := S_toList l
  obtain ⟨q, hq⟩ : ∃ q, Op.bytesLess x l = q := ⟨_, rfl⟩
  have HQ : Hid (Jn.lt x l = q) := hq
  clear hN hx
  go_enter Try.func53, Try.ntmps53
  go_wp2_with fail
  go_quiet (fail)
  go_wp2_with fail
  go_ret
  exact ⟨ret_bool (by rw [HQ.out]), below_drewN _ _⟩
set_option maxHeartbeats 2000000 in
set_option maxRecDepth 3000 in
theorem search_any (ns : List (List UInt8)) (l : List UInt8) (a : Option Addr) (ca N1 N2 : Nat) (W : World) (hr : Jn.rise ns = true) (hN : NS W a ns) (hl : ns.length ≤ 90000) (h1 : W.cell? ⟨N1, 0, none⟩ = some (.slice a ns.length ca)) (h2 : W.cell? ⟨N2, 0, none⟩ = some (.string (S l))) :
    Calls Try.prog 52 #[.int .i64 (ns.length : Int), .func (.func 53) #[] #[.pointer (some ⟨N1, 0, none⟩), .pointer (some ⟨N2, 0, none⟩)]] W fun e w' => e = .returned (.int .i64 (Jn.pos ns l : Int)) ∧ Below W.heap.size W w' := by
  obtain ⟨r, hrr⟩ : ∃ r, ns.length = r := ⟨_, rfl⟩
  rw [hrr] at h1 hl
  rw [hrr]
  have hrI : (r : Int) ≤ 90000 := by omega
  have HR := Lib.hid hrr
  have HRise := Lib.hid hr
  have HC : Hid (∀ wr, Below W.heap.size W wr → ∀ (i : Nat) x, ns[i]? = some x → Calls Try.prog 53 #[.int .i64 (i : Int), .pointer (some ⟨N1, 0, none⟩), .pointer (some ⟨N2, 0, none⟩)] wr fun e w' => e = .returned (.bool (!Jn.lt x l)) ∧ Below wr.heap.size wr w') := fun wr hb i x hx =>
    closure_any ns l a r ca N1 N2 i x wr (hN.below hb) hx (by have := (List.getElem?_eq_some_iff.1 hx).1; omega) ((hb.cell (World.block_lt_of_cell? W _ h1)).trans h1) ((hb.cell (World.block_lt_of_cell? W _ h2)).trans h2)
  clear hrr hr hN h1 h2
  go_enter Try.func52, Try.ntmps52
  go_wp2_with fail
  go_loopw [5, 6] (fun s5 s6 wr => ∃ lo hi : Nat, s5 = .int .i64 (lo : Int) ∧ s6 = .int .i64 (hi : Int) ∧ lo ≤ hi ∧ hi ≤ r ∧ Below W.heap.size W wr ∧ Hid ((∀ (t : Nat) x, t < lo → ns[t]? = some x → Jn.lt x l = true) ∧ ∀ (t : Nat) x, hi ≤ t → ns[t]? = some x → Jn.lt x l = false)) (fun s5 s6 _ => (intOf s6).toNat - (intOf s5).toNat)
  case atStart => exact ⟨0, r, rfl, rfl, Nat.zero_le _, Nat.le_refl _, Below.refl _ _, fun t x h => by omega, fun t x h hx => by have := (List.getElem?_eq_some_iff.1 hx).1; have := HR.out; omega⟩
  case round =>
    obtain ⟨lo, hi, rfl, rfl, hlh, hir, hb, HI⟩ := hrel
    by_cases hlt : (lo : Int) < (hi : Int)
    · obtain ⟨x, hx⟩ : ∃ x, ns[(lo + hi) / 2]? = some x := ⟨ns[(lo + hi) / 2]'(by have := HR.out; omega), List.getElem?_eq_getElem _⟩
      have cC := HC.out wr hb _ x hx
      rw [show (((lo + hi) / 2 : Nat) : Int) = ((lo : Int) + (hi : Int)) / 2 by omega] at cC
      have HX := Lib.hid hx
      clear hx
      cases hp : Jn.lt x l <;> rw [hp] at cC
      · have HP := Lib.hid hp
        clear hp
        go_wp2_with fail
        refine cC.mono ?_; rintro e w1 ⟨rfl, b1⟩
        go_wp2_with fail
        go_roundw
        case rel =>
          refine ⟨lo, (lo + hi) / 2, rfl, by (congr 1 <;> omega), by omega, by omega, hb.trans (b1.mono hb.size), HI.out.1, fun t z ht hz => ?_⟩
          by_cases hte : t = (lo + hi) / 2
          · subst hte
            have := HX.out
            rw [hz] at this
            obtain rfl : z = x := by simpa using this
            exact HP.out
          · cases hq : Jn.lt z l with
            | false => rfl
            | true =>
              have h3 := Jn.lt_trans (Jn.rise_lt HRise.out ((lo + hi) / 2) t x z (by omega) HX.out hz) hq
              rw [HP.out] at h3
              cases h3
        case measure => simp [intOf]; omega
      · have HP := Lib.hid hp
        clear hp
        go_wp2_with fail
        refine cC.mono ?_; rintro e w1 ⟨rfl, b1⟩
        go_wp2_with fail
        go_roundw
        case rel =>
          refine ⟨(lo + hi) / 2 + 1, hi, by (congr 1 <;> omega), rfl, by omega, by omega, hb.trans (b1.mono hb.size), fun t z ht hz => ?_, HI.out.2⟩
          by_cases hte : t = (lo + hi) / 2
          · subst hte
            have := HX.out
            rw [hz] at this
            obtain rfl : z = x := by simpa using this
            exact HP.out
          · exact Jn.lt_trans (Jn.rise_lt HRise.out t ((lo + hi) / 2) z x (by omega) hz HX.out) HP.out
        case measure => simp [intOf]; omega
    · obtain rfl : hi = lo := by omega
      have HE : Hid (Jn.pos ns l = hi) := Jn.pos_eq (by rw [HR.out]; omega) HI.out.1 (fun x hx => HI.out.2 hi x (Nat.le_refl _) hx)
      go_wp2_with fail
      go_ret
      exact ⟨ret_int (by rw [HE.out]), hb⟩
set_option maxHeartbeats 2000000 in
set_option maxRecDepth 3000 in
theorem place_any (ns : List (List UInt8)) (l : List UInt8) (a : Option Addr) (ca : Nat) (w : World) (hr : Jn.rise ns = true) (hN : NS w a ns) (hl : ns.length ≤ 90000) {f : Bool} (hf : Jn.has ns l = f) :
    Calls Try.prog 43 #[.slice a ns.length ca, .string (S l)] w fun e w' => e = .returned (.tuple #[.int .i64 (Jn.pos ns l : Int), .bool f]) ∧ Below w.heap.size w w' := by
  have b1 : Below w.heap.size w ((w.alloc (.cells #[.slice a ns.length ca] 22)).alloc (.cells #[.string (S l)] 9)) := ((Below.refl _ _).alloc (Nat.le_refl _) _).alloc (by simp) _
  obtain ⟨W1, hW1⟩ : ∃ W, W = (w.alloc (.cells #[.slice a ns.length ca] 22)).alloc (.cells #[.string (S l)] 9) := ⟨_, rfl⟩
  have q1 : W1.cell? ⟨w.heap.size, 0, none⟩ = some (.slice a ns.length ca) := by
    rw [hW1, cell_of_row _ w.heap.size 0 #[.slice a ns.length ca] 22 (0, 0)]
    · rfl
    · rw [Below.heap_alloc _ _ _ (by simp)]
      exact heap_alloc_new w _
  have q2 : W1.cell? ⟨w.heap.size + 1, 0, none⟩ = some (.string (S l)) := by
    rw [hW1, cell_of_row _ (w.heap.size + 1) 0 #[.string (S l)] 9 (0, 0)]
    · rfl
    · have := heap_alloc_new (w.alloc (.cells #[.slice a ns.length ca] 22)) (.cells #[.string (S l)] 9)
      rwa [show (w.alloc (.cells #[.slice a ns.length ca] 22)).heap.size = w.heap.size + 1 by simp] at this
  rw [← hW1] at b1
  have cS := search_any ns l a ca w.heap.size (w.heap.size + 1) W1 hr (hN.below b1) hl q1 q2
  obtain ⟨r, hrr⟩ : ∃ r, ns.length = r := ⟨_, rfl⟩
  obtain ⟨p, hp⟩ : ∃ p, Jn.pos ns l = p := ⟨_, rfl⟩
  have hpr := Jn.pos_le l ns
  have hf' : decide (ns[Jn.pos ns l]? = some l) = f := hf
  rw [hrr] at cS hpr hl q1 hW1
  rw [hp] at cS hpr hf'
  rw [hrr, hp]
  have HN := Lib.hid (hN.below b1)
  have HR := Lib.hid hrr
  clear hrr hp hr hf hN
  by_cases hlt : (p : Int) < (r : Int)
  · obtain ⟨x, hx⟩ : ∃ x, ns[p]? = some x := ⟨ns[p]'(by have := HR.out; omega), List.getElem?_eq_getElem _⟩
    have HX := Lib.hid hx
    have hfx : (x == l) = f := by
      rw [← hf', hx, Bool.eq_iff_iff, beq_iff_eq, decide_eq_true_iff]
      simp
    clear hx hf'
    have u1 := S_toList x
    have u2 := S_toList l
    go_enter Try.func43, Try.ntmps43
    go_wp2_with fail
    rw [← hW1]
    clear hW1
    refine cS.mono ?_; rintro e w2 ⟨rfl, b2⟩
    have q1' := (b2.cell (World.block_lt_of_cell? W1 _ q1)).trans q1
    have q2' := (b2.cell (World.block_lt_of_cell? W1 _ q2)).trans q2
    obtain ⟨b, o, rfl, g0⟩ := (HN.out.below b2) p x HX.out
    clear q1 q2
    go_wp2_with fail
    go_quiet (fail)
    go_wp2_with fail
    go_ret2
    refine ⟨?_, b1.trans ((b2.trans ((below_drewN _ _).mono b2.size)).mono b1.size)⟩
    first | rfl | rw [hfx]
  · have hf2 : f = false := by
      rw [← hf', decide_eq_false_iff_not, List.getElem?_eq_none (by have := HR.out; omega)]
      simp
    subst hf2
    clear hf'
    obtain rfl : p = r := by omega
    clear hlt hpr
    go_enter Try.func43, Try.ntmps43
    go_wp2_with fail
    rw [← hW1]
    clear hW1
    refine cS.mono ?_; rintro e w2 ⟨rfl, b2⟩
    have q1' := (b2.cell (World.block_lt_of_cell? W1 _ q1)).trans q1
    have q2' := (b2.cell (World.block_lt_of_cell? W1 _ q2)).trans q2
    clear q1 q2
    go_wp2_with fail
    go_quiet (fail)
    go_wp2_with fail
    go_ret2
    exact ⟨rfl, b1.trans ((b2.trans ((below_drewN _ _).mono b2.size)).mono b1.size)⟩
end Go.Proofs.Ytcmalaabggohmaa
