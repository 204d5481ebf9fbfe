/-
  What utf.begins, Next, Put, Len, Valid come to.
-/
import Derived.Test.YtpifbmcgadjhbaaGreatDoorUtfFirst
namespace Go.Proofs.YtpifbmcgadjhbaaGreatDoor
open Go.RowKit

theorem fst_app (l r : List UInt8) (h : 1 ≤ l.length) : fst (l ++ r) = ((Um.dc (l ++ r)).1, decide ((Um.nx (l ++ r)).2.2 = 0)) := by
  unfold fst
  rw [if_neg (by intro e; have := congrArg List.length e; rw [List.length_append] at this; simp at this; simp [this.1] at h)]
theorem first_at {w0 w : World} (h : Below w0.heap.size w0 w) (l : List UInt8) (hl : l.length ≤ 100000000) {f : Nat × Bool} (hf : fst l = f) :
    Calls Tryz.prog 73 #[.string (S l)] w fun e w' => e = .returned (.tuple #[.int .i32 (f.1 : Int), .bool f.2]) ∧ Below w0.heap.size w0 w' := by
  subst hf
  exact from_ h (first_any l w hl)
theorem c128 : (⟨#[128, 128, 128]⟩ : ByteArray) = S [128, 128, 128] := rfl
theorem c191 : (⟨#[191, 191, 191]⟩ : ByteArray) = S [191, 191, 191] := rfl
theorem idx_two (w : World) (a b : Value) : (Instr.index 121 (.agg #[a, b]) (.int .i64 0)).run Tryz.prog w = .ok a w ∧ (Instr.index 121 (.agg #[a, b]) (.int .i64 1)).run Tryz.prog w = .ok b w := by
  constructor <;> kernel_rfl
set_option maxHeartbeats 400000 in
theorem begins_any (l : List UInt8) (w : World) (h0 : 1 ≤ l.length) (h4 : l.length ≤ 4) (hn : (Um.nx l).2.2 ≠ 0) :
    Calls Tryz.prog 74 #[.string (S l)] w fun e w' => e = .returned (.bool (decide (Um.nx l = (0, 0, 4)))) ∧ Below w.heap.size w w' := by
  rw [← Um.begins_eq h0 h4 hn]
  have g1 := fst_app l [128, 128, 128] h0
  have g2 := fst_app l [191, 191, 191] h0
  have a1 := add_S l [128, 128, 128] (by simp; omega)
  have a2 := add_S l [191, 191, 191] (by simp; omega)
  have l1 : (l ++ [128, 128, 128]).length ≤ 100000000 := by rw [List.length_append]; simp; omega
  have l2 : (l ++ [191, 191, 191]).length ≤ 100000000 := by rw [List.length_append]; simp; omega
  generalize hx : (Um.dc (l ++ [128, 128, 128])).1 = x at g1
  generalize hy : (Um.dc (l ++ [191, 191, 191])).1 = y at g2
  generalize decide ((Um.nx (l ++ [128, 128, 128])).2.2 = 0) = b at g1 ⊢
  generalize decide ((Um.nx (l ++ [191, 191, 191])).2.2 = 0) = c at g2 ⊢
  clear hx hy hn
  have i1 := fun w => (idx_two w (.string (S [128, 128, 128])) (.string (S [191, 191, 191]))).1
  have i2 := fun w => (idx_two w (.string (S [128, 128, 128])) (.string (S [191, 191, 191]))).2
  have G1 := Lib.hid g1
  have G2 := Lib.hid g2
  clear g1 g2
  cases b
  · go_enter Tryz.func74, Tryz.ntmps74
    rw [c128, c191]
    go_wp2_with fail
    refine wp_loop_rounds 3 ?_
    rw [rounds_succ]
    go_wp2_with fail
    refine (first_at (Below.refl _ _) _ l1 G1.out).mono ?_; rintro e w1 ⟨rfl, h1⟩
    go_wp2_with fail
    rw [rounds_succ]
    go_wp2_with fail
    refine (first_at h1 _ l2 G2.out).mono ?_; rintro e w2 ⟨rfl, h2⟩
    cases c
    · go_wp2_with fail
      rw [rounds_succ]
      go_wp2_with fail
      go_ret
      exact ⟨rfl, h2⟩
    · go_wp2_with fail
      go_ret
      exact ⟨rfl, h2⟩
  · go_enter Tryz.func74, Tryz.ntmps74
    rw [c128, c191]
    go_wp2_with fail
    refine wp_loop_rounds 3 ?_
    rw [rounds_succ]
    go_wp2_with fail
    refine (first_at (Below.refl _ _) _ l1 G1.out).mono ?_; rintro e w1 ⟨rfl, h1⟩
    go_wp2_with fail
    go_ret
    exact ⟨rfl, h1⟩
theorem begins_at {w0 w : World} (h : Below w0.heap.size w0 w) (l : List UInt8) (h0 : 1 ≤ l.length) (h4 : l.length ≤ 4) (hn : (Um.nx l).2.2 ≠ 0) {b : Bool} (hb : decide (Um.nx l = (0, 0, 4)) = b) :
    Calls Tryz.prog 74 #[.string (S l)] w fun e w' => e = .returned (.bool b) ∧ Below w0.heap.size w0 w' := by
  subst hb
  exact from_ h (begins_any l w h0 h4 hn)
def NX (l : List UInt8) (k : Int) : Nat × Nat × Nat := if k < 0 ∨ (l.length : Int) < k then (0, 0, 1) else Um.nx (l.drop k.toNat)
def R3 (x : Nat × Nat × Nat) : Value := .tuple #[.int .i64 (x.1 : Int), .int .i64 (x.2.1 : Int), .int .i64 (x.2.2 : Int)]
set_option maxHeartbeats 800000 in
theorem Next_any (l : List UInt8) (k : Int) (w : World) :
    Calls Tryz.prog 59 #[.string (S l), .int .i64 k] w fun e w' => e = .returned (R3 (NX l k)) ∧ Below w.heap.size w w' := by
  have z1 := S_size l
  by_cases h1 : k < 0
  · have hN : NX l k = (0, 0, 1) := by unfold NX; rw [if_pos (Or.inl h1)]
    rw [hN]
    go_enter Tryz.func59, Tryz.ntmps59
    go_wp2_with fail
    go_ret3
    exact ⟨rfl, Below.refl _ _⟩
  by_cases h2 : (l.length : Int) < k
  · have hN : NX l k = (0, 0, 1) := by unfold NX; rw [if_pos (Or.inr h2)]
    rw [hN]
    go_enter Tryz.func59, Tryz.ntmps59
    go_wp2_with fail
    go_ret3
    exact ⟨rfl, Below.refl _ _⟩
  obtain ⟨p, rfl⟩ : ∃ p : Nat, k = (p : Int) := ⟨k.toNat, by omega⟩
  have hN : NX l p = Um.nx (l.drop p) := by unfold NX; rw [if_neg (by omega), Int.toNat_natCast]
  rw [hN]
  have hp : p ≤ l.length := by omega
  have hT := S_drop' l p
  obtain ⟨R, hR⟩ : ∃ R, R = l.drop p := ⟨_, rfl⟩
  have zR : R.length ≤ l.length := by rw [hR, List.length_drop]; omega
  rw [← hR] at hT ⊢
  clear hN hR
  have z2 := S_size R
  have HX : ∀ m : Nat, m = min R.length 4 → (∀ T : List UInt8, (S R).extract 0 m = S T → T.length ≤ 4 → 1 ≤ T.length ∨ T = [] → Um.nx T = Um.nx R → Calls Tryz.prog 59 #[.string (S l), .int .i64 (p : Int)] w fun e w' => e = .returned (R3 (Um.nx R)) ∧ Below w.heap.size w w') →
      Calls Tryz.prog 59 #[.string (S l), .int .i64 (p : Int)] w fun e w' => e = .returned (R3 (Um.nx R)) ∧ Below w.heap.size w w' := fun m hm k => by
    refine k (R.take m) (S_take' R m) (by rw [List.length_take]; omega) ?_ (Um.nx_take4 R m hm)
    cases (R.take m) with
    | nil => exact Or.inr rfl
    | cons a t => exact Or.inl (by simp)
  by_cases h4 : (4 : Int) < (R.length : Int)
  · refine HX 4 (by omega) (fun T hT2 t4 t0 hx => ?_)
    clear HX
    rw [← hx]
    rcases Um.nx_cases T with ⟨h, _⟩ | h | h
    · have hx1 := Um.nx_eta h
      obtain ⟨r, hr⟩ : ∃ r, r = (Um.nx T).1 := ⟨_, rfl⟩
      obtain ⟨z, hz⟩ : ∃ z, z = (Um.nx T).2.1 := ⟨_, rfl⟩
      rw [← hr, ← hz] at hx1
      have hfx := Um.nx_facts hx1
      have hF : fst T = (r, true) := by
        unfold fst
        rw [if_neg (by intro e; have a := hfx.2.2.2.1; have b := hfx.2.2.2.2.1; rw [e] at a; simp at a; omega), Um.dc_ok hx1, hx1]
        rfl
      have hn := hfx.1
      unfold Um.rn at hn
      have hen := Um.encode_S hfx.1
      have hsz : (S (Um.enc r)).size = z := by rw [S_size]; exact hfx.2.2.1
      have hw1 : IntKind.i64.wrap (r : Int) = (r : Int) := IntWalk.i64_in _ (by omega)
      rw [hx1]
      have HF := Lib.hid hF
      clear h hx hx1 hr hz hfx hF t0
      go_enter Tryz.func59, Tryz.ntmps59
      go_wp2_with fail
      refine (first_at (Below.refl _ _) _ (by omega) HF.out).mono ?_; rintro e w1 ⟨rfl, h1⟩
      go_wp2_with fail
      go_ret3
      exact ⟨rfl, h1⟩
    · by_cases hT0 : T = []
      · have hE : (S T).toList = [] := by rw [S_toList, hT0]
        have hF : fst T = (0, false) := by unfold fst; rw [if_pos hT0]
        rw [h]
        have HF := Lib.hid hF
        clear h hx t0 hF hT0
        go_enter Tryz.func59, Tryz.ntmps59
        go_wp2_with fail
        refine (first_at (Below.refl _ _) _ (by omega) HF.out).mono ?_; rintro e w1 ⟨rfl, h1⟩
        go_wp2_with fail
        go_ret3
        exact ⟨rfl, h1⟩
      have hE : ¬ (S T).toList = [] := by rw [S_toList]; exact hT0
      have hE2 : (S T).toList.isEmpty = false := by rw [List.isEmpty_eq_false_iff]; exact hE
      have hpos := List.length_pos_iff.2 hT0
      have hF : fst T = (65533, false) := by
        unfold fst
        rw [if_neg hT0, Um.dc_no (by rw [h]; decide) hpos, h]
        rfl
      have hb : decide (Um.nx T = (0, 0, 4)) = true := by rw [h]; rfl
      have hne : (Um.nx T).2.2 ≠ 0 := by rw [h]; decide
      have HF := Lib.hid hF
      have HB := Lib.hid hb
      have HN := Lib.hid hne
      rw [h]
      clear h hx t0 hT0 hF hb hne
      go_enter Tryz.func59, Tryz.ntmps59
      go_wp2_with fail
      refine (first_at (Below.refl _ _) _ (by omega) HF.out).mono ?_; rintro e w1 ⟨rfl, h1⟩
      go_wp2_with fail
      refine (begins_at h1 _ hpos t4 HN.out HB.out).mono ?_; rintro e w2 ⟨rfl, h2⟩
      go_wp2_with fail
      go_ret3
      exact ⟨rfl, h2⟩
    · have hT0 : T ≠ [] := by intro e; rw [e] at h; revert h; decide
      have hE : ¬ (S T).toList = [] := by rw [S_toList]; exact hT0
      have hE2 : (S T).toList.isEmpty = false := by rw [List.isEmpty_eq_false_iff]; exact hE
      have hpos := List.length_pos_iff.2 hT0
      have hF : fst T = (65533, false) := by
        unfold fst
        rw [if_neg hT0, Um.dc_no (by rw [h]; decide) hpos, h]
        rfl
      have hb : decide (Um.nx T = (0, 0, 4)) = false := by rw [h]; rfl
      have hne : (Um.nx T).2.2 ≠ 0 := by rw [h]; decide
      have HF := Lib.hid hF
      have HB := Lib.hid hb
      have HN := Lib.hid hne
      rw [h]
      clear h hx t0 hT0 hF hb hne
      go_enter Tryz.func59, Tryz.ntmps59
      go_wp2_with fail
      refine (first_at (Below.refl _ _) _ (by omega) HF.out).mono ?_; rintro e w1 ⟨rfl, h1⟩
      go_wp2_with fail
      refine (begins_at h1 _ hpos t4 HN.out HB.out).mono ?_; rintro e w2 ⟨rfl, h2⟩
      go_wp2_with fail
      go_ret3
      exact ⟨rfl, h2⟩
  · refine HX R.length (by omega) (fun T hT2 t4 t0 hx => ?_)
    clear HX
    rw [← hx]
    rcases Um.nx_cases T with ⟨h, _⟩ | h | h
    · have hx1 := Um.nx_eta h
      obtain ⟨r, hr⟩ : ∃ r, r = (Um.nx T).1 := ⟨_, rfl⟩
      obtain ⟨z, hz⟩ : ∃ z, z = (Um.nx T).2.1 := ⟨_, rfl⟩
      rw [← hr, ← hz] at hx1
      have hfx := Um.nx_facts hx1
      have hF : fst T = (r, true) := by
        unfold fst
        rw [if_neg (by intro e; have a := hfx.2.2.2.1; have b := hfx.2.2.2.2.1; rw [e] at a; simp at a; omega), Um.dc_ok hx1, hx1]
        rfl
      have hn := hfx.1
      unfold Um.rn at hn
      have hen := Um.encode_S hfx.1
      have hsz : (S (Um.enc r)).size = z := by rw [S_size]; exact hfx.2.2.1
      have hw1 : IntKind.i64.wrap (r : Int) = (r : Int) := IntWalk.i64_in _ (by omega)
      rw [hx1]
      have HF := Lib.hid hF
      clear h hx hx1 hr hz hfx hF t0
      go_enter Tryz.func59, Tryz.ntmps59
      go_wp2_with fail
      refine (first_at (Below.refl _ _) _ (by omega) HF.out).mono ?_; rintro e w1 ⟨rfl, h1⟩
      go_wp2_with fail
      go_ret3
      exact ⟨rfl, h1⟩
    · by_cases hT0 : T = []
      · have hE : (S T).toList = [] := by rw [S_toList, hT0]
        have hF : fst T = (0, false) := by unfold fst; rw [if_pos hT0]
        rw [h]
        have HF := Lib.hid hF
        clear h hx t0 hF hT0
        go_enter Tryz.func59, Tryz.ntmps59
        go_wp2_with fail
        refine (first_at (Below.refl _ _) _ (by omega) HF.out).mono ?_; rintro e w1 ⟨rfl, h1⟩
        go_wp2_with fail
        go_ret3
        exact ⟨rfl, h1⟩
      have hE : ¬ (S T).toList = [] := by rw [S_toList]; exact hT0
      have hE2 : (S T).toList.isEmpty = false := by rw [List.isEmpty_eq_false_iff]; exact hE
      have hpos := List.length_pos_iff.2 hT0
      have hF : fst T = (65533, false) := by
        unfold fst
        rw [if_neg hT0, Um.dc_no (by rw [h]; decide) hpos, h]
        rfl
      have hb : decide (Um.nx T = (0, 0, 4)) = true := by rw [h]; rfl
      have hne : (Um.nx T).2.2 ≠ 0 := by rw [h]; decide
      have HF := Lib.hid hF
      have HB := Lib.hid hb
      have HN := Lib.hid hne
      rw [h]
      clear h hx t0 hT0 hF hb hne
      go_enter Tryz.func59, Tryz.ntmps59
      go_wp2_with fail
      refine (first_at (Below.refl _ _) _ (by omega) HF.out).mono ?_; rintro e w1 ⟨rfl, h1⟩
      go_wp2_with fail
      refine (begins_at h1 _ hpos t4 HN.out HB.out).mono ?_; rintro e w2 ⟨rfl, h2⟩
      go_wp2_with fail
      go_ret3
      exact ⟨rfl, h2⟩
    · have hT0 : T ≠ [] := by intro e; rw [e] at h; revert h; decide
      have hE : ¬ (S T).toList = [] := by rw [S_toList]; exact hT0
      have hE2 : (S T).toList.isEmpty = false := by rw [List.isEmpty_eq_false_iff]; exact hE
      have hpos := List.length_pos_iff.2 hT0
      have hF : fst T = (65533, false) := by
        unfold fst
        rw [if_neg hT0, Um.dc_no (by rw [h]; decide) hpos, h]
        rfl
      have hb : decide (Um.nx T = (0, 0, 4)) = false := by rw [h]; rfl
      have hne : (Um.nx T).2.2 ≠ 0 := by rw [h]; decide
      have HF := Lib.hid hF
      have HB := Lib.hid hb
      have HN := Lib.hid hne
      rw [h]
      clear h hx t0 hT0 hF hb hne
      go_enter Tryz.func59, Tryz.ntmps59
      go_wp2_with fail
      refine (first_at (Below.refl _ _) _ (by omega) HF.out).mono ?_; rintro e w1 ⟨rfl, h1⟩
      go_wp2_with fail
      refine (begins_at h1 _ hpos t4 HN.out HB.out).mono ?_; rintro e w2 ⟨rfl, h2⟩
      go_wp2_with fail
      go_ret3
      exact ⟨rfl, h2⟩
theorem Next_at {w0 w : World} (h : Below w0.heap.size w0 w) (l : List UInt8) (k : Int) {x : Nat × Nat × Nat} (hx : NX l k = x) :
    Calls Tryz.prog 59 #[.string (S l), .int .i64 k] w fun e w' => e = .returned (.tuple #[.int .i64 (x.1 : Int), .int .i64 (x.2.1 : Int), .int .i64 (x.2.2 : Int)]) ∧ Below w0.heap.size w0 w' := by
  subst hx
  exact from_ h (Next_any l k w)

/-- is a number a rune? -/
def rune (k : Int) : Prop := 0 ≤ k ∧ (k < 55296 ∨ (57344 ≤ k ∧ k ≤ 1114111))
instance (k : Int) : Decidable (rune k) := by unfold rune; infer_instance
def PUT (k : Int) : List UInt8 × Int := if rune k then (Um.enc k.toNat, 0) else ([], 1)
theorem PUT_no {k : Int} (h : ¬ rune k) : PUT k = ([], 1) := by unfold PUT; rw [if_neg h]
theorem PUT_ok {k : Int} (h : rune k) : PUT k = (Um.enc k.toNat, 0) := by unfold PUT; rw [if_pos h]
theorem S_nil : (⟨#[]⟩ : ByteArray) = S [] := rfl
set_option maxHeartbeats 400000 in
theorem Put_any (k : Int) (w : World) :
    Calls Tryz.prog 140 #[.int .i64 k] w fun e w' => e = .returned (.tuple #[.string (S (PUT k).1), .int .i64 (PUT k).2]) ∧ w = w' := by
  by_cases h1 : k < 0
  · rw [PUT_no (by unfold rune; omega)]
    go_enter Tryz.func140, Tryz.ntmps140
    go_wp2_with fail
    go_ret2
    exact ⟨rfl, rfl⟩
  by_cases h2 : (1114111 : Int) < k
  · rw [PUT_no (by unfold rune; omega)]
    go_enter Tryz.func140, Tryz.ntmps140
    go_wp2_with fail
    go_ret2
    exact ⟨rfl, rfl⟩
  by_cases h3 : k < 55296
  · have hr : rune k := by unfold rune; omega
    have hn : Um.rn k.toNat := by unfold Um.rn; omega
    have he := Um.encode_S hn
    rw [show ((k.toNat : Nat) : Int) = k by omega] at he
    have hw : IntKind.i32.wrap k = k := by unfold IntKind.wrap; simp [IntKind.bits, IntKind.signed]; omega
    rw [PUT_ok hr]
    clear hr hn
    go_enter Tryz.func140, Tryz.ntmps140
    go_wp2_with fail
    go_ret2
    exact ⟨rfl, rfl⟩
  by_cases h4 : k ≤ 57343
  · rw [PUT_no (by unfold rune; omega)]
    go_enter Tryz.func140, Tryz.ntmps140
    go_wp2_with fail
    go_ret2
    exact ⟨rfl, rfl⟩
  · have hr : rune k := by unfold rune; omega
    have hn : Um.rn k.toNat := by unfold Um.rn; omega
    have he := Um.encode_S hn
    rw [show ((k.toNat : Nat) : Int) = k by omega] at he
    have hw : IntKind.i32.wrap k = k := by unfold IntKind.wrap; simp [IntKind.bits, IntKind.signed]; omega
    rw [PUT_ok hr]
    clear hr hn
    go_enter Tryz.func140, Tryz.ntmps140
    go_wp2_with fail
    go_ret2
    exact ⟨rfl, rfl⟩
end Go.Proofs.YtpifbmcgadjhbaaGreatDoor
