/-
  What the program's size and May come to.
-/
import Derived.Test.YtpifbmcgadjhbaaDoorValMay
namespace Go.Proofs.YtpifbmcgadjhbaaDoor
open Go.RowKit

namespace JV
/-- may it be, with so many values and so deep at most? -/
def ok (x : JV) (M D : Int) : Prop := x.part = true ∧ (x.cnt : Int) ≤ M ∧ (x.dep : Int) ≤ D
theorem parts_get : ∀ {xs : List JV} {i : Nat} {x : JV}, parts xs = true → xs[i]? = some x → part x = true
  | [], i, x, _, h => by simp at h
  | y :: ys, 0, x, hp, h => by
    obtain rfl : y = x := by simpa using h
    rw [parts, Bool.and_eq_true] at hp
    exact hp.1
  | y :: ys, i + 1, x, hp, h => by
    rw [parts, Bool.and_eq_true] at hp
    exact parts_get hp.2 (show ys[i]? = some x by simpa using h)
theorem deps_get : ∀ {xs : List JV} {i : Nat} {x : JV}, xs[i]? = some x → dep x ≤ deps xs
  | [], i, x, h => by simp at h
  | y :: ys, 0, x, h => by
    obtain rfl : y = x := by simpa using h
    unfold deps
    omega
  | y :: ys, i + 1, x, h => by
    have := deps_get (show ys[i]? = some x by simpa using h)
    unfold deps
    omega
theorem deps_all : ∀ (xs : List JV) (D : Int), 0 ≤ D → (∀ (i : Nat) x, xs[i]? = some x → (dep x : Int) ≤ D) → (deps xs : Int) ≤ D
  | [], D, h, _ => by unfold deps; exact h
  | y :: ys, D, h, ha => by
    have h1 := ha 0 y rfl
    have h2 := deps_all ys D h fun i x hx => ha (i + 1) x (by simpa using hx)
    unfold deps
    omega
theorem formed_flat {x : JV} (h : x.formed = true) (hk : ¬ (x.k = 4 ∨ x.k = 5)) : x.is.length = 0 := by
  rw [formed] at h
  by_cases h1 : x.k = 1
  · rw [if_pos h1] at h
    simp only [Bool.and_eq_true, beq_iff_eq] at h
    exact h.2.2.2
  rw [if_neg h1] at h
  by_cases h2 : x.k = 2
  · rw [if_pos h2] at h
    simp only [Bool.and_eq_true, beq_iff_eq] at h
    exact h.2.2
  rw [if_neg h2] at h
  by_cases h3 : x.k = 3
  · rw [if_pos h3] at h
    simp only [Bool.and_eq_true, beq_iff_eq] at h
    exact h.2.2.2
  rw [if_neg h3, if_neg (fun h => hk (.inl h)), if_neg (fun h => hk (.inr h))] at h
  cases h
theorem ok_no_many {x : JV} {M D : Int} (h : M ≤ (x.is.length : Int)) : ¬ x.ok M D := fun ⟨_, h2, _⟩ => by
  have := len_le x.is
  have := x.cnt_eq
  omega
theorem ok_no_deep {x : JV} {M : Int} (hk : x.k = 4 ∨ x.k = 5) : ¬ x.ok M 0 := fun ⟨_, _, h3⟩ => by
  rw [dep_eq, if_pos hk] at h3
  omega
theorem ok_no_form {x : JV} {M D : Int} (h : x.formed = false) : ¬ x.ok M D := fun ⟨h1, _⟩ => by
  rw [part_formed, h] at h1
  cases h1
/-- an Item is not -/
theorem ok_no_item {x y : JV} {i : Nat} {M D E : Int} (hy : x.is[i]? = some y) (hE : (x.k = 4 ∨ x.k = 5) ∧ E = D - 1 ∨ ¬ (x.k = 4 ∨ x.k = 5) ∧ E = D) (hf : x.formed = true)
    (hno : ¬ y.ok (M - ((1 + cnts (x.is.take i) : Nat) : Int)) E) : ¬ x.ok M D := fun ⟨h1, h2, h3⟩ => hno (by
  refine ⟨?_, ?_, ?_⟩
  · rw [part_formed, hf, Bool.true_and] at h1
    exact parts_get h1 hy
  · have hs := cnts_take_le x.is (i + 1)
    rw [take_snoc hy, cnts_snoc] at hs
    have := x.cnt_eq
    omega
  · have hd := deps_get hy
    rcases hE with ⟨hk, he⟩ | ⟨hk, he⟩
    · rw [dep_eq, if_pos hk] at h3
      omega
    · have := formed_flat hf hk
      have := (List.getElem?_eq_some_iff.1 hy).1
      omega)
/-- it is -/
theorem ok_yes {x : JV} {M D E : Int} (hE : (x.k = 4 ∨ x.k = 5) ∧ E = D - 1 ∨ ¬ (x.k = 4 ∨ x.k = 5) ∧ E = D) (h0 : 0 ≤ E) (hf : x.formed = true) (ha : ∀ (i : Nat) y, x.is[i]? = some y → part y = true ∧ (dep y : Int) ≤ E)
    (hM : ((1 + cnts x.is : Nat) : Int) ≤ M) : x.ok M D := by
  refine ⟨?_, ?_, ?_⟩
  · rw [part_formed, hf, Bool.true_and]
    exact parts_all x.is fun i y h => (ha i y h).1
  · rw [cnt_eq]
    exact hM
  · have := deps_all x.is E h0 fun i y h => (ha i y h).2
    rw [dep_eq]
    rcases hE with ⟨hk, he⟩ | ⟨hk, he⟩
    · rw [if_pos hk]
      omega
    · rw [if_neg hk]
      omega
end JV
set_option maxHeartbeats 4000000 in
set_option maxRecDepth 10000 in
theorem vsize_any : ∀ (K : Nat) (x : JV), x.cnt ≤ K → x.wt ≤ 90000 → ∀ (M D : Int), 0 ≤ M → M ≤ 8192 → 0 ≤ D → D ≤ 12 → ∀ (w : World) (v : Value), HV w v x →
    Calls Tryd.prog 25 #[v, .int .i64 M, .int .i64 D] w fun e w' => (∃ Z : Int, e = .returned (.int .i64 Z) ∧ (x.ok M D ∧ Z = (x.cnt : Int) ∨ ¬ x.ok M D ∧ Z = 0)) ∧ Below w.heap.size w w' := by
  intro K
  induction K with
  | zero => intro x h; have := x.cnt_pos; omega
  | succ K ih =>
  intro x hK hwt M D hM0 hM1 hD0 hD1 w v hv
  have hwe := x.wt_eq
  obtain ⟨cs, rfl, hc⟩ := hv
  obtain ⟨a, b, ca, cb, rfl, hB, hN, hI⟩ := hc.form
  have cF := fun w1 (h : Below w.heap.size w w1) {c : Bool} (hc0 : x.formed = c) => vFormed_any x hwt w1 _ ⟨_, rfl, HC.below h x _ hc⟩ hc0
  rw [show ([Value.int .u8 (x.k : Int), .int .i64 x.n, .string (S x.t), .slice a x.ns.length ca, .slice b x.is.length cb]).toArray = #[Value.int .u8 (x.k : Int), .int .i64 x.n, .string (S x.t), .slice a x.ns.length ca, .slice b x.is.length cb] from rfl] at cF
  obtain ⟨m, hm⟩ : ∃ m, x.is.length = m := ⟨_, rfl⟩
  have hm2 : (m : Int) ≤ 90000 := by have := JV.len_le x.is; have := x.cnt_eq; have := x.cnt_wt; omega
  have hcn : (x.cnt : Int) ≤ 90000 := by have := x.cnt_wt; omega
  rw [hm] at cF
  rw [hm]
  obtain ⟨kI, hk⟩ : ∃ z : Int, z = (x.k : Int) := ⟨_, rfl⟩
  have cN := fun w c hc => nests_any w x a b ca cb x.ns.length m kI x.n x.t hk (c := c) hc
  rw [← hk] at cF
  rw [← hk]
  have HM := Lib.hid hm
  have HCF := Lib.hid (fun w1 (h : Below w.heap.size w w1) (c : Bool) (hc0 : x.formed = c) => cF w1 h hc0)
  have HNo1 : Hid (M ≤ (m : Int) → ¬ x.ok M D) := fun h => JV.ok_no_many (by rw [hm]; exact h)
  have HI1 := Lib.hid hI
  have HWT : Hid (∀ (i : Nat) y, x.is[i]? = some y → y.wt ≤ 90000 ∧ y.cnt ≤ K) := fun i y hy => by
    have := JV.wts_get hy
    have := JV.cnt_item hy
    omega
  clear hm hc hk cF hB hN hI hwe
  obtain ⟨W1, hW1⟩ : ∃ W, W = w.alloc (.cells #[.int .u8 kI, .int .i64 x.n, .string (S x.t), .slice a x.ns.length ca, .slice b m cb] 25) := ⟨_, rfl⟩
  have V1 : VAt w.heap.size W1 (.int .u8 kI) (.int .i64 x.n) (.string (S x.t)) (.slice a x.ns.length ca) (.slice b m cb) := by rw [hW1]; exact VAt.new ..
  have b1 : Below w.heap.size w W1 := by rw [hW1]; exact (Below.refl _ _).alloc (Nat.le_refl _) _
  obtain ⟨c, hcc⟩ : ∃ c, c = decide (x.k = 4 ∨ x.k = 5) := ⟨_, rfl⟩
  have cN := fun w => cN w c hcc
  obtain ⟨E, hE⟩ : ∃ E : Int, E = if c then D - 1 else D := ⟨_, rfl⟩
  have HE : Hid ((x.k = 4 ∨ x.k = 5) ∧ E = D - 1 ∨ ¬ (x.k = 4 ∨ x.k = 5) ∧ E = D) := by
    cases c with
    | true => exact .inl ⟨of_decide_eq_true hcc.symm, by rw [hE]; rfl⟩
    | false => exact .inr ⟨of_decide_eq_false hcc.symm, by rw [hE]; rfl⟩
  have HNo2 : Hid (E < 0 → ¬ x.ok M D) := fun h => by
    rcases HE.out with ⟨h1, h2⟩ | ⟨h1, h2⟩
    · obtain rfl : D = 0 := by omega
      exact JV.ok_no_deep h1
    · omega
  have hE1 : -1 ≤ E := by cases c <;> simp at hE <;> omega
  have hE2 : E ≤ 12 := by cases c <;> simp at hE <;> omega
  clear hcc
  have hx : c = true ∧ D - 1 = E ∨ c = false ∧ D = E := by cases c <;> simp_all
  clear hE
  rcases hx with ⟨rfl, hx⟩ | ⟨rfl, hx⟩
  all_goals
    by_cases hMm : M ≤ (m : Int)
    · have HN := HNo1.out hMm
      go_enter Tryd.func25, Tryd.ntmps25
      go_wp2_with fail
      rw [← hW1]
      refine (cN _).mono ?_; rintro e w2 ⟨rfl, b2⟩
      have V2 := V1.below b2
      obtain ⟨⟨p0, p1, p2, p3, p4⟩, _⟩ := V2.cells
      clear HNo1 HNo2 HN
      go_wp2_with fail
      go_ret
      exact ⟨⟨0, rfl, .inr ⟨JV.ok_no_many (by rw [HM.out]; exact hMm), rfl⟩⟩, b1.trans (b2.mono b1.size)⟩
    by_cases hE0 : E < 0
    · first
      | (exfalso; omega)
      | (go_enter Tryd.func25, Tryd.ntmps25
         go_wp2_with fail
         rw [← hW1]
         refine (cN _).mono ?_; rintro e w2 ⟨rfl, b2⟩
         have V2 := V1.below b2
         obtain ⟨⟨p0, p1, p2, p3, p4⟩, _⟩ := V2.cells
         go_wp2_with fail
         go_ret
         exact ⟨⟨0, rfl, .inr ⟨HNo2.out hE0, rfl⟩⟩, b1.trans (b2.mono b1.size)⟩)
    obtain ⟨f, hf⟩ : ∃ f, x.formed = f := ⟨_, rfl⟩
    have cF := fun w1 h => HCF.out w1 h f hf
    have HF := Lib.hid hf
    clear hf
    cases f
    · go_enter Tryd.func25, Tryd.ntmps25
      go_wp2_with fail
      rw [← hW1]
      refine (cN _).mono ?_; rintro e w2 ⟨rfl, b2⟩
      have V2 := V1.below b2
      have b3 := b1.trans (b2.mono b1.size)
      obtain ⟨⟨p0, p1, p2, p3, p4⟩, _⟩ := V2.cells
      go_wp2_with fail
      refine (cF _ b3).mono ?_; rintro e w4 ⟨rfl, b4⟩
      go_wp2_with fail
      go_ret
      exact ⟨⟨0, rfl, .inr ⟨JV.ok_no_form HF.out, rfl⟩⟩, b3.trans (b4.mono b3.size)⟩
    · go_enter Tryd.func25, Tryd.ntmps25
      go_wp2_with fail
      rw [← hW1]
      refine (cN _).mono ?_; rintro e w2 ⟨rfl, b2⟩
      have V2 := V1.below b2
      have b3 := b1.trans (b2.mono b1.size)
      obtain ⟨⟨p0, p1, p2, p3, p4⟩, _⟩ := V2.cells
      go_wp2_with fail
      refine (cF _ b3).mono ?_; rintro e W4 ⟨rfl, b4⟩
      have V4 := V2.below b4
      have b5 := b3.trans (b4.mono b3.size)
      clear p0 p1 p2 p3 p4
      obtain ⟨⟨p0, p1, p2, p3, p4⟩, _⟩ := V4.cells
      clear hW1 b1 b2 b3 b4 V1 V2 V4 cN cF
      go_wp2_with fail
      go_loopw [7, 32] (fun nv iv wr => ∃ i : Nat, iv = .int .i64 (i : Int) ∧ i ≤ m ∧ nv = .int .i64 ((1 + JV.cnts (x.is.take i) : Nat) : Int) ∧ ((1 + JV.cnts (x.is.take i) : Nat) : Int) ≤ M ∧
        Hid (∀ (j : Nat) y, j < i → x.is[j]? = some y → JV.part y = true ∧ (JV.dep y : Int) ≤ E) ∧ Below W4.heap.size W4 wr) (fun _ iv _ => m - (intOf iv).toNat)
      case atStart => exact ⟨0, rfl, Nat.zero_le _, rfl, by rw [List.take_zero]; unfold JV.cnts; omega, fun j y h => by omega, Below.refl _ _⟩
      case round =>
        obtain ⟨i, rfl, hi, rfl, hnM, HS, hW⟩ := hrel
        have hbr : Hid (Below w.heap.size w wr) := b5.trans (hW.mono b5.size)
        by_cases hlt : (i : Int) < (m : Int)
        · obtain ⟨y, hy⟩ : ∃ y, x.is[i]? = some y := ⟨x.is[i]'(by have := HM.out; omega), List.getElem?_eq_getElem _⟩
          obtain ⟨blk, off, rfl, hII⟩ := items_at HI1.out hy
          obtain ⟨c0, c1, c2, c3, c4, g0, g1, g2, g3, g4, hcy⟩ := (HI.below hbr.out _ _ _ hII).get hy
          obtain ⟨ya, yb, yca, ycb, rfl, rfl, rfl, rfl, rfl⟩ := five hcy
          obtain ⟨hyw, hyc⟩ := HWT.out i y hy
          have hsn : Hid (JV.cnts (x.is.take (i + 1)) = JV.cnts (x.is.take i) + y.cnt) := by rw [Hid, JV.take_snoc hy, JV.cnts_snoc]
          have HNI : Hid (¬ y.ok (M - ((1 + JV.cnts (x.is.take i) : Nat) : Int)) E → ¬ x.ok M D) := fun h => JV.ok_no_item hy HE.out HF.out h
          have HYY : Hid (∀ z, x.is[i]? = some z → z = y) := fun z hz => by rw [hy] at hz; simpa using hz.symm
          have cY := fun w v h => ih y hyc hyw (M - ((1 + JV.cnts (x.is.take i) : Nat) : Int)) E (by omega) (by omega) (by omega) (by omega) w v h
          have b9 : Below wr.heap.size wr (wr.alloc (.cells #[.int .u8 (y.k : Int), .int .i64 y.n, .string (S y.t), .slice ya y.ns.length yca, .slice yb y.is.length ycb] 25)) := (Below.refl _ _).alloc (Nat.le_refl _) _
          have hvy : HV (wr.alloc (.cells #[.int .u8 (y.k : Int), .int .i64 y.n, .string (S y.t), .slice ya y.ns.length yca, .slice yb y.is.length ycb] 25)) (.agg #[.int .u8 (y.k : Int), .int .i64 y.n, .string (S y.t), .slice ya y.ns.length yca, .slice yb y.is.length ycb]) y := ⟨_, rfl, HC.below b9 y _ hcy⟩
          have hpos := y.cnt_pos
          have hy20 : (y.cnt : Int) ≤ 90000 := by have := y.cnt_wt; omega
          obtain ⟨A, hA⟩ : ∃ A : Nat, 1 + JV.cnts (x.is.take i) = A := ⟨_, rfl⟩
          rw [hA] at cY hnM HNI
          rw [hA]
          have HA := Lib.hid hA
          have CY := cY _ _ hvy
          obtain ⟨Y, hY⟩ : ∃ Y : Nat, y.cnt = Y := ⟨_, rfl⟩
          rw [hY] at CY hpos hy20
          have HY := Lib.hid hY
          obtain ⟨OK, hOK⟩ : ∃ OK : Prop, OK = y.ok (M - (A : Int)) E := ⟨_, rfl⟩
          rw [← hOK] at CY HNI
          have HOK := Lib.hid hOK
          clear hy hcy hII hA hY hvy cY hOK hyw hyc
          go_wp2_with fail
          refine CY.mono ?_; rintro e w2 ⟨⟨Z, rfl, hZ⟩, b2'⟩
          have b8 := b9.trans (b2'.mono b9.size)
          rcases hZ with ⟨hok, rfl⟩ | ⟨hno, rfl⟩
          · have hz : ((Y : Int) == 0) = false := beq_eq_false_iff_ne.2 (by omega)
            have hAM : (A : Int) + (Y : Int) ≤ M := by
              have h1 := hok
              rw [HOK.out] at h1
              have := h1.2.1
              have := HY.out
              omega
            have HPD : Hid (JV.part y = true ∧ (JV.dep y : Int) ≤ E) := by
              rw [HOK.out] at hok
              exact ⟨hok.1, hok.2.2⟩
            clear hok
            go_wp2_with fail
            go_roundw
            case rel =>
              have hAY : 1 + JV.cnts (x.is.take (i + 1)) = A + Y := by rw [hsn.out, HY.out, ← HA.out]; omega
              refine ⟨i + 1, by go_num, by omega, ?_, ?_, fun j z hj hz => ?_, hW.trans (b8.mono hW.size)⟩
              · rw [hAY]
                congr 1
              · rw [hAY]
                omega
              · by_cases hji : j < i
                · exact HS.out j z hji hz
                · obtain rfl : j = i := by omega
                  rw [HYY.out z hz]
                  exact HPD.out
            case measure => simp [intOf]; omega
          · go_wp2_with fail
            go_ret
            exact ⟨⟨0, rfl, .inr ⟨HNI.out hno, rfl⟩⟩, hbr.out.trans (b8.mono hbr.out.size)⟩
        · obtain rfl : i = m := by omega
          have hall : x.is.take i = x.is := by rw [← HM.out]; exact List.take_length
          rw [hall] at hnM
          rw [hall]
          have HOK : Hid (x.ok M D) := JV.ok_yes HE.out (by omega) HF.out (fun j z hz => HS.out j z (by have := (List.getElem?_eq_some_iff.1 hz).1; have := HM.out; omega) hz) hnM
          have HCn := Lib.hid x.cnt_eq
          obtain ⟨A, hA⟩ : ∃ A : Nat, 1 + JV.cnts x.is = A := ⟨_, rfl⟩
          rw [hA] at hnM
          rw [hA]
          have HA := Lib.hid hA
          clear hA
          go_wp2_with fail
          go_ret
          first | exact ⟨⟨_, rfl, .inl ⟨HOK.out, by rw [HCn.out, HA.out]⟩⟩, hbr.out⟩ | exact ⟨⟨_, rfl, .inl ⟨hx ▸ HOK.out, by rw [HCn.out, HA.out]⟩⟩, hbr.out⟩
theorem may_ok (x : JV) : x.may = true ↔ x.ok 8192 12 := by
  unfold JV.may JV.ok
  simp only [Bool.and_eq_true, decide_eq_true_iff]
  constructor
  · rintro ⟨h1, h2, h3⟩
    exact ⟨h1, by omega, by omega⟩
  · rintro ⟨h1, h2, h3⟩
    exact ⟨h1, by omega, by omega⟩
set_option maxHeartbeats 1000000 in
set_option maxRecDepth 10000 in
theorem may_any (x : JV) (w : World) (v : Value) (hwt : x.wt ≤ 90000) (hv : HV w v x) {c : Bool} (hcc : x.may = c) :
    Calls Tryd.prog 15 #[v] w fun e w' => e = .returned (.bool c) ∧ Below w.heap.size w w' := by
  have hpos := x.cnt_pos
  have hc2 := x.cnt_wt
  obtain ⟨cs, rfl, hc⟩ := hv
  obtain ⟨a, b, ca, cb, rfl, hB, hN, hI⟩ := hc.form
  have b1 : Below w.heap.size w (w.alloc (.cells #[.int .u8 (x.k : Int), .int .i64 x.n, .string (S x.t), .slice a x.ns.length ca, .slice b x.is.length cb] 25)) := (Below.refl _ _).alloc (Nat.le_refl _) _
  have hv1 : HV (w.alloc (.cells #[.int .u8 (x.k : Int), .int .i64 x.n, .string (S x.t), .slice a x.ns.length ca, .slice b x.is.length cb] 25)) (.agg #[.int .u8 (x.k : Int), .int .i64 x.n, .string (S x.t), .slice a x.ns.length ca, .slice b x.is.length cb]) x := ⟨_, rfl, HC.below b1 x _ hc⟩
  have cS := vsize_any _ x (Nat.le_refl _) hwt 8192 12 (by omega) (by omega) (by omega) (by omega) _ _ hv1
  have HM : Hid (c = true ↔ x.ok 8192 12) := by rw [Hid, ← hcc]; exact may_ok x
  obtain ⟨C, hC⟩ : ∃ C : Nat, x.cnt = C := ⟨_, rfl⟩
  rw [hC] at cS hpos hc2
  clear hc hB hN hI hv1 hcc hC
  go_enter Tryd.func15, Tryd.ntmps15
  go_wp2_with fail
  refine cS.mono ?_; rintro e w2 ⟨⟨Z, rfl, hZ⟩, b2⟩
  rcases hZ with ⟨hok, rfl⟩ | ⟨hno, rfl⟩
  · have hz : (0 : Int) < (C : Int) := by omega
    obtain rfl : c = true := HM.out.2 hok
    clear hok
    go_wp2_with fail
    go_ret
    exact ⟨ret_bool (by first | rfl | (simp; omega)), b1.trans (b2.mono b1.size)⟩
  · obtain rfl : c = false := by
      cases c with
      | false => rfl
      | true => exact absurd (HM.out.1 rfl) hno
    clear hno
    go_wp2_with fail
    go_ret
    exact ⟨ret_bool (by first | rfl | simp), b1.trans (b2.mono b1.size)⟩
end Go.Proofs.YtpifbmcgadjhbaaDoor
