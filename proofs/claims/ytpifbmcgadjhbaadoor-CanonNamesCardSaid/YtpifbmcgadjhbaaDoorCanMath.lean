/-
  The one form of a value (no program): byte by byte; how it grows; how long it is; that it tells the value.
-/
import Derived.Test.YtpifbmcgadjhbaaDoorValRefMay
import Derived.Test.YtpifbmcgadjhbaaDoorValSize
import Derived.Test.YtpifbmcgadjhbaaDoorQuoteRead
import Derived.Test.YtpifbmcgadjhbaaDoorNumMath
namespace Go.Proofs.YtpifbmcgadjhbaaDoor
open Go.RowKit
namespace Cn

def TRUE : List UInt8 := [116, 114, 117, 101]
def FALSE : List UInt8 := [102, 97, 108, 115, 101]
/-- a comma, but ahead of the first -/
def hd (b : Bool) : List UInt8 := if b then [44] else []
mutual
def form : JV → List UInt8
  | .mk k n t ns is => if k = 4 then 91 :: (cat false is ++ [93]) else if k = 5 then 123 :: (mem false ns is ++ [125]) else if k = 2 then Lib.itoa n else if k = 3 then Qm.quo t else if n = 1 then TRUE else FALSE
def cat : Bool → List JV → List UInt8
  | _, [] => []
  | b, x :: xs => hd b ++ (form x ++ cat true xs)
def mem : Bool → List (List UInt8) → List JV → List UInt8
  | _, _, [] => []
  | _, [], _ :: _ => []
  | b, n :: ns, x :: xs => hd b ++ (Qm.quo n ++ 58 :: (form x ++ mem true ns xs))
end
theorem form_eq (x : JV) : form x = if x.k = 4 then 91 :: (cat false x.is ++ [93]) else if x.k = 5 then 123 :: (mem false x.ns x.is ++ [125]) else if x.k = 2 then Lib.itoa x.n else if x.k = 3 then Qm.quo x.t else if x.n = 1 then TRUE else FALSE := by
  match x with
  | .mk k n t ns is => rw [form]; rfl
theorem cat_snoc : ∀ (b : Bool) (xs : List JV) (x : JV), cat b (xs ++ [x]) = cat b xs ++ (hd (b || !xs.isEmpty) ++ form x)
  | b, [], x => by simp [cat]
  | b, y :: ys, x => by
    rw [List.cons_append, cat, cat, cat_snoc true ys x]
    simp
theorem mem_snoc : ∀ (b : Bool) (ns : List (List UInt8)) (xs : List JV) (n : List UInt8) (x : JV), ns.length = xs.length → mem b (ns ++ [n]) (xs ++ [x]) = mem b ns xs ++ (hd (b || !xs.isEmpty) ++ (Qm.quo n ++ 58 :: form x))
  | b, [], [], n, x, _ => by simp [mem]
  | b, m :: ns, y :: ys, n, x, h => by
    rw [List.cons_append, List.cons_append, mem, mem, mem_snoc true ns ys n x (by simpa using h)]
    simp
theorem take_empty {α : Type} {xs : List α} {i : Nat} {x : α} (h : xs[i]? = some x) : (!(xs.take i).isEmpty) = decide (0 < i) := by
  cases xs with
  | nil => simp at h
  | cons y ys => cases i with
    | zero => simp
    | succ i => simp
theorem cat_step {xs : List JV} {i : Nat} {x : JV} (h : xs[i]? = some x) : cat false (xs.take (i + 1)) = cat false (xs.take i) ++ (hd (decide (0 < i)) ++ form x) := by
  rw [JV.take_snoc' h, cat_snoc, Bool.false_or, take_empty h]
theorem mem_step {ns : List (List UInt8)} {xs : List JV} {i : Nat} {n : List UInt8} {x : JV} (hl : ns.length = xs.length) (hn : ns[i]? = some n) (h : xs[i]? = some x) : mem false (ns.take (i + 1)) (xs.take (i + 1)) = mem false (ns.take i) (xs.take i) ++ (hd (decide (0 < i)) ++ (Qm.quo n ++ 58 :: form x)) := by
  rw [JV.take_snoc' h, JV.take_snoc' hn, mem_snoc _ _ _ _ _ (by simp [hl]), Bool.false_or, take_empty h]
theorem cat_take : ∀ (b : Bool) (xs : List JV) (i : Nat), (cat b (xs.take i)).length ≤ (cat b xs).length
  | b, [], i => by simp
  | b, x :: xs, 0 => by simp [cat]
  | b, x :: xs, i + 1 => by
    have := cat_take true xs i
    rw [List.take_succ_cons, cat, cat]
    simp only [List.length_append]
    omega
theorem mem_take : ∀ (b : Bool) (ns : List (List UInt8)) (xs : List JV) (i : Nat), (mem b (ns.take i) (xs.take i)).length ≤ (mem b ns xs).length
  | b, ns, [], i => by simp [mem]
  | b, [], x :: xs, i => by cases i <;> simp [mem]
  | b, n :: ns, x :: xs, 0 => by simp [mem]
  | b, n :: ns, x :: xs, i + 1 => by
    have := mem_take true ns xs i
    rw [List.take_succ_cons, List.take_succ_cons, mem, mem]
    simp only [List.length_append, List.length_cons]
    omega
/-! How long. -/
mutual
/-- its numbers have 64 bits -/
def inr : JV → Prop
  | .mk _ n _ _ is => (-9223372036854775808 ≤ n ∧ n ≤ 9223372036854775807) ∧ inrs is
def inrs : List JV → Prop
  | [] => True
  | x :: xs => inr x ∧ inrs xs
end
theorem itoa_len {n : Int} (h0 : -9223372036854775808 ≤ n) (h1 : n ≤ 9223372036854775807) : (Lib.itoa n).length ≤ 20 := by
  refine Nat.le_of_not_lt fun h => ?_
  have h2 := Nm.long_out (Nm.form_itoa n) h
  rw [Nm.val_itoa] at h2
  unfold Nm.inR at h2
  simp at h2
  omega
theorem quo_len (s : List UInt8) : (Qm.quo s).length ≤ 2 * s.length + 2 ∧ 2 ≤ (Qm.quo s).length := by
  have := (Qm.esc_len s).2
  unfold Qm.quo
  rw [List.length_cons, List.length_append, List.length_singleton]
  omega
theorem hd_len (b : Bool) : (hd b).length ≤ 1 := by cases b <;> simp [hd]
mutual
theorem form_len : ∀ x : JV, inr x → (form x).length + 1 ≤ 6 * x.wt
  | .mk k n t ns is, h => by
    rw [inr] at h
    have h1 := cat_len false is h.2
    have h2 := mem_len false ns is h.2
    have h3 := itoa_len h.1.1 h.1.2
    have h4 := (quo_len t).1
    rw [form, JV.wt]
    split
    · simp only [List.length_cons, List.length_append, List.length_nil]; omega
    · split
      · simp only [List.length_cons, List.length_append, List.length_nil]; omega
      · split
        · omega
        · split
          · omega
          · split
            · simp [TRUE]; omega
            · simp [FALSE]; omega
theorem cat_len : ∀ (b : Bool) (xs : List JV), inrs xs → (cat b xs).length ≤ 6 * JV.wts xs
  | b, [], _ => by simp [cat]
  | b, x :: xs, h => by
    rw [inrs] at h
    have h1 := form_len x h.1
    have h2 := cat_len true xs h.2
    have h3 := hd_len b
    rw [cat, JV.wts]
    simp only [List.length_append]
    omega
theorem mem_len : ∀ (b : Bool) (ns : List (List UInt8)) (xs : List JV), inrs xs → (mem b ns xs).length ≤ 6 * JV.wts xs + 6 * JV.wn ns
  | b, ns, [], _ => by simp [mem]
  | b, [], x :: xs, _ => by simp [mem]
  | b, n :: ns, x :: xs, h => by
    rw [inrs] at h
    have h1 := form_len x h.1
    have h2 := mem_len true ns xs h.2
    have h3 := hd_len b
    have h4 := (quo_len n).1
    rw [mem, JV.wts, JV.wn]
    simp only [List.length_append, List.length_cons]
    omega
end
mutual
theorem inr_of {w : World} : ∀ (x : JV) (cs : List Value), HC w cs x → inr x
  | .mk k n t ns is, cs, h => by
    unfold HC at h
    obtain ⟨a, b, ca, cb, _, h2, _, h4⟩ := h
    rw [inr]
    refine ⟨h2.2.1, ?_⟩
    rcases h4 with rfl | ⟨blk, off, _, h6⟩
    · rw [inrs]; trivial
    · exact inrs_of is blk off h6
theorem inrs_of {w : World} : ∀ (xs : List JV) (blk off : Nat), HI w blk off xs → inrs xs
  | [], _, _, _ => by rw [inrs]; trivial
  | x :: xs, blk, off, h => by
    unfold HI at h
    obtain ⟨⟨c0, c1, c2, c3, c4, _, _, _, _, _, hc⟩, hr⟩ := h
    rw [inrs]
    exact ⟨inr_of x _ hc, inrs_of xs blk (off + 5) hr⟩
end
/-! It tells the value. -/
theorem esc_free : ∀ (s t u v : List UInt8), Qm.esc s ++ 34 :: u = Qm.esc t ++ 34 :: v → s = t
  | [], [], _, _, _ => rfl
  | [], d :: t, u, v, h => by
    rw [Qm.esc_nil, List.nil_append, Qm.esc_cons] at h
    by_cases hd : d = 34 ∨ d = 92
    · rw [if_pos hd] at h
      simp at h
    · rw [if_neg hd] at h
      simp only [List.cons_append, List.nil_append, List.cons.injEq] at h
      exact absurd (.inl h.1.symm) hd
  | c :: s, [], u, v, h => by
    rw [Qm.esc_nil, List.nil_append, Qm.esc_cons] at h
    by_cases hc : c = 34 ∨ c = 92
    · rw [if_pos hc] at h
      simp at h
    · rw [if_neg hc] at h
      simp only [List.cons_append, List.nil_append, List.cons.injEq] at h
      exact absurd (.inl h.1) hc
  | c :: s, d :: t, u, v, h => by
    rw [Qm.esc_cons, Qm.esc_cons] at h
    by_cases hc : c = 34 ∨ c = 92
    · rw [if_pos hc] at h
      by_cases hd : d = 34 ∨ d = 92
      · rw [if_pos hd] at h
        simp only [List.cons_append, List.nil_append, List.cons.injEq, true_and] at h
        rw [h.1, esc_free s t u v h.2]
      · rw [if_neg hd] at h
        simp only [List.cons_append, List.nil_append, List.cons.injEq] at h
        exact absurd (.inr h.1.symm) hd
    · rw [if_neg hc] at h
      by_cases hd : d = 34 ∨ d = 92
      · rw [if_pos hd] at h
        simp only [List.cons_append, List.nil_append, List.cons.injEq] at h
        exact absurd (.inr h.1) hc
      · rw [if_neg hd] at h
        simp only [List.cons_append, List.nil_append, List.cons.injEq] at h
        rw [h.1, esc_free s t u v h.2]
theorem quo_free {s t u v : List UInt8} (h : Qm.quo s ++ u = Qm.quo t ++ v) : s = t ∧ u = v := by
  have e : s = t := by
    unfold Qm.quo at h
    simp only [List.cons_append, List.append_assoc, List.cons.injEq, true_and, List.nil_append] at h
    exact esc_free s t u v h
  subst e
  exact ⟨rfl, List.append_cancel_left h⟩
/-- bytes that a number does not go on with -/
def Dst (u : List UInt8) : Prop := ∀ b, u.head? = some b → Nm.dig b = false
theorem dig_free : ∀ (s t u v : List UInt8), s.all Nm.dig = true → t.all Nm.dig = true → Dst u → Dst v → s ++ u = t ++ v → s = t ∧ u = v
  | [], [], u, v, _, _, _, _, h => ⟨rfl, h⟩
  | [], d :: t, u, v, _, ht, hu, _, h => by
    simp only [List.all_cons, Bool.and_eq_true] at ht
    have := hu d (by rw [show u = d :: (t ++ v) from h]; rfl)
    rw [ht.1] at this
    exact absurd this (by decide)
  | c :: s, [], u, v, hs, _, _, hv, h => by
    simp only [List.all_cons, Bool.and_eq_true] at hs
    have := hv c (by rw [show v = c :: (s ++ u) from h.symm]; rfl)
    rw [hs.1] at this
    exact absurd this (by decide)
  | c :: s, d :: t, u, v, hs, ht, hu, hv, h => by
    simp only [List.all_cons, Bool.and_eq_true] at hs ht
    simp only [List.cons_append, List.cons.injEq] at h
    obtain ⟨rfl, rfl⟩ := dig_free s t u v hs.2 ht.2 hu hv h.2
    exact ⟨by rw [h.1], rfl⟩
theorem itoa_ways (n : Int) : (∃ s, Lib.itoa n = 45 :: s ∧ s.all Nm.dig = true) ∨ (∃ c s, Lib.itoa n = c :: s ∧ (c :: s).all Nm.dig = true) := by
  by_cases h : n < 0
  · exact .inl ⟨_, Nm.itoa_neg h, Nm.dec_dig _⟩
  · have h1 := Nm.itoa_nn h
    have h2 := Nm.dec_ne n.toNat
    have h3 := Nm.dec_dig n.toNat
    rw [← h1] at h2 h3
    match hx : Lib.itoa n, h2 with
    | c :: s, _ => rw [hx] at h3; exact .inr ⟨c, s, rfl, h3⟩
theorem itoa_free {m n : Int} {u v : List UInt8} (hu : Dst u) (hv : Dst v) (h : Lib.itoa m ++ u = Lib.itoa n ++ v) : m = n ∧ u = v := by
  have key : Lib.itoa m = Lib.itoa n ∧ u = v := by
    rcases itoa_ways m with ⟨s, e, hs⟩ | ⟨c, s, e, hs⟩ <;> rcases itoa_ways n with ⟨t, f, ht⟩ | ⟨d, t, f, ht⟩ <;> rw [e, f] at h ⊢
    · simp only [List.cons_append, List.cons.injEq, true_and] at h
      obtain ⟨rfl, rfl⟩ := dig_free s t u v hs ht hu hv h
      exact ⟨rfl, rfl⟩
    · simp only [List.cons_append, List.cons.injEq] at h
      rw [List.all_cons, ← h.1] at ht
      simp [Nm.dig_not45] at ht
    · simp only [List.cons_append, List.cons.injEq] at h
      rw [List.all_cons, h.1] at hs
      simp [Nm.dig_not45] at hs
    · obtain ⟨h1, rfl⟩ := dig_free (c :: s) (d :: t) u v hs ht hu hv h
      exact ⟨h1, rfl⟩
  exact ⟨Nm.itoa_inj key.1, key.2⟩
/-- of which kind the value is whose form begins so -/
def kd (c : UInt8) : Nat := if c = 91 then 4 else if c = 123 then 5 else if c = 34 then 3 else if c = 116 ∨ c = 102 then 1 else if c = 45 ∨ Nm.dig c = true then 2 else 0
theorem part_k {x : JV} (h : x.part = true) : x.k = 1 ∨ x.k = 2 ∨ x.k = 3 ∨ x.k = 4 ∨ x.k = 5 := by
  rw [JV.part_eq] at h
  by_cases h1 : x.k = 1
  · omega
  by_cases h2 : x.k = 2
  · omega
  by_cases h3 : x.k = 3
  · omega
  by_cases h4 : x.k = 4 ∨ x.k = 5
  · omega
  rw [if_neg h1, if_neg h2, if_neg h3, if_neg h4] at h
  exact absurd h (by decide)
theorem kd_dig {c : UInt8} (h : Nm.dig c = true) : kd c = 2 := by
  have h2 := Nm.dig_iff.1 h
  unfold kd
  have ne : ∀ d : UInt8, (d.toNat < 48 ∨ 57 < d.toNat) → c ≠ d := fun d hd e => by rw [e] at h2; omega
  rw [if_neg (ne 91 (by decide)), if_neg (ne 123 (by decide)), if_neg (ne 34 (by decide)), if_neg (fun e => e.elim (ne 116 (by decide)) (ne 102 (by decide))), if_pos (.inr h)]
theorem form_kd {x : JV} (h : x.part = true) : ∃ c r, form x = c :: r ∧ kd c = x.k := by
  rw [form_eq]
  rcases part_k h with h | h | h | h | h <;> rw [h]
  · rw [if_neg (by decide), if_neg (by decide), if_neg (by decide), if_neg (by decide)]
    by_cases hn : x.n = 1
    · rw [if_pos hn]; exact ⟨_, _, rfl, rfl⟩
    · rw [if_neg hn]; exact ⟨_, _, rfl, rfl⟩
  · rw [if_neg (by decide), if_neg (by decide), if_pos rfl]
    rcases itoa_ways x.n with ⟨s, e, _⟩ | ⟨c, s, e, hs⟩
    · exact ⟨_, _, e, rfl⟩
    · simp only [List.all_cons, Bool.and_eq_true] at hs
      exact ⟨_, _, e, kd_dig hs.1⟩
  · rw [if_neg (by decide), if_neg (by decide), if_neg (by decide), if_pos rfl]
    exact ⟨_, _, rfl, rfl⟩
  · rw [if_pos rfl]; exact ⟨_, _, rfl, rfl⟩
  · rw [if_neg (by decide), if_pos rfl]; exact ⟨_, _, rfl, rfl⟩
theorem Dst.cons {c : UInt8} (h : Nm.dig c = false) (r : List UInt8) : Dst (c :: r) := fun b hb => by
  obtain rfl : c = b := by simpa using hb
  exact h
theorem cat_dst (xs : List JV) {c : UInt8} (hc : Nm.dig c = false) (u : List UInt8) : Dst (cat true xs ++ c :: u) := by
  match xs with
  | [] => rw [cat]; exact .cons hc u
  | x :: xs => rw [cat]; exact .cons (by decide) _
theorem mem_dst (ns : List (List UInt8)) (xs : List JV) {c : UInt8} (hc : Nm.dig c = false) (u : List UInt8) : Dst (mem true ns xs ++ c :: u) := by
  match ns, xs with
  | ns, [] => rw [mem]; exact .cons hc u
  | [], x :: xs => rw [mem]; exact .cons hc u
  | n :: ns, x :: xs => rw [mem]; exact .cons (by decide) _
theorem part_bare {k : Nat} {n : Int} {t : List UInt8} {ns : List (List UInt8)} {is : List JV} (h : (JV.mk k n t ns is).part = true) :
    (k = 1 → (n = 0 ∨ n = 1) ∧ t = [] ∧ ns = [] ∧ is = []) ∧ (k = 2 → t = [] ∧ ns = [] ∧ is = []) ∧ (k = 3 → n = 0 ∧ ns = [] ∧ is = [] ∧ Jn.txt t = true) ∧
    (k = 4 → n = 0 ∧ t = [] ∧ ns = [] ∧ JV.parts is = true) ∧ (k = 5 → n = 0 ∧ t = [] ∧ ns.length = is.length ∧ Jn.rise ns = true ∧ JV.parts is = true ∧ ∀ m ∈ ns, Jn.txt m = true) := by
  rw [JV.part] at h
  refine ⟨fun e => ?_, fun e => ?_, fun e => ?_, fun e => ?_, fun e => ?_⟩ <;> subst e <;> simp at h <;> simp_all
theorem part_items {x : JV} (h : x.part = true) : JV.parts x.is = true := by
  obtain ⟨k, n, t, ns, is⟩ := x
  obtain ⟨p1, p2, p3, p4, p5⟩ := part_bare h
  show JV.parts is = true
  rcases part_k h with e | e | e | e | e
  · rw [(p1 e).2.2.2]; rfl
  · rw [(p2 e).2.2]; rfl
  · rw [(p3 e).2.2.1]; rfl
  · exact (p4 e).2.2.2
  · exact (p5 e).2.2.2.2.1
end Cn
end Go.Proofs.YtpifbmcgadjhbaaDoor
