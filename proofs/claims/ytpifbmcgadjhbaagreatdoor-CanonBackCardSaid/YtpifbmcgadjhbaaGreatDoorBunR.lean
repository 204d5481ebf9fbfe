/-
  ReadMath, ReadMath2, ReadMath3, RegOne, ReadTok, ReadWith, ReadAlone, ReadApp, LexMore, ReadList, ReadPartsL, ReadLs, ReadNest, ReadVal, ReadMap, ReadMem, ReadMemb, ReadPartsO, ReadMathW: one text.
-/
import Derived.Test.YtpifbmcgadjhbaaGreatDoorLexMath
import Derived.Test.YtpifbmcgadjhbaaGreatDoorValRise
import Derived.Test.YtpifbmcgadjhbaaGreatDoorValRefMay
import Derived.Test.YtpifbmcgadjhbaaGreatDoorRegCalls
import Derived.Laws.Strings
import Derived.Test.YtpifbmcgadjhbaaGreatDoorLexProg
import Derived.Test.YtpifbmcgadjhbaaGreatDoorLexRows
import Derived.BigRegion
import Derived.Test.YtpifbmcgadjhbaaGreatDoorBunC
import Derived.Maps.AppendAt
import Derived.Maps.OwnSet
import Derived.Sort.KeysCollected
import Derived.Sort.Walk0
import Derived.Test.YtpifbmcgadjhbaaGreatDoorValSize
namespace Go.Proofs.YtpifbmcgadjhbaaGreatDoor
section
open Go.RowKit
namespace Rd

/-- what a value comes to: the value, the marks behind it, how many values there were; or where the fault is, and which -/
inductive Res where
  | ok (x : JV) (ms : List Lm.Mark) (n : Nat)
  | bad (p e : Nat)
/-- what is read: a value, the rest of a list, the rest of an object -/
inductive St where
  | v
  | l (acc : List JV)
  | o (ns : List (List UInt8)) (is : List JV)
def begins (k : Nat) : Bool := k == 1 || k == 3 || (decide (7 ≤ k) && decide (k ≤ 10))
def atom (m : Lm.Mark) : JV := if m.k = 7 then .mk 1 1 [] [] [] else if m.k = 8 then .mk 1 0 [] [] [] else if m.k = 9 then .mk 2 m.n [] [] [] else .mk 3 0 m.t [] []
/-- where there is no mark more: what that is, within a value -/
def fe (E : Nat × Nat) : Nat := if E.2 = 0 then 4 else E.2
def thn (r : Option Res) (k : JV → List Lm.Mark → Nat → Option Res) : Option Res := match r with
  | none => none
  | some (.bad p e) => some (.bad p e)
  | some (.ok x ms n) => k x ms n
def hd (E : Nat × Nat) (ms : List Lm.Mark) (k : Lm.Mark → List Lm.Mark → Option Res) : Option Res := match ms with
  | [] => some (.bad E.1 (fe E))
  | m :: ms => k m ms
/-- a name among those that rise, and its Item -/
def insN (l : List UInt8) : List (List UInt8) → List (List UInt8)
  | [] => [l]
  | x :: xs => if Jn.lt x l = true then x :: insN l xs else l :: x :: xs
def insI (l : List UInt8) (y : JV) : List (List UInt8) → List JV → List JV
  | x :: xs, z :: zs => if Jn.lt x l = true then z :: insI l y xs zs else y :: z :: zs
  | _, zs => y :: zs
/-- the marks' value: E: where there is no mark more (place, error; 0: the end) -/
def P (E : Nat × Nat) : Nat → St → List Lm.Mark → Nat → Nat → Option Res
  | 0, _, _, _, _ => none
  | f + 1, .v, ms, n, d => hd E ms fun m ms1 =>
    if begins m.k = false then some (.bad m.a 3)
    else if 8192 ≤ n then some (.bad m.a 5)
    else if 7 ≤ m.k then some (.ok (atom m) ms1 (n + 1))
    else if 12 ≤ d then some (.bad m.a 8)
    else hd E ms1 fun m1 ms2 =>
      if m.k = 3 then (if m1.k = 4 then some (.ok (.mk 4 0 [] [] []) ms2 (n + 1)) else P E f (.l []) ms1 (n + 1) d)
      else (if m1.k = 2 then some (.ok (.mk 5 0 [] [] []) ms2 (n + 1)) else P E f (.o [] []) ms1 (n + 1) d)
  | f + 1, .l acc, ms, n, d => thn (P E f .v ms n (d + 1)) fun x ms1 n1 => hd E ms1 fun m1 ms2 =>
      if m1.k = 4 then some (.ok (.mk 4 0 [] [] (acc ++ [x])) ms2 n1)
      else if m1.k = 5 then P E f (.l (acc ++ [x])) ms2 n1 d
      else some (.bad m1.a 3)
  | f + 1, .o ns is, ms, n, d => hd E ms fun m ms1 =>
      if m.k ≠ 10 then some (.bad m.a 3)
      else if m.t ∈ ns then some (.bad m.a 7)
      else hd E ms1 fun c ms2 =>
        if c.k ≠ 6 then some (.bad c.a 3)
        else thn (P E f .v ms2 n (d + 1)) fun x ms3 n1 => hd E ms3 fun m3 ms4 =>
          if m3.k = 2 then some (.ok (.mk 5 0 [] (insN m.t ns) (insI m.t x ns is)) ms4 n1)
          else if m3.k = 5 then P E f (.o (insN m.t ns) (insI m.t x ns is)) ms4 n1 d
          else some (.bad m3.a 3)
/-- what is told here is told there -/
def Le (a b : Option Res) : Prop := ∀ r, a = some r → b = some r
theorem Le.refl (a : Option Res) : Le a a := fun _ h => h
theorem Le.thn {a b : Option Res} {k k' : JV → List Lm.Mark → Nat → Option Res} (h : Le a b) (hk : ∀ x ms n, Le (k x ms n) (k' x ms n)) : Le (thn a k) (thn b k') := by
  intro r hr
  match a, h, hr with
  | some (.bad p e), h, hr =>
    rw [h _ rfl]
    exact hr
  | some (.ok x ms n), h, hr =>
    rw [h _ rfl]
    exact hk x ms n r hr
theorem Le.hd {E : Nat × Nat} {ms : List Lm.Mark} {k k' : Lm.Mark → List Lm.Mark → Option Res} (hk : ∀ m ms, Le (k m ms) (k' m ms)) : Le (hd E ms k) (hd E ms k') := by
  intro r hr
  match ms, hr with
  | [], hr => exact hr
  | m :: ms, hr => exact hk m ms r hr
theorem Le.ite {c : Prop} [Decidable c] {a b a' b' : Option Res} (h1 : Le a a') (h2 : Le b b') : Le (if c then a else b) (if c then a' else b') := by
  split
  · exact h1
  · exact h2
theorem P_succ (E : Nat × Nat) : ∀ (f : Nat) (s : St) (ms : List Lm.Mark) (n d : Nat), Le (P E f s ms n d) (P E (f + 1) s ms n d)
  | 0, _, _, _, _ => fun r h => by cases h
  | f + 1, s, ms, n, d => by
    have ih := P_succ E f
    cases s with
    | v =>
      rw [P, P]
      exact Le.hd fun m ms1 => .ite (.refl _) (.ite (.refl _) (.ite (.refl _) (.ite (.refl _) (.hd fun m1 ms2 => .ite (.ite (.refl _) (ih _ _ _ _)) (.ite (.refl _) (ih _ _ _ _))))))
    | l acc =>
      rw [P, P]
      exact Le.thn (ih _ _ _ _) fun x ms1 n1 => .hd fun m1 ms2 => .ite (.refl _) (.ite (ih _ _ _ _) (.refl _))
    | o ns is =>
      rw [P, P]
      exact Le.hd fun m ms1 => .ite (.refl _) (.ite (.refl _) (.hd fun c ms2 => .ite (.refl _) (.thn (ih _ _ _ _) fun x ms3 n1 => .hd fun m3 ms4 => .ite (.refl _) (.ite (ih _ _ _ _) (.refl _)))))
theorem P_more {E : Nat × Nat} {f g : Nat} {s : St} {ms : List Lm.Mark} {n d : Nat} {r : Res} (h : P E f s ms n d = some r) (hg : f ≤ g) : P E g s ms n d = some r := by
  induction hg with
  | refl => exact h
  | step _ ih => exact P_succ E _ s ms n d r ih
theorem P_det {E : Nat × Nat} {f g : Nat} {s : St} {ms : List Lm.Mark} {n d : Nat} {r r' : Res} (h : P E f s ms n d = some r) (h' : P E g s ms n d = some r') : r = r' := by
  rcases Nat.le_total f g with hg | hg
  · have := P_more h hg
    rw [h'] at this
    exact (Option.some.inj this).symm
  · have := P_more h' hg
    rw [h] at this
    exact Option.some.inj this
/-! Ways: what it comes to, branch by branch. -/
theorem hd_cases {E : Nat × Nat} {ms : List Lm.Mark} {k : Lm.Mark → List Lm.Mark → Option Res} {r : Res} (h : hd E ms k = some r) : (ms = [] ∧ r = .bad E.1 (fe E)) ∨ ∃ m ms1, ms = m :: ms1 ∧ k m ms1 = some r := by
  match ms, h with
  | [], h => exact .inl ⟨rfl, (Option.some.inj h).symm⟩
  | m :: ms1, h => exact .inr ⟨m, ms1, rfl, h⟩
theorem thn_cases {a : Option Res} {k : JV → List Lm.Mark → Nat → Option Res} {r : Res} (h : thn a k = some r) : (∃ p e, a = some (.bad p e) ∧ r = .bad p e) ∨ ∃ x ms n, a = some (.ok x ms n) ∧ k x ms n = some r := by
  match a, h with
  | some (.bad p e), h => exact .inl ⟨p, e, rfl, (Option.some.inj h).symm⟩
  | some (.ok x ms n), h => exact .inr ⟨x, ms, n, rfl, h⟩
/-- how a value is read -/
inductive WV (E : Nat × Nat) (f : Nat) : List Lm.Mark → Nat → Nat → Res → Prop
  | short (n d) : WV E f [] n d (.bad E.1 (fe E))
  | form {m ms n d} (h : begins m.k = false) : WV E f (m :: ms) n d (.bad m.a 3)
  | long {m ms n d} (h : begins m.k = true) (hn : 8192 ≤ n) : WV E f (m :: ms) n d (.bad m.a 5)
  | atom {m ms n d} (h : begins m.k = true) (hn : n < 8192) (hk : 7 ≤ m.k) : WV E f (m :: ms) n d (.ok (atom m) ms (n + 1))
  | deep {m ms n d} (h : m.k = 1 ∨ m.k = 3) (hn : n < 8192) (hd : 12 ≤ d) : WV E f (m :: ms) n d (.bad m.a 8)
  | cut {m n d} (h : m.k = 1 ∨ m.k = 3) (hn : n < 8192) (hd : d < 12) : WV E f [m] n d (.bad E.1 (fe E))
  | nolist {m m1 ms n d} (h : m.k = 3) (hn : n < 8192) (hd : d < 12) (h1 : m1.k = 4) : WV E f (m :: m1 :: ms) n d (.ok (.mk 4 0 [] [] []) ms (n + 1))
  | list {m m1 ms n d r} (h : m.k = 3) (hn : n < 8192) (hd : d < 12) (h1 : m1.k ≠ 4) (hr : P E f (.l []) (m1 :: ms) (n + 1) d = some r) : WV E f (m :: m1 :: ms) n d r
  | noobj {m m1 ms n d} (h : m.k = 1) (hn : n < 8192) (hd : d < 12) (h1 : m1.k = 2) : WV E f (m :: m1 :: ms) n d (.ok (.mk 5 0 [] [] []) ms (n + 1))
  | obj {m m1 ms n d r} (h : m.k = 1) (hn : n < 8192) (hd : d < 12) (h1 : m1.k ≠ 2) (hr : P E f (.o [] []) (m1 :: ms) (n + 1) d = some r) : WV E f (m :: m1 :: ms) n d r
theorem begins_low {k : Nat} (h : begins k = true) (h7 : ¬ 7 ≤ k) : k = 1 ∨ k = 3 := by
  unfold begins at h
  simp at h
  omega
theorem begins_13 {k : Nat} (h : k = 1 ∨ k = 3) : begins k = true := by
  rcases h with h | h <;> rw [h] <;> rfl
theorem P_v {E : Nat × Nat} {f : Nat} {ms : List Lm.Mark} {n d : Nat} {r : Res} (h : P E (f + 1) .v ms n d = some r) : WV E f ms n d r := by
  rw [P] at h
  replace h := hd_cases h
  rcases h with ⟨rfl, rfl⟩ | ⟨m, ms1, rfl, h⟩
  · exact .short n d
  by_cases hb : begins m.k = false
  · rw [if_pos hb] at h
    obtain rfl := Option.some.inj h
    exact .form hb
  rw [if_neg hb] at h
  have hb := (Bool.eq_false_or_eq_true (begins m.k)).resolve_right hb
  by_cases hn : 8192 ≤ n
  · rw [if_pos hn] at h
    obtain rfl := Option.some.inj h
    exact .long hb hn
  rw [if_neg hn] at h
  by_cases h7 : 7 ≤ m.k
  · rw [if_pos h7] at h
    obtain rfl := Option.some.inj h
    exact .atom hb (by omega) h7
  rw [if_neg h7] at h
  have hk := begins_low hb h7
  by_cases hd' : 12 ≤ d
  · rw [if_pos hd'] at h
    obtain rfl := Option.some.inj h
    exact .deep hk (by omega) hd'
  rw [if_neg hd'] at h
  replace h := hd_cases h
  rcases h with ⟨rfl, rfl⟩ | ⟨m1, ms2, rfl, h⟩
  · exact .cut hk (by omega) (by omega)
  by_cases h3 : m.k = 3
  · rw [if_pos h3] at h
    by_cases h4 : m1.k = 4
    · rw [if_pos h4] at h
      obtain rfl := Option.some.inj h
      exact .nolist h3 (by omega) (by omega) h4
    · rw [if_neg h4] at h
      exact .list h3 (by omega) (by omega) h4 h
  · rw [if_neg h3] at h
    by_cases h4 : m1.k = 2
    · rw [if_pos h4] at h
      obtain rfl := Option.some.inj h
      exact .noobj (by omega) (by omega) (by omega) h4
    · rw [if_neg h4] at h
      exact .obj (by omega) (by omega) (by omega) h4 h
theorem P_v' {E : Nat × Nat} {f : Nat} {ms : List Lm.Mark} {n d : Nat} {r : Res} (h : WV E f ms n d r) : P E (f + 1) .v ms n d = some r := by
  rw [P]
  cases h with
  | short => rfl
  | form h => exact if_pos h
  | long h hn => exact (if_neg (by rw [h]; simp)).trans (if_pos hn)
  | atom h hn hk => exact (if_neg (by rw [h]; simp)).trans ((if_neg (by omega)).trans (if_pos hk))
  | deep h hn hd =>
    have hb := begins_13 h
    exact (if_neg (by rw [hb]; simp)).trans ((if_neg (by omega)).trans ((if_neg (by omega)).trans (if_pos hd)))
  | cut h hn hd =>
    have hb := begins_13 h
    exact (if_neg (by rw [hb]; simp)).trans ((if_neg (by omega)).trans ((if_neg (by omega)).trans (if_neg (by omega))))
  | nolist h hn hd h1 =>
    have hb := begins_13 (.inr h)
    exact (if_neg (by rw [hb]; simp)).trans ((if_neg (by omega)).trans ((if_neg (by omega)).trans ((if_neg (by omega)).trans ((if_pos h).trans (if_pos h1)))))
  | list h hn hd h1 hr =>
    have hb := begins_13 (.inr h)
    exact (if_neg (by rw [hb]; simp)).trans ((if_neg (by omega)).trans ((if_neg (by omega)).trans ((if_neg (by omega)).trans ((if_pos h).trans ((if_neg h1).trans hr)))))
  | noobj h hn hd h1 =>
    have hb := begins_13 (.inl h)
    exact (if_neg (by rw [hb]; simp)).trans ((if_neg (by omega)).trans ((if_neg (by omega)).trans ((if_neg (by omega)).trans ((if_neg (by omega)).trans (if_pos h1)))))
  | obj h hn hd h1 hr =>
    have hb := begins_13 (.inl h)
    exact (if_neg (by rw [hb]; simp)).trans ((if_neg (by omega)).trans ((if_neg (by omega)).trans ((if_neg (by omega)).trans ((if_neg (by omega)).trans ((if_neg h1).trans hr)))))
/-- how the rest of a list is read -/
inductive WL (E : Nat × Nat) (f : Nat) (acc : List JV) : List Lm.Mark → Nat → Nat → Res → Prop
  | item {ms n d p e} (h : P E f .v ms n (d + 1) = some (.bad p e)) : WL E f acc ms n d (.bad p e)
  | cut {ms n d x n1} (h : P E f .v ms n (d + 1) = some (.ok x [] n1)) : WL E f acc ms n d (.bad E.1 (fe E))
  | last {ms n d x m1 ms2 n1} (h : P E f .v ms n (d + 1) = some (.ok x (m1 :: ms2) n1)) (h1 : m1.k = 4) : WL E f acc ms n d (.ok (.mk 4 0 [] [] (acc ++ [x])) ms2 n1)
  | next {ms n d x m1 ms2 n1 r} (h : P E f .v ms n (d + 1) = some (.ok x (m1 :: ms2) n1)) (h1 : m1.k = 5) (hr : P E f (.l (acc ++ [x])) ms2 n1 d = some r) : WL E f acc ms n d r
  | form {ms n d x m1 ms2 n1} (h : P E f .v ms n (d + 1) = some (.ok x (m1 :: ms2) n1)) (h1 : m1.k ≠ 4) (h2 : m1.k ≠ 5) : WL E f acc ms n d (.bad m1.a 3)
theorem P_l {E : Nat × Nat} {f : Nat} {acc : List JV} {ms : List Lm.Mark} {n d : Nat} {r : Res} (h : P E (f + 1) (.l acc) ms n d = some r) : WL E f acc ms n d r := by
  rw [P] at h
  replace h := thn_cases h
  rcases h with ⟨p, e, h1, rfl⟩ | ⟨x, ms1, n1, h1, h⟩
  · exact .item h1
  replace h := hd_cases h
  rcases h with ⟨rfl, rfl⟩ | ⟨m1, ms2, rfl, h⟩
  · exact .cut h1
  by_cases h4 : m1.k = 4
  · rw [if_pos h4] at h
    obtain rfl := Option.some.inj h
    exact .last h1 h4
  rw [if_neg h4] at h
  by_cases h5 : m1.k = 5
  · rw [if_pos h5] at h
    exact .next h1 h5 h
  · rw [if_neg h5] at h
    obtain rfl := Option.some.inj h
    exact .form h1 h4 h5
theorem P_l' {E : Nat × Nat} {f : Nat} {acc : List JV} {ms : List Lm.Mark} {n d : Nat} {r : Res} (h : WL E f acc ms n d r) : P E (f + 1) (.l acc) ms n d = some r := by
  rw [P]
  cases h with
  | item h => rw [h]; rfl
  | cut h => rw [h]; rfl
  | last h h1 => rw [h]; exact if_pos h1
  | next h h1 hr => rw [h]; exact (if_neg (by omega)).trans ((if_pos h1).trans hr)
  | form h h1 h2 => rw [h]; exact (if_neg h1).trans (if_neg h2)
/-- how the rest of an object is read -/
inductive WO (E : Nat × Nat) (f : Nat) (ns : List (List UInt8)) (is : List JV) : List Lm.Mark → Nat → Nat → Res → Prop
  | short (n d) : WO E f ns is [] n d (.bad E.1 (fe E))
  | form {m ms n d} (h : m.k ≠ 10) : WO E f ns is (m :: ms) n d (.bad m.a 3)
  | twice {m ms n d} (h : m.k = 10) (ht : m.t ∈ ns) : WO E f ns is (m :: ms) n d (.bad m.a 7)
  | cut1 {m n d} (h : m.k = 10) (ht : m.t ∉ ns) : WO E f ns is [m] n d (.bad E.1 (fe E))
  | form1 {m c ms n d} (h : m.k = 10) (ht : m.t ∉ ns) (hc : c.k ≠ 6) : WO E f ns is (m :: c :: ms) n d (.bad c.a 3)
  | item {m c ms n d p e} (h : m.k = 10) (ht : m.t ∉ ns) (hc : c.k = 6) (hv : P E f .v ms n (d + 1) = some (.bad p e)) : WO E f ns is (m :: c :: ms) n d (.bad p e)
  | cut {m c ms n d x n1} (h : m.k = 10) (ht : m.t ∉ ns) (hc : c.k = 6) (hv : P E f .v ms n (d + 1) = some (.ok x [] n1)) : WO E f ns is (m :: c :: ms) n d (.bad E.1 (fe E))
  | last {m c ms n d x m3 ms4 n1} (h : m.k = 10) (ht : m.t ∉ ns) (hc : c.k = 6) (hv : P E f .v ms n (d + 1) = some (.ok x (m3 :: ms4) n1)) (h3 : m3.k = 2) : WO E f ns is (m :: c :: ms) n d (.ok (.mk 5 0 [] (insN m.t ns) (insI m.t x ns is)) ms4 n1)
  | next {m c ms n d x m3 ms4 n1 r} (h : m.k = 10) (ht : m.t ∉ ns) (hc : c.k = 6) (hv : P E f .v ms n (d + 1) = some (.ok x (m3 :: ms4) n1)) (h3 : m3.k = 5) (hr : P E f (.o (insN m.t ns) (insI m.t x ns is)) ms4 n1 d = some r) : WO E f ns is (m :: c :: ms) n d r
  | form3 {m c ms n d x m3 ms4 n1} (h : m.k = 10) (ht : m.t ∉ ns) (hc : c.k = 6) (hv : P E f .v ms n (d + 1) = some (.ok x (m3 :: ms4) n1)) (h3 : m3.k ≠ 2) (h5 : m3.k ≠ 5) : WO E f ns is (m :: c :: ms) n d (.bad m3.a 3)
theorem P_o {E : Nat × Nat} {f : Nat} {ns : List (List UInt8)} {is : List JV} {ms : List Lm.Mark} {n d : Nat} {r : Res} (h : P E (f + 1) (.o ns is) ms n d = some r) : WO E f ns is ms n d r := by
  rw [P] at h
  replace h := hd_cases h
  rcases h with ⟨rfl, rfl⟩ | ⟨m, ms1, rfl, h⟩
  · exact .short n d
  by_cases hk : m.k ≠ 10
  · rw [if_pos hk] at h
    obtain rfl := Option.some.inj h
    exact .form hk
  rw [if_neg hk] at h
  have hk : m.k = 10 := by omega
  by_cases ht : m.t ∈ ns
  · rw [if_pos ht] at h
    obtain rfl := Option.some.inj h
    exact .twice hk ht
  rw [if_neg ht] at h
  replace h := hd_cases h
  rcases h with ⟨rfl, rfl⟩ | ⟨c, ms2, rfl, h⟩
  · exact .cut1 hk ht
  by_cases hc : c.k ≠ 6
  · rw [if_pos hc] at h
    obtain rfl := Option.some.inj h
    exact .form1 hk ht hc
  rw [if_neg hc] at h
  have hc : c.k = 6 := by omega
  replace h := thn_cases h
  rcases h with ⟨p, e, h1, rfl⟩ | ⟨x, ms3, n1, h1, h⟩
  · exact .item hk ht hc h1
  replace h := hd_cases h
  rcases h with ⟨rfl, rfl⟩ | ⟨m3, ms4, rfl, h⟩
  · exact .cut hk ht hc h1
  by_cases h2 : m3.k = 2
  · rw [if_pos h2] at h
    obtain rfl := Option.some.inj h
    exact .last hk ht hc h1 h2
  rw [if_neg h2] at h
  by_cases h5 : m3.k = 5
  · rw [if_pos h5] at h
    exact .next hk ht hc h1 h5 h
  · rw [if_neg h5] at h
    obtain rfl := Option.some.inj h
    exact .form3 hk ht hc h1 h2 h5
theorem P_o' {E : Nat × Nat} {f : Nat} {ns : List (List UInt8)} {is : List JV} {ms : List Lm.Mark} {n d : Nat} {r : Res} (h : WO E f ns is ms n d r) : P E (f + 1) (.o ns is) ms n d = some r := by
  rw [P]
  cases h with
  | short => rfl
  | form h => exact if_pos h
  | twice h ht => exact (if_neg (by omega)).trans (if_pos ht)
  | cut1 h ht => exact (if_neg (by omega)).trans (if_neg ht)
  | form1 h ht hc => exact (if_neg (by omega)).trans ((if_neg ht).trans (if_pos hc))
  | item h ht hc hv => exact (if_neg (by omega)).trans ((if_neg ht).trans ((if_neg (by omega)).trans (by rw [hv]; rfl)))
  | cut h ht hc hv => exact (if_neg (by omega)).trans ((if_neg ht).trans ((if_neg (by omega)).trans (by rw [hv]; rfl)))
  | last h ht hc hv h3 => exact (if_neg (by omega)).trans ((if_neg ht).trans ((if_neg (by omega)).trans (by rw [hv]; exact if_pos h3)))
  | next h ht hc hv h3 hr => exact (if_neg (by omega)).trans ((if_neg ht).trans ((if_neg (by omega)).trans (by rw [hv]; exact (if_neg (by omega)).trans ((if_pos h3).trans hr))))
  | form3 h ht hc hv h3 h5 => exact (if_neg (by omega)).trans ((if_neg ht).trans ((if_neg (by omega)).trans (by rw [hv]; exact (if_neg h3).trans (if_neg h5))))
end Rd
end

section
open Go.RowKit
namespace Rd

/-! Names that rise. -/
theorem insN_mem {l z : List UInt8} : ∀ {ns : List (List UInt8)}, z ∈ insN l ns ↔ z = l ∨ z ∈ ns
  | [] => by simp [insN]
  | x :: xs => by
    rw [insN]
    by_cases h : Jn.lt x l = true
    · rw [if_pos h, List.mem_cons, insN_mem, List.mem_cons]
      constructor
      · rintro (h | h | h)
        · exact .inr (.inl h)
        · exact .inl h
        · exact .inr (.inr h)
      · rintro (h | h | h)
        · exact .inr (.inl h)
        · exact .inl h
        · exact .inr (.inr h)
    · rw [if_neg h, List.mem_cons]
theorem insN_len {l : List UInt8} : ∀ ns : List (List UInt8), (insN l ns).length = ns.length + 1
  | [] => rfl
  | x :: xs => by
    rw [insN]
    split
    · rw [List.length_cons, insN_len xs, List.length_cons]
    · rfl
theorem insI_len {l : List UInt8} {y : JV} : ∀ (ns : List (List UInt8)) (is : List JV), ns.length = is.length → (insI l y ns is).length = is.length + 1
  | [], [], _ => rfl
  | x :: xs, z :: zs, h => by
    rw [insI]
    split
    · rw [List.length_cons, insI_len xs zs (by simpa using h), List.length_cons]
    · rfl
theorem lt_tr : ∀ {x y z : List UInt8}, Jn.lt x y = true → Jn.lt y z = true → Jn.lt x z = true
  | [], y, [], _, h => by cases y <;> simp [Jn.lt, Op.bytesLess] at h
  | [], _, _ :: _, _, _ => rfl
  | _ :: _, [], _, h, _ => by simp [Jn.lt, Op.bytesLess] at h
  | _ :: _, _ :: _, [], _, h => by simp [Jn.lt, Op.bytesLess] at h
  | a :: x, b :: y, c :: z, h1, h2 => by
    unfold Jn.lt at h1 h2 ⊢
    rw [Op.bytesLess] at h1 h2 ⊢
    simp only [Bool.or_eq_true, decide_eq_true_eq, Bool.and_eq_true, beq_iff_eq, UInt8.lt_iff_toNat_lt] at h1 h2 ⊢
    rcases h1 with h1 | ⟨rfl, h1⟩
    · rcases h2 with h2 | ⟨rfl, h2⟩
      · left; omega
      · left; exact h1
    · rcases h2 with h2 | ⟨rfl, h2⟩
      · left; exact h2
      · right; exact ⟨rfl, lt_tr h1 h2⟩
/-- names rise: each ahead of all behind it -/
def Rise (ns : List (List UInt8)) : Prop := List.Pairwise (fun x y => Jn.lt x y = true) ns
theorem lt_or {x y : List UInt8} (h : Jn.lt x y ≠ true) (hne : x ≠ y) : Jn.lt y x = true := by
  refine Jn.lt_of_not y x ?_
  rw [Bool.or_eq_false_iff]
  exact ⟨by simpa using h, beq_eq_false_iff_ne.2 hne⟩
theorem insN_rise {l : List UInt8} : ∀ {ns : List (List UInt8)}, Rise ns → l ∉ ns → Rise (insN l ns)
  | [], _, _ => List.pairwise_singleton _ _
  | x :: xs, h, hn => by
    have h0 := List.pairwise_cons.1 h
    rw [List.mem_cons, not_or] at hn
    rw [insN]
    by_cases hlt : Jn.lt x l = true
    · rw [if_pos hlt]
      refine List.pairwise_cons.2 ⟨fun y hy => ?_, insN_rise h0.2 hn.2⟩
      rcases insN_mem.1 hy with rfl | hy
      · exact hlt
      · exact h0.1 y hy
    · rw [if_neg hlt]
      have hlx := lt_or hlt (fun e => hn.1 e.symm)
      refine List.pairwise_cons.2 ⟨fun y hy => ?_, h⟩
      rcases List.mem_cons.1 hy with rfl | hy
      · exact hlx
      · exact lt_tr hlx (h0.1 y hy)
theorem rise_of : ∀ {ns : List (List UInt8)}, Rise ns → Jn.rise ns = true
  | [], _ => rfl
  | [x], _ => rfl
  | x :: y :: r, h => by
    have h0 := List.pairwise_cons.1 h
    rw [Jn.rise, Bool.and_eq_true]
    exact ⟨h0.1 y List.mem_cons_self, rise_of h0.2⟩
theorem insI_parts {l : List UInt8} {y : JV} (hy : y.part = true) : ∀ (ns : List (List UInt8)) (is : List JV), ns.length = is.length → JV.parts is = true → JV.parts (insI l y ns is) = true
  | [], [], _, _ => by simp [insI, JV.parts, hy]
  | x :: xs, z :: zs, h, hp => by
    rw [JV.parts, Bool.and_eq_true] at hp
    rw [insI]
    split
    · rw [JV.parts, hp.1, insI_parts hy xs zs (by simpa using h) hp.2]; rfl
    · rw [JV.parts, JV.parts, hy, hp.1, hp.2]; rfl
theorem insI_cnts {l : List UInt8} {y : JV} : ∀ (ns : List (List UInt8)) (is : List JV), ns.length = is.length → JV.cnts (insI l y ns is) = JV.cnts is + y.cnt
  | [], [], _ => by simp [insI, JV.cnts]
  | x :: xs, z :: zs, h => by
    rw [insI]
    split
    · rw [JV.cnts, insI_cnts xs zs (by simpa using h), JV.cnts]; omega
    · rw [JV.cnts, JV.cnts]; omega
theorem insI_deps {l : List UInt8} {y : JV} : ∀ (ns : List (List UInt8)) (is : List JV), ns.length = is.length → JV.deps (insI l y ns is) = max (JV.deps is) y.dep
  | [], [], _ => by simp [insI, JV.deps]
  | x :: xs, z :: zs, h => by
    rw [insI]
    split
    · rw [JV.deps, insI_deps xs zs (by simpa using h), JV.deps]; omega
    · rw [JV.deps, JV.deps]; omega
theorem parts_snoc : ∀ (xs : List JV) (x : JV), JV.parts (xs ++ [x]) = (JV.parts xs && x.part)
  | [], x => by simp [JV.parts]
  | y :: ys, x => by rw [List.cons_append, JV.parts, JV.parts, parts_snoc ys x, Bool.and_assoc]
/-- of a mark: its text may be -/
def MT (m : Lm.Mark) : Prop := m.k = 10 → Jn.txt m.t = true
def Good : St → Nat → Nat → JV → Nat → Prop
  | .v, n, d, x, n' => x.part = true ∧ n' = n + x.cnt ∧ d + x.dep ≤ 12 ∧ n' ≤ 8192
  | .l acc, n, d, x, n' => ∃ xs, x = .mk 4 0 [] [] (acc ++ xs) ∧ JV.parts xs = true ∧ n' = n + JV.cnts xs ∧ d + 1 + JV.deps xs ≤ 12 ∧ n' ≤ 8192
  | .o ns is, n, d, x, n' => ns.length = is.length → Rise ns → JV.parts is = true → (∀ z ∈ ns, Jn.txt z = true) → d + 1 + JV.deps is ≤ 12 →
      ∃ ns' is', x = .mk 5 0 [] ns' is' ∧ ns'.length = is'.length ∧ Rise ns' ∧ JV.parts is' = true ∧ (∀ z ∈ ns', Jn.txt z = true) ∧ n' + JV.cnts is = n + JV.cnts is' ∧ d + 1 + JV.deps is' ≤ 12 ∧ n' ≤ 8192 ∧ JV.deps is ≤ JV.deps is'
theorem sub_of {ms' ms : List Lm.Mark} {m : Lm.Mark} (h : ∀ z ∈ m :: ms, MT z) (hs : ∀ z ∈ ms', z ∈ ms) : ∀ z ∈ ms', MT z := fun z hz => h z (List.mem_cons_of_mem _ (hs z hz))
/-- the marks behind are some of those that were there -/
theorem P_suffix {E : Nat × Nat} : ∀ (f : Nat) (s : St) (ms : List Lm.Mark) (n d : Nat) (x : JV) (ms' : List Lm.Mark) (n' : Nat), P E f s ms n d = some (.ok x ms' n') → ∃ u, u ≠ [] ∧ ms = u ++ ms'
  | 0, _, _, _, _, _, _, _, h => by cases h
  | f + 1, .v, ms, n, d, x, ms', n', h => by
    have ih := P_suffix (E := E) f
    have hw := P_v h
    cases hw with
    | @atom m ms n d h hn hk => exact ⟨[m], by simp, rfl⟩
    | @nolist m m1 ms n d => exact ⟨[m, m1], by simp, rfl⟩
    | @list m m1 ms n d r _ _ _ _ hr =>
      obtain ⟨u, hu, e⟩ := ih _ _ _ _ _ _ _ hr
      exact ⟨m :: u, by simp, by rw [e]; rfl⟩
    | @noobj m m1 ms n d => exact ⟨[m, m1], by simp, rfl⟩
    | @obj m m1 ms n d r _ _ _ _ hr =>
      obtain ⟨u, hu, e⟩ := ih _ _ _ _ _ _ _ hr
      exact ⟨m :: u, by simp, by rw [e]; rfl⟩
  | f + 1, .l acc, ms, n, d, x, ms', n', h => by
    have ih := P_suffix (E := E) f
    have hw := P_l h
    cases hw with
    | @last x m1 ms2 n1 hv =>
      obtain ⟨u, hu, e⟩ := ih _ _ _ _ _ _ _ hv
      exact ⟨u ++ [m1], by simp, by rw [e]; simp⟩
    | @next x m1 ms2 n1 r hv _ hr =>
      obtain ⟨u, hu, e⟩ := ih _ _ _ _ _ _ _ hv
      obtain ⟨u2, hu2, e2⟩ := ih _ _ _ _ _ _ _ hr
      exact ⟨u ++ m1 :: u2, by simp, by rw [e, e2]; simp⟩
  | f + 1, .o ns is, ms, n, d, x, ms', n', h => by
    have ih := P_suffix (E := E) f
    have hw := P_o h
    cases hw with
    | @last m c ms n d x m3 ms4 n1 _ _ _ hv =>
      obtain ⟨u, hu, e⟩ := ih _ _ _ _ _ _ _ hv
      exact ⟨m :: c :: (u ++ [m3]), by simp, by rw [e]; simp⟩
    | @next m c ms n d x m3 ms4 n1 r _ _ _ hv _ hr =>
      obtain ⟨u, hu, e⟩ := ih _ _ _ _ _ _ _ hv
      obtain ⟨u2, hu2, e2⟩ := ih _ _ _ _ _ _ _ hr
      exact ⟨m :: c :: (u ++ m3 :: u2), by simp, by rw [e, e2]; simp⟩
theorem P_rest {E : Nat × Nat} {f : Nat} {s : St} {ms : List Lm.Mark} {n d : Nat} {x : JV} {ms' : List Lm.Mark} {n' : Nat} (h : P E f s ms n d = some (.ok x ms' n')) : ∀ z ∈ ms', z ∈ ms := fun z hz => by
  obtain ⟨u, _, e⟩ := P_suffix f s ms n d x ms' n' h
  rw [e]
  exact List.mem_append_right _ hz
theorem P_len {E : Nat × Nat} {f : Nat} {s : St} {ms : List Lm.Mark} {n d : Nat} {x : JV} {ms' : List Lm.Mark} {n' : Nat} (h : P E f s ms n d = some (.ok x ms' n')) : ms'.length < ms.length := by
  obtain ⟨u, hu, e⟩ := P_suffix f s ms n d x ms' n' h
  have := List.length_pos_iff.2 hu
  rw [e, List.length_append]
  omega
theorem good_list {n d : Nat} {xs : List JV} {n' : Nat} (h1 : JV.parts xs = true) (h2 : n' = n + 1 + JV.cnts xs) (h3 : d + 1 + JV.deps xs ≤ 12) (h4 : n' ≤ 8192) : Good .v n d (.mk 4 0 [] [] xs) n' := by
  refine ⟨?_, ?_, ?_, h4⟩
  · rw [JV.part, h1]
    simp [Jn.rise]
  · rw [JV.cnt]; omega
  · rw [JV.dep, if_pos (.inl rfl)]; omega
theorem good_obj {n d : Nat} {ns : List (List UInt8)} {is : List JV} {n' : Nat} (h0 : ns.length = is.length) (hr : Rise ns) (h1 : JV.parts is = true) (ht : ∀ z ∈ ns, Jn.txt z = true) (h2 : n' = n + 1 + JV.cnts is) (h3 : d + 1 + JV.deps is ≤ 12) (h4 : n' ≤ 8192) : Good .v n d (.mk 5 0 [] ns is) n' := by
  refine ⟨?_, ?_, ?_, h4⟩
  · rw [JV.part, h1, rise_of hr]
    have hta : ns.all Jn.txt = true := List.all_eq_true.2 ht
    simp [h0]
    exact ht
  · rw [JV.cnt]; omega
  · rw [JV.dep, if_pos (.inr rfl)]; omega
/-- how deep it may begin -/
def DO : St → Nat → Prop
  | .v, d => d ≤ 12
  | _, d => d < 12
theorem P_good {E : Nat × Nat} : ∀ (f : Nat) (s : St) (ms : List Lm.Mark) (n d : Nat) (x : JV) (ms' : List Lm.Mark) (n' : Nat), P E f s ms n d = some (.ok x ms' n') → (∀ m ∈ ms, MT m) → DO s d → Good s n d x n'
  | 0, _, _, _, _, _, _, _, h, _, _ => by cases h
  | f + 1, .v, ms, n, d, x, ms', n', h, hm, hd => by
    have ih := P_good (E := E) f
    have hw := P_v h
    have hd : d ≤ 12 := hd
    cases hw with
    | @atom m ms n d hb hn hk =>
      have hmt := hm m List.mem_cons_self
      unfold begins at hb
      simp at hb
      have h10 : m.k = 7 ∨ m.k = 8 ∨ m.k = 9 ∨ m.k = 10 := by omega
      unfold atom
      rcases h10 with e | e | e | e
      · rw [e]; exact ⟨by simp [JV.part], by simp [JV.cnt, JV.cnts], by simp [JV.dep]; omega, by omega⟩
      · rw [e]; exact ⟨by simp [JV.part], by simp [JV.cnt, JV.cnts], by simp [JV.dep]; omega, by omega⟩
      · rw [e]; exact ⟨by simp [JV.part], by simp [JV.cnt, JV.cnts], by simp [JV.dep]; omega, by omega⟩
      · have := hmt e
        rw [e]; exact ⟨by simp [JV.part, this], by simp [JV.cnt, JV.cnts], by simp [JV.dep]; omega, by omega⟩
    | nolist h hn hd1 h1 => exact good_list (by simp [JV.parts]) (by simp [JV.cnts]) (by simp [JV.deps]; omega) (by omega)
    | list h hn hd1 h1 hr =>
      obtain ⟨xs, rfl, g1, g2, g3, g4⟩ := ih _ _ _ _ _ _ _ hr (fun z hz => hm z (List.mem_cons_of_mem _ hz)) hd1
      exact good_list g1 g2 g3 g4
    | noobj h hn hd1 h1 => exact good_obj rfl List.Pairwise.nil (by simp [JV.parts]) (fun z hz => by cases hz) (by simp [JV.cnts]) (by simp [JV.deps]; omega) (by omega)
    | obj h hn hd1 h1 hr =>
      obtain ⟨ns', is', rfl, g0, gr, g1, gt, g2, g3, g4, _⟩ := ih _ _ _ _ _ _ _ hr (fun z hz => hm z (List.mem_cons_of_mem _ hz)) hd1 rfl List.Pairwise.nil (by simp [JV.parts]) (fun z hz => by cases hz) (by simp [JV.deps]; omega)
      exact good_obj g0 gr g1 gt (by simp [JV.cnts] at g2; omega) g3 g4
  | f + 1, .l acc, ms, n, d, x, ms', n', h, hm, hd => by
    have ih := P_good (E := E) f
    have hw := P_l h
    have hd : d < 12 := hd
    cases hw with
    | @last x m1 ms2 n1 hv h1 =>
      obtain ⟨g1, g2, g3, g4⟩ := ih _ _ _ _ _ _ _ hv hm (show d + 1 ≤ 12 by omega)
      exact ⟨[x], rfl, by simp [JV.parts, g1], by simp [JV.cnts]; omega, by simp [JV.deps]; omega, g4⟩
    | @next x m1 ms2 n1 r hv h1 hr =>
      obtain ⟨g1, g2, g3, g4⟩ := ih _ _ _ _ _ _ _ hv hm (show d + 1 ≤ 12 by omega)
      obtain ⟨xs, rfl, k1, k2, k3, k4⟩ := ih _ _ _ _ _ _ _ hr (fun z hz => hm z (P_rest hv z (List.mem_cons_of_mem _ hz))) hd
      exact ⟨x :: xs, by simp, by simp [JV.parts, g1, k1], by rw [JV.cnts]; omega, by rw [JV.deps]; omega, k4⟩
  | f + 1, .o ns is, ms, n, d, x, ms', n', h, hm, hd => by
    have ih := P_good (E := E) f
    have hw := P_o h
    have hd : d < 12 := hd
    intro hl hr hp ht hdp
    cases hw with
    | @last m c ms n d x m3 ms4 n1 hk hnt hc hv h3 =>
      have hm2 : ∀ z ∈ ms, MT z := fun z hz => hm z (List.mem_cons_of_mem _ (List.mem_cons_of_mem _ hz))
      obtain ⟨g1, g2, g3, g4⟩ := ih _ _ _ _ _ _ _ hv hm2 (show d + 1 ≤ 12 by omega)
      have hmt := hm m List.mem_cons_self hk
      refine ⟨_, _, rfl, ?_, insN_rise hr hnt, insI_parts g1 _ _ hl hp, fun z hz => ?_, ?_, ?_, g4, ?_⟩
      · rw [insN_len, insI_len _ _ hl, hl]
      · rcases insN_mem.1 hz with rfl | hz
        · exact hmt
        · exact ht z hz
      · rw [insI_cnts _ _ hl]; omega
      · rw [insI_deps _ _ hl]; omega
      · rw [insI_deps _ _ hl]; omega
    | @next m c ms n d y m3 ms4 n1 r hk hnt hc hv h3 hr2 =>
      have hm2 : ∀ z ∈ ms, MT z := fun z hz => hm z (List.mem_cons_of_mem _ (List.mem_cons_of_mem _ hz))
      obtain ⟨g1, g2, g3, g4⟩ := ih _ _ _ _ _ _ _ hv hm2 (show d + 1 ≤ 12 by omega)
      have hmt := hm m List.mem_cons_self hk
      obtain ⟨ns', is', rfl, k0, kr, k1, kt, k2, k3, k4, k5⟩ := ih _ _ _ _ _ _ _ hr2 (fun z hz => hm2 z (P_rest hv z (List.mem_cons_of_mem _ hz))) hd (by rw [insN_len, insI_len _ _ hl, hl]) (insN_rise hr hnt) (insI_parts g1 _ _ hl hp) (fun z hz => by
        rcases insN_mem.1 hz with rfl | hz
        · exact hmt
        · exact ht z hz) (by rw [insI_deps _ _ hl]; omega)
      rw [insI_cnts _ _ hl] at k2
      rw [insI_deps _ _ hl] at k5
      exact ⟨ns', is', rfl, k0, kr, k1, kt, by omega, k3, k4, by omega⟩
/-! Elsewhere. -/
/-- the same mark, but for its place -/
def Al (m m' : Lm.Mark) : Prop := m.k = m'.k ∧ m.n = m'.n ∧ m.t = m'.t
inductive Als : List Lm.Mark → List Lm.Mark → Prop
  | nil : Als [] []
  | cons {m m' ms ms'} (h : Al m m') (hs : Als ms ms') : Als (m :: ms) (m' :: ms')
theorem atom_al {m m' : Lm.Mark} (h : Al m m') : atom m = atom m' := by
  unfold atom
  rw [h.1, h.2.1, h.2.2]
/-- what is read is read wherever the marks stand, whatever is behind -/
theorem P_al {E E' : Nat × Nat} (v : List Lm.Mark) : ∀ (f : Nat) (s : St) (ms : List Lm.Mark) (n d : Nat) (x : JV) (r : List Lm.Mark) (n' : Nat), P E f s ms n d = some (.ok x r n') → ∀ ms', Als ms ms' → ∃ r', Als r r' ∧ P E' f s (ms' ++ v) n d = some (.ok x (r' ++ v) n')
  | 0, _, _, _, _, _, _, _, h, _, _ => by cases h
  | f + 1, .v, ms, n, d, x, r, n', h, ms', ha => by
    have ih := P_al (E := E) (E' := E') v f
    have hw := P_v h
    cases hw with
    | @atom m ms n d hb hn hk =>
      cases ha with | @cons m m' ms ms' a0 a1 =>
      exact ⟨ms', a1, by rw [atom_al a0]; exact P_v' (.atom (a0.1 ▸ hb) hn (a0.1 ▸ hk))⟩
    | @nolist m m1 ms n d h0 hn hd1 h1 =>
      cases ha with | @cons m m' ms ms' a0 a1 =>
      cases a1 with | @cons m1 m1' ms ms' b0 b1 =>
      exact ⟨ms', b1, P_v' (.nolist (a0.1 ▸ h0) hn hd1 (b0.1 ▸ h1))⟩
    | @list m m1 ms n d r h0 hn hd1 h1 hr =>
      cases ha with | @cons m m' ms ms' a0 a1 =>
      obtain ⟨r', hr', h2⟩ := ih _ _ _ _ _ _ _ hr _ a1
      cases a1 with | @cons m1 m1' ms ms' b0 b1 =>
      exact ⟨r', hr', P_v' (.list (a0.1 ▸ h0) hn hd1 (b0.1 ▸ h1) h2)⟩
    | @noobj m m1 ms n d h0 hn hd1 h1 =>
      cases ha with | @cons m m' ms ms' a0 a1 =>
      cases a1 with | @cons m1 m1' ms ms' b0 b1 =>
      exact ⟨ms', b1, P_v' (.noobj (a0.1 ▸ h0) hn hd1 (b0.1 ▸ h1))⟩
    | @obj m m1 ms n d r h0 hn hd1 h1 hr =>
      cases ha with | @cons m m' ms ms' a0 a1 =>
      obtain ⟨r', hr', h2⟩ := ih _ _ _ _ _ _ _ hr _ a1
      cases a1 with | @cons m1 m1' ms ms' b0 b1 =>
      exact ⟨r', hr', P_v' (.obj (a0.1 ▸ h0) hn hd1 (b0.1 ▸ h1) h2)⟩
  | f + 1, .l acc, ms, n, d, x, r, n', h, ms', ha => by
    have ih := P_al (E := E) (E' := E') v f
    have hw := P_l h
    cases hw with
    | @last x m1 ms2 n1 hv h1 =>
      obtain ⟨r', hr', h2⟩ := ih _ _ _ _ _ _ _ hv _ ha
      cases hr' with | @cons m m' ms2 ms2' b0 b1 =>
      exact ⟨ms2', b1, P_l' (.last h2 (b0.1 ▸ h1))⟩
    | @next x m1 ms2 n1 r hv h1 hr =>
      obtain ⟨r', hr', h2⟩ := ih _ _ _ _ _ _ _ hv _ ha
      cases hr' with | @cons m m' ms2 ms2' b0 b1 =>
      obtain ⟨q, hq, h3⟩ := ih _ _ _ _ _ _ _ hr _ b1
      exact ⟨q, hq, P_l' (.next h2 (b0.1 ▸ h1) h3)⟩
  | f + 1, .o ns is, ms, n, d, x, r, n', h, ms', ha => by
    have ih := P_al (E := E) (E' := E') v f
    have hw := P_o h
    cases hw with
    | @last m c ms n d x m3 ms4 n1 hk hnt hc hv h3 =>
      cases ha with | @cons m m' ms ms' a0 a1 =>
      cases a1 with | @cons c c' ms ms' c0 c1 =>
      obtain ⟨r', hr', h2⟩ := ih _ _ _ _ _ _ _ hv _ c1
      cases hr' with | @cons m3 m3' ms4 ms4' b0 b1 =>
      rw [a0.2.2]
      exact ⟨ms4', b1, P_o' (.last (a0.1 ▸ hk) (a0.2.2 ▸ hnt) (c0.1 ▸ hc) h2 (b0.1 ▸ h3))⟩
    | @next m c ms n d y m3 ms4 n1 r hk hnt hc hv h3 hr2 =>
      cases ha with | @cons m m' ms ms' a0 a1 =>
      cases a1 with | @cons c c' ms ms' c0 c1 =>
      obtain ⟨r', hr', h2⟩ := ih _ _ _ _ _ _ _ hv _ c1
      cases hr' with | @cons m3 m3' ms4 ms4' b0 b1 =>
      obtain ⟨q, hq, h4⟩ := ih _ _ _ _ _ _ _ hr2 _ b1
      exact ⟨q, hq, P_o' (.next (a0.1 ▸ hk) (a0.2.2 ▸ hnt) (c0.1 ▸ hc) h2 (b0.1 ▸ h3) (by rw [← a0.2.2]; exact h4))⟩
/-! Further on. -/
def sh (z : Nat) (m : Lm.Mark) : Lm.Mark := ⟨m.k, m.a + z, m.b + z, m.n, m.t⟩
def shR (z : Nat) : Res → Res
  | .ok x ms n => .ok x (ms.map (sh z)) n
  | .bad p e => .bad (p + z) e
theorem hd_sh {E : Nat × Nat} {z : Nat} {ms : List Lm.Mark} {k k' : Lm.Mark → List Lm.Mark → Option Res} (h : ∀ m ms, k' (sh z m) (ms.map (sh z)) = (k m ms).map (shR z)) : hd (E.1 + z, E.2) (ms.map (sh z)) k' = (hd E ms k).map (shR z) := by
  cases ms with
  | nil => rfl
  | cons m ms => exact h m ms
theorem thn_sh {z : Nat} {a a' : Option Res} {k k' : JV → List Lm.Mark → Nat → Option Res} (ha : a' = a.map (shR z)) (h : ∀ x ms n, k' x (ms.map (sh z)) n = (k x ms n).map (shR z)) : thn a' k' = (thn a k).map (shR z) := by
  subst ha
  cases a with
  | none => rfl
  | some r =>
    cases r with
    | ok x ms n => exact h x ms n
    | bad p e => rfl
theorem ite_sh {z : Nat} {c : Prop} [Decidable c] {a b a' b' : Option Res} (h1 : a' = a.map (shR z)) (h2 : b' = b.map (shR z)) : (if c then a' else b') = (if c then a else b).map (shR z) := by
  split
  · exact h1
  · exact h2
theorem P_sh (E : Nat × Nat) (z : Nat) : ∀ (f : Nat) (s : St) (ms : List Lm.Mark) (n d : Nat), P (E.1 + z, E.2) f s (ms.map (sh z)) n d = (P E f s ms n d).map (shR z)
  | 0, _, _, _, _ => rfl
  | f + 1, s, ms, n, d => by
    have ih := P_sh E z f
    cases s with
    | v =>
      rw [P, P]
      exact hd_sh fun m ms1 => ite_sh rfl (ite_sh rfl (ite_sh rfl (ite_sh rfl (hd_sh fun m1 ms2 => ite_sh (ite_sh rfl (ih _ _ _ _)) (ite_sh rfl (ih _ _ _ _))))))
    | l acc =>
      rw [P, P]
      exact thn_sh (ih _ _ _ _) fun x ms1 n1 => hd_sh fun m1 ms2 => ite_sh rfl (ite_sh (ih _ _ _ _) rfl)
    | o ns is =>
      rw [P, P]
      exact hd_sh fun m ms1 => ite_sh rfl (ite_sh rfl (hd_sh fun c ms2 => ite_sh rfl (thn_sh (ih _ _ _ _) fun x ms3 n1 => hd_sh fun m3 ms4 => ite_sh rfl (ite_sh (ih _ _ _ _) rfl))))
/-! With another end. -/
/-- a fault is at the end, or at a mark -/
theorem P_end {E : Nat × Nat} (E' : Nat × Nat) : ∀ (f : Nat) (s : St) (ms : List Lm.Mark) (n d : Nat) (r : Res), P E f s ms n d = some r →
    (r = .bad E.1 (fe E) ∧ P E' f s ms n d = some (.bad E'.1 (fe E'))) ∨ (P E' f s ms n d = some r ∧ ((∃ x ms' n', r = .ok x ms' n') ∨ ∃ m ∈ ms, ∃ e, r = .bad m.a e ∧ (e = 3 ∨ e = 5 ∨ e = 7 ∨ e = 8)))
  | 0, _, _, _, _, _, h => by cases h
  | f + 1, .v, ms, n, d, r, h => by
    have ih := P_end (E := E) E' f
    have hw := P_v h
    clear h
    cases hw with
    | short => exact .inl ⟨rfl, P_v' (.short n d)⟩
    | @form m ms n d h => exact .inr ⟨P_v' (.form h), .inr ⟨m, List.mem_cons_self, 3, rfl, .inl rfl⟩⟩
    | @long m ms n d h hn => exact .inr ⟨P_v' (.long h hn), .inr ⟨m, List.mem_cons_self, 5, rfl, .inr (.inl rfl)⟩⟩
    | @atom m ms n d h hn hk => exact .inr ⟨P_v' (.atom h hn hk), .inl ⟨_, _, _, rfl⟩⟩
    | @deep m ms n d h hn hd => exact .inr ⟨P_v' (.deep h hn hd), .inr ⟨m, List.mem_cons_self, 8, rfl, .inr (.inr (.inr rfl))⟩⟩
    | cut h hn hd => exact .inl ⟨rfl, P_v' (.cut h hn hd)⟩
    | nolist h hn hd h1 => exact .inr ⟨P_v' (.nolist h hn hd h1), .inl ⟨_, _, _, rfl⟩⟩
    | list h hn hd h1 hr =>
      rcases ih _ _ _ _ _ hr with ⟨rfl, h2⟩ | ⟨h2, h3 | ⟨m, hm, e, he⟩⟩
      · exact .inl ⟨rfl, P_v' (.list h hn hd h1 h2)⟩
      · exact .inr ⟨P_v' (.list h hn hd h1 h2), .inl h3⟩
      · exact .inr ⟨P_v' (.list h hn hd h1 h2), .inr ⟨m, List.mem_cons_of_mem _ hm, e, he⟩⟩
    | noobj h hn hd h1 => exact .inr ⟨P_v' (.noobj h hn hd h1), .inl ⟨_, _, _, rfl⟩⟩
    | obj h hn hd h1 hr =>
      rcases ih _ _ _ _ _ hr with ⟨rfl, h2⟩ | ⟨h2, h3 | ⟨m, hm, e, he⟩⟩
      · exact .inl ⟨rfl, P_v' (.obj h hn hd h1 h2)⟩
      · exact .inr ⟨P_v' (.obj h hn hd h1 h2), .inl h3⟩
      · exact .inr ⟨P_v' (.obj h hn hd h1 h2), .inr ⟨m, List.mem_cons_of_mem _ hm, e, he⟩⟩
  | f + 1, .l acc, ms, n, d, r, h => by
    have ih := P_end (E := E) E' f
    have hw := P_l h
    clear h
    have same : ∀ {x ms1 n1}, P E f .v ms n (d + 1) = some (.ok x ms1 n1) → P E' f .v ms n (d + 1) = some (.ok x ms1 n1) := fun h => by
      rcases ih _ _ _ _ _ h with ⟨h1, _⟩ | ⟨h1, _⟩
      · cases h1
      · exact h1
    cases hw with
    | item hv =>
      rcases ih _ _ _ _ _ hv with ⟨e1, h2⟩ | ⟨h2, h3 | ⟨m, hm, e, he⟩⟩
      · rw [e1]; exact .inl ⟨rfl, P_l' (.item h2)⟩
      · obtain ⟨_, _, _, h3⟩ := h3; cases h3
      · exact .inr ⟨P_l' (.item h2), .inr ⟨m, hm, e, he⟩⟩
    | cut hv => exact .inl ⟨rfl, P_l' (.cut (same hv))⟩
    | last hv h1 => exact .inr ⟨P_l' (.last (same hv) h1), .inl ⟨_, _, _, rfl⟩⟩
    | next hv h1 hr =>
      rcases ih _ _ _ _ _ hr with ⟨rfl, h2⟩ | ⟨h2, h3 | ⟨m, hm, e, he⟩⟩
      · exact .inl ⟨rfl, P_l' (.next (same hv) h1 h2)⟩
      · exact .inr ⟨P_l' (.next (same hv) h1 h2), .inl h3⟩
      · exact .inr ⟨P_l' (.next (same hv) h1 h2), .inr ⟨m, P_rest hv m (List.mem_cons_of_mem _ hm), e, he⟩⟩
    | @form x m1 ms2 n1 hv h1 h2 => exact .inr ⟨P_l' (.form (same hv) h1 h2), .inr ⟨m1, P_rest hv m1 List.mem_cons_self, 3, rfl, .inl rfl⟩⟩
  | f + 1, .o ns is, ms, n, d, r, h => by
    have ih := P_end (E := E) E' f
    have hw := P_o h
    clear h
    have same : ∀ {ms x ms1 n1}, P E f .v ms n (d + 1) = some (.ok x ms1 n1) → P E' f .v ms n (d + 1) = some (.ok x ms1 n1) := fun h => by
      rcases ih _ _ _ _ _ h with ⟨h1, _⟩ | ⟨h1, _⟩
      · cases h1
      · exact h1
    cases hw with
    | short => exact .inl ⟨rfl, P_o' (.short n d)⟩
    | @form m ms n d h => exact .inr ⟨P_o' (.form h), .inr ⟨m, List.mem_cons_self, 3, rfl, .inl rfl⟩⟩
    | @twice m ms n d h ht => exact .inr ⟨P_o' (.twice h ht), .inr ⟨m, List.mem_cons_self, 7, rfl, .inr (.inr (.inl rfl))⟩⟩
    | cut1 h ht => exact .inl ⟨rfl, P_o' (.cut1 h ht)⟩
    | @form1 m c ms n d h ht hc => exact .inr ⟨P_o' (.form1 h ht hc), .inr ⟨c, List.mem_cons_of_mem _ List.mem_cons_self, 3, rfl, .inl rfl⟩⟩
    | item h ht hc hv =>
      rcases ih _ _ _ _ _ hv with ⟨e1, h2⟩ | ⟨h2, h3 | ⟨m, hm, e, he⟩⟩
      · rw [e1]; exact .inl ⟨rfl, P_o' (.item h ht hc h2)⟩
      · obtain ⟨_, _, _, h3⟩ := h3; cases h3
      · exact .inr ⟨P_o' (.item h ht hc h2), .inr ⟨m, List.mem_cons_of_mem _ (List.mem_cons_of_mem _ hm), e, he⟩⟩
    | cut h ht hc hv => exact .inl ⟨rfl, P_o' (.cut h ht hc (same hv))⟩
    | last h ht hc hv h3 => exact .inr ⟨P_o' (.last h ht hc (same hv) h3), .inl ⟨_, _, _, rfl⟩⟩
    | next h ht hc hv h3 hr =>
      rcases ih _ _ _ _ _ hr with ⟨rfl, h2⟩ | ⟨h2, h4 | ⟨m, hm, e, he⟩⟩
      · exact .inl ⟨rfl, P_o' (.next h ht hc (same hv) h3 h2)⟩
      · exact .inr ⟨P_o' (.next h ht hc (same hv) h3 h2), .inl h4⟩
      · exact .inr ⟨P_o' (.next h ht hc (same hv) h3 h2), .inr ⟨m, List.mem_cons_of_mem _ (List.mem_cons_of_mem _ (P_rest hv m (List.mem_cons_of_mem _ hm))), e, he⟩⟩
    | @form3 m c ms n d x m3 ms4 n1 h ht hc hv h3 h5 => exact .inr ⟨P_o' (.form3 h ht hc (same hv) h3 h5), .inr ⟨m3, List.mem_cons_of_mem _ (List.mem_cons_of_mem _ (P_rest hv m3 List.mem_cons_self)), 3, rfl, .inl rfl⟩⟩
end Rd
end

section
open Go.RowKit
namespace Rd

theorem P_grow {E : Nat × Nat} : ∀ (f : Nat) (s : St) (ms : List Lm.Mark) (n d : Nat) (x : JV) (r : List Lm.Mark) (n' : Nat), P E f s ms n d = some (.ok x r n') → n < n' ∧ n' ≤ 8192
  | 0, _, _, _, _, _, _, _, h => by cases h
  | f + 1, .v, ms, n, d, x, r, n', h => by
    have ih := P_grow (E := E) f
    have hw := P_v h
    cases hw with
    | atom => omega
    | nolist => omega
    | list h hn hd h1 hr => have := ih _ _ _ _ _ _ _ hr; omega
    | noobj => omega
    | obj h hn hd h1 hr => have := ih _ _ _ _ _ _ _ hr; omega
  | f + 1, .l acc, ms, n, d, x, r, n', h => by
    have ih := P_grow (E := E) f
    have hw := P_l h
    cases hw with
    | last hv => exact ih _ _ _ _ _ _ _ hv
    | next hv h1 hr => have := ih _ _ _ _ _ _ _ hv; have := ih _ _ _ _ _ _ _ hr; omega
  | f + 1, .o ns is, ms, n, d, x, r, n', h => by
    have ih := P_grow (E := E) f
    have hw := P_o h
    cases hw with
    | last _ _ _ hv => exact ih _ _ _ _ _ _ _ hv
    | next _ _ _ hv h1 hr => have := ih _ _ _ _ _ _ _ hv; have := ih _ _ _ _ _ _ _ hr; omega
/-- beyond the depth that may be -/
def Deep : St → Nat → JV → Prop
  | .v, d, x => 12 < d + x.dep
  | .l acc, d, x => ∀ xs, x = .mk 4 0 [] [] (acc ++ xs) → 12 < d + 1 + JV.deps xs
  | .o _ _, d, x => 12 < d + 1 + JV.deps x.is
def Far (s : St) (d : Nat) (x : JV) (n' : Nat) (ms r : List Lm.Mark) (r2 : Res) : Prop :=
  r2 = .ok x r n' ∨ (∃ m ∈ ms, r2 = .bad m.a 5 ∧ 8192 < n') ∨ (∃ m ∈ ms, r2 = .bad m.a 8 ∧ Deep s d x)
theorem Far.up {s s' : St} {d d' : Nat} {x x' : JV} {n1 n' : Nat} {ms ms' r r' : List Lm.Mark} {r2 : Res} (h : Far s d x n1 ms r r2) (h0 : r2 ≠ .ok x r n1) (hn : n1 ≤ n') (hm : ∀ m ∈ ms, m ∈ ms') (hd : Deep s d x → Deep s' d' x') : Far s' d' x' n' ms' r' r2 := by
  rcases h with h | ⟨m, h1, h2, h3⟩ | ⟨m, h1, h2, h3⟩
  · exact absurd h h0
  · exact .inr (.inl ⟨m, hm m h1, h2, by omega⟩)
  · exact .inr (.inr ⟨m, hm m h1, h2, hd h3⟩)
theorem P_far {E : Nat × Nat} (c k : Nat) : ∀ (f : Nat) (s : St) (ms : List Lm.Mark) (n d : Nat) (x : JV) (r : List Lm.Mark) (n' : Nat), P E f s ms n d = some (.ok x r n') → (∀ m ∈ ms, MT m) → DO s d →
    (match s with | .o ns is => ns.length = is.length ∧ Rise ns ∧ JV.parts is = true ∧ (∀ z ∈ ns, Jn.txt z = true) ∧ d + 1 + JV.deps is ≤ 12 | _ => True) → d + k ≤ 12 ∨ s = .v →
    ∃ r2, P E f s ms (n + c) (d + k) = some r2 ∧ Far s (d + k) x (n' + c) ms r r2
  | 0, _, _, _, _, _, _, _, h, _, _, _, _ => by cases h
  | f + 1, .v, ms, n, d, x, r, n', h, hm, hd, _, _ => by
    have ih := P_far (E := E) c k f
    have hw := P_v h
    have hgood := P_good _ _ _ _ _ _ _ _ h hm hd
    have hlong : ∀ {m ms}, begins m.k = true → 8192 ≤ n + c → n < n' → ∃ r2, P E (f + 1) .v (m :: ms) (n + c) (d + k) = some r2 ∧ Far .v (d + k) x (n' + c) (m :: ms) r r2 := fun {m ms} hb hn h' => ⟨_, P_v' (.long hb hn), .inr (.inl ⟨m, List.mem_cons_self, rfl, by omega⟩)⟩
    have hdeep : ∀ {m ms}, m.k = 1 ∨ m.k = 3 → n + c < 8192 → 12 ≤ d + k → 1 ≤ x.dep → ∃ r2, P E (f + 1) .v (m :: ms) (n + c) (d + k) = some r2 ∧ Far .v (d + k) x (n' + c) (m :: ms) r r2 := fun {m ms} hb hn h' h1 => ⟨_, P_v' (.deep hb hn h'), .inr (.inr ⟨m, List.mem_cons_self, rfl, by show 12 < d + k + x.dep; omega⟩)⟩
    have hb13 : ∀ {q : Nat}, q = 1 ∨ q = 3 → begins q = true := fun h => by rcases h with h | h <;> rw [h] <;> rfl
    have hg := P_grow _ _ _ _ _ _ _ _ h
    cases hw with
    | @atom m ms n d hb hn hk =>
      by_cases h1 : 8192 ≤ n + c
      · exact hlong hb h1 (by omega)
      · exact ⟨_, P_v' (.atom hb (by omega) hk), .inl (by rw [show n + 1 + c = n + c + 1 by omega])⟩
    | @nolist m m1 ms n d h0 hn hd1 h1 =>
      by_cases h2 : 8192 ≤ n + c
      · exact hlong (hb13 (.inr h0)) h2 (by omega)
      by_cases h3 : 12 ≤ d + k
      · exact hdeep (.inr h0) (by omega) h3 (by simp [JV.dep])
      · exact ⟨_, P_v' (.nolist h0 (by omega) (by omega) h1), .inl (by rw [show n + 1 + c = n + c + 1 by omega])⟩
    | @noobj m m1 ms n d h0 hn hd1 h1 =>
      by_cases h2 : 8192 ≤ n + c
      · exact hlong (hb13 (.inl h0)) h2 (by omega)
      by_cases h3 : 12 ≤ d + k
      · exact hdeep (.inl h0) (by omega) h3 (by simp [JV.dep])
      · exact ⟨_, P_v' (.noobj h0 (by omega) (by omega) h1), .inl (by rw [show n + 1 + c = n + c + 1 by omega])⟩
    | @list m m1 ms n d _ h0 hn hd1 h1 hr =>
      obtain ⟨xs, hx, _⟩ := P_good _ _ _ _ _ _ _ _ hr (fun z hz => hm z (List.mem_cons_of_mem _ hz)) hd1
      have hxd : x.dep = JV.deps xs + 1 := by rw [hx]; simp [JV.dep]
      by_cases h2 : 8192 ≤ n + c
      · exact hlong (hb13 (.inr h0)) h2 (by omega)
      by_cases h3 : 12 ≤ d + k
      · exact hdeep (.inr h0) (by omega) h3 (by omega)
      obtain ⟨r2, e2, hf⟩ := ih _ _ _ _ _ _ _ hr (fun z hz => hm z (List.mem_cons_of_mem _ hz)) hd1 trivial (.inl (by omega))
      rw [show n + 1 + c = n + c + 1 by omega] at e2
      refine ⟨r2, P_v' (.list h0 (by omega) (by omega) h1 e2), ?_⟩
      rcases hf with hf | ⟨m', g1, g2, g3⟩ | ⟨m', g1, g2, g3⟩
      · exact .inl hf
      · exact .inr (.inl ⟨m', List.mem_cons_of_mem _ g1, g2, g3⟩)
      · exact .inr (.inr ⟨m', List.mem_cons_of_mem _ g1, g2, by have := g3 xs hx; show 12 < d + k + x.dep; omega⟩)
    | @obj m m1 ms n d _ h0 hn hd1 h1 hr =>
      have hpre : ([] : List (List UInt8)).length = ([] : List JV).length ∧ Rise [] ∧ JV.parts [] = true ∧ (∀ z ∈ ([] : List (List UInt8)), Jn.txt z = true) ∧ d + 1 + JV.deps [] ≤ 12 := ⟨rfl, List.Pairwise.nil, by simp [JV.parts], (fun z hz => by cases hz), by simp [JV.deps]; omega⟩
      obtain ⟨ns', is', hx, _⟩ := P_good _ _ _ _ _ _ _ _ hr (fun z hz => hm z (List.mem_cons_of_mem _ hz)) hd1 hpre.1 hpre.2.1 hpre.2.2.1 hpre.2.2.2.1 hpre.2.2.2.2
      have hxd : x.dep = JV.deps x.is + 1 := by rw [hx]; simp [JV.dep, JV.is]
      by_cases h2 : 8192 ≤ n + c
      · exact hlong (hb13 (.inl h0)) h2 (by omega)
      by_cases h3 : 12 ≤ d + k
      · exact hdeep (.inl h0) (by omega) h3 (by omega)
      obtain ⟨r2, e2, hf⟩ := ih _ _ _ _ _ _ _ hr (fun z hz => hm z (List.mem_cons_of_mem _ hz)) hd1 hpre (.inl (by omega))
      rw [show n + 1 + c = n + c + 1 by omega] at e2
      refine ⟨r2, P_v' (.obj h0 (by omega) (by omega) h1 e2), ?_⟩
      rcases hf with hf | ⟨m', g1, g2, g3⟩ | ⟨m', g1, g2, g3⟩
      · exact .inl hf
      · exact .inr (.inl ⟨m', List.mem_cons_of_mem _ g1, g2, g3⟩)
      · exact .inr (.inr ⟨m', List.mem_cons_of_mem _ g1, g2, by have : 12 < d + k + 1 + JV.deps x.is := g3; show 12 < d + k + x.dep; omega⟩)
  | f + 1, .l acc, ms, n, d, x, r, n', h, hm, hd, _, hk => by
    have ih := P_far (E := E) c k f
    have hd : d < 12 := hd
    have hk : d + k ≤ 12 := hk.resolve_right (fun e => by cases e)
    have hw := P_l h
    have hg := P_grow _ _ _ _ _ _ _ _ h
    cases hw with
    | @last y m1 ms2 n1 hv h1 =>
      obtain ⟨r2, e2, hf⟩ := ih _ _ _ _ _ _ _ hv hm (show d + 1 ≤ 12 by omega) trivial (.inr rfl)
      rw [show d + 1 + k = d + k + 1 by omega] at e2 hf
      rcases hf with rfl | ⟨m', g1, rfl, g3⟩ | ⟨m', g1, rfl, g3⟩
      · exact ⟨_, P_l' (.last e2 h1), .inl rfl⟩
      · exact ⟨_, P_l' (.item e2), .inr (.inl ⟨m', g1, rfl, g3⟩)⟩
      · refine ⟨_, P_l' (.item e2), .inr (.inr ⟨m', g1, rfl, fun xs hx => ?_⟩)⟩
        simp only [JV.mk.injEq, true_and, List.append_cancel_left_eq] at hx
        have : 12 < d + k + 1 + y.dep := g3
        rw [← hx]
        simp [JV.deps]
        omega
    | @next y m1 ms2 n1 _ hv h1 hr =>
      obtain ⟨r2, e2, hf⟩ := ih _ _ _ _ _ _ _ hv hm (show d + 1 ≤ 12 by omega) trivial (.inr rfl)
      rw [show d + 1 + k = d + k + 1 by omega] at e2 hf
      have hm2 : ∀ z ∈ ms2, MT z := fun z hz => hm z (P_rest hv z (List.mem_cons_of_mem _ hz))
      have hg2 := P_grow _ _ _ _ _ _ _ _ hr
      obtain ⟨xs, hx, _⟩ := P_good _ _ _ _ _ _ _ _ hr hm2 hd
      rcases hf with rfl | ⟨m', g1, rfl, g3⟩ | ⟨m', g1, rfl, g3⟩
      · obtain ⟨r3, e3, hf3⟩ := ih _ _ _ _ _ _ _ hr hm2 hd trivial (.inl hk)
        refine ⟨r3, P_l' (.next e2 h1 e3), ?_⟩
        rcases hf3 with hf3 | ⟨m', g1, g2, g3⟩ | ⟨m', g1, g2, g3⟩
        · exact .inl hf3
        · exact .inr (.inl ⟨m', P_rest hv m' (List.mem_cons_of_mem _ g1), g2, g3⟩)
        · refine .inr (.inr ⟨m', P_rest hv m' (List.mem_cons_of_mem _ g1), g2, fun zs hz => ?_⟩)
          have h12 := g3 xs hx
          rw [hx] at hz
          simp only [JV.mk.injEq, true_and, List.append_assoc, List.append_cancel_left_eq] at hz
          rw [← hz]
          simp [JV.deps]
          omega
      · exact ⟨_, P_l' (.item e2), .inr (.inl ⟨m', g1, rfl, by omega⟩)⟩
      · refine ⟨_, P_l' (.item e2), .inr (.inr ⟨m', g1, rfl, fun zs hz => ?_⟩)⟩
        have : 12 < d + k + 1 + y.dep := g3
        rw [hx] at hz
        simp only [JV.mk.injEq, true_and, List.append_assoc, List.append_cancel_left_eq] at hz
        rw [← hz]
        simp [JV.deps]
        omega
  | f + 1, .o ns is, ms, n, d, x, r, n', h, hm, hd, hpre, hk => by
    have ih := P_far (E := E) c k f
    have hd : d < 12 := hd
    have hk : d + k ≤ 12 := hk.resolve_right (fun e => by cases e)
    obtain ⟨q1, q2, q3, q4, q5⟩ := hpre
    have hw := P_o h
    have hg := P_grow _ _ _ _ _ _ _ _ h
    cases hw with
    | @last m cc ms n d y m3 ms4 n1 hk10 hnt hc hv h3 =>
      have hm2 : ∀ z ∈ ms, MT z := fun z hz => hm z (List.mem_cons_of_mem _ (List.mem_cons_of_mem _ hz))
      have up : ∀ {z : Lm.Mark}, z ∈ ms → z ∈ m :: cc :: ms := fun hz => List.mem_cons_of_mem _ (List.mem_cons_of_mem _ hz)
      obtain ⟨r2, e2, hf⟩ := ih _ _ _ _ _ _ _ hv hm2 (show d + 1 ≤ 12 by omega) trivial (.inr rfl)
      rw [show d + 1 + k = d + k + 1 by omega] at e2 hf
      rcases hf with rfl | ⟨m', g1, rfl, g3⟩ | ⟨m', g1, rfl, g3⟩
      · exact ⟨_, P_o' (.last hk10 hnt hc e2 h3), .inl rfl⟩
      · exact ⟨_, P_o' (.item hk10 hnt hc e2), .inr (.inl ⟨m', up g1, rfl, g3⟩)⟩
      · refine ⟨_, P_o' (.item hk10 hnt hc e2), .inr (.inr ⟨m', up g1, rfl, ?_⟩)⟩
        have h12 : 12 < d + k + 1 + y.dep := g3
        have hdd := insI_deps (l := m.t) (y := y) ns is q1
        show 12 < d + k + 1 + JV.deps (insI m.t y ns is)
        omega
    | @next m cc ms n d y m3 ms4 n1 _ hk10 hnt hc hv h3 hr2 =>
      have hm2 : ∀ z ∈ ms, MT z := fun z hz => hm z (List.mem_cons_of_mem _ (List.mem_cons_of_mem _ hz))
      have up : ∀ {z : Lm.Mark}, z ∈ ms → z ∈ m :: cc :: ms := fun hz => List.mem_cons_of_mem _ (List.mem_cons_of_mem _ hz)
      obtain ⟨g1, g2, g3, g4⟩ := P_good _ _ _ _ _ _ _ _ hv hm2 (show d + 1 ≤ 12 by omega)
      have hmt := hm m List.mem_cons_self hk10
      have hm4 : ∀ z ∈ ms4, MT z := fun z hz => hm2 z (P_rest hv z (List.mem_cons_of_mem _ hz))
      have hdd := insI_deps (l := m.t) (y := y) ns is q1
      have hpre2 : (insN m.t ns).length = (insI m.t y ns is).length ∧ Rise (insN m.t ns) ∧ JV.parts (insI m.t y ns is) = true ∧ (∀ z ∈ insN m.t ns, Jn.txt z = true) ∧ d + 1 + JV.deps (insI m.t y ns is) ≤ 12 :=
        ⟨by rw [insN_len, insI_len _ _ q1, q1], insN_rise q2 hnt, insI_parts g1 _ _ q1 q3, fun z hz => by
          rcases insN_mem.1 hz with rfl | hz
          · exact hmt
          · exact q4 z hz, by omega⟩
      obtain ⟨ns', is', hx, _, _, _, _, _, _, _, hdl⟩ := P_good _ _ _ _ _ _ _ _ hr2 hm4 hd hpre2.1 hpre2.2.1 hpre2.2.2.1 hpre2.2.2.2.1 hpre2.2.2.2.2
      have hg2 := P_grow _ _ _ _ _ _ _ _ hr2
      obtain ⟨r2, e2, hf⟩ := ih _ _ _ _ _ _ _ hv hm2 (show d + 1 ≤ 12 by omega) trivial (.inr rfl)
      rw [show d + 1 + k = d + k + 1 by omega] at e2 hf
      rcases hf with rfl | ⟨m', k1, rfl, k3⟩ | ⟨m', k1, rfl, k3⟩
      · obtain ⟨r3, e3, hf3⟩ := ih _ _ _ _ _ _ _ hr2 hm4 hd hpre2 (.inl hk)
        refine ⟨r3, P_o' (.next hk10 hnt hc e2 h3 e3), ?_⟩
        rcases hf3 with hf3 | ⟨m', k1, k2, k3⟩ | ⟨m', k1, k2, k3⟩
        · exact .inl hf3
        · exact .inr (.inl ⟨m', up (P_rest hv m' (List.mem_cons_of_mem _ k1)), k2, k3⟩)
        · exact .inr (.inr ⟨m', up (P_rest hv m' (List.mem_cons_of_mem _ k1)), k2, k3⟩)
      · exact ⟨_, P_o' (.item hk10 hnt hc e2), .inr (.inl ⟨m', up k1, rfl, by omega⟩)⟩
      · refine ⟨_, P_o' (.item hk10 hnt hc e2), .inr (.inr ⟨m', up k1, rfl, ?_⟩)⟩
        have h12 : 12 < d + k + 1 + y.dep := k3
        rw [hx]
        show 12 < d + k + 1 + JV.deps is'
        omega
/-- the last mark of a list, or of an object, is its bracket -/
theorem P_bracket {E : Nat × Nat} : ∀ (f : Nat) (s : St) (ms : List Lm.Mark) (n d : Nat) (x : JV) (r : List Lm.Mark) (n' : Nat), P E f s ms n d = some (.ok x r n') → (s = .v → x.k = 4 ∨ x.k = 5) → ∃ u m, ms = u ++ m :: r ∧ (m.k = 4 ∨ m.k = 2)
  | 0, _, _, _, _, _, _, _, h, _ => by cases h
  | f + 1, .v, ms, n, d, x, r, n', h, hk => by
    have ih := P_bracket (E := E) f
    have hw := P_v h
    cases hw with
    | @atom m ms n d hb hn h7 =>
      exfalso
      have := hk rfl
      unfold atom at this
      split at this
      · simp [JV.k] at this
      · split at this
        · simp [JV.k] at this
        · split at this
          · simp [JV.k] at this
          · simp [JV.k] at this
    | @nolist m m1 ms n d h0 hn hd1 h1 => exact ⟨[m], m1, rfl, .inl h1⟩
    | @noobj m m1 ms n d h0 hn hd1 h1 => exact ⟨[m], m1, rfl, .inr h1⟩
    | @list m m1 ms n d _ h0 hn hd1 h1 hr =>
      obtain ⟨u, m', e, h⟩ := ih _ _ _ _ _ _ _ hr (fun e => by cases e)
      exact ⟨m :: u, m', by rw [e]; rfl, h⟩
    | @obj m m1 ms n d _ h0 hn hd1 h1 hr =>
      obtain ⟨u, m', e, h⟩ := ih _ _ _ _ _ _ _ hr (fun e => by cases e)
      exact ⟨m :: u, m', by rw [e]; rfl, h⟩
  | f + 1, .l acc, ms, n, d, x, r, n', h, _ => by
    have ih := P_bracket (E := E) f
    have hw := P_l h
    cases hw with
    | @last y m1 ms2 n1 hv h1 =>
      obtain ⟨u, _, e⟩ := P_suffix _ _ _ _ _ _ _ _ hv
      exact ⟨u, m1, e, .inl h1⟩
    | @next y m1 ms2 n1 _ hv h1 hr =>
      obtain ⟨u, _, e⟩ := P_suffix _ _ _ _ _ _ _ _ hv
      obtain ⟨u2, m', e2, h⟩ := ih _ _ _ _ _ _ _ hr (fun e => by cases e)
      exact ⟨u ++ m1 :: u2, m', by rw [e, e2]; simp, h⟩
  | f + 1, .o ns is, ms, n, d, x, r, n', h, _ => by
    have ih := P_bracket (E := E) f
    have hw := P_o h
    cases hw with
    | @last m c ms _ _ y m3 ms4 n1 _ _ _ hv h3 =>
      obtain ⟨u, _, e⟩ := P_suffix _ _ _ _ _ _ _ _ hv
      exact ⟨m :: c :: u, m3, by rw [e]; rfl, .inr h3⟩
    | @next m c ms n d y m3 ms4 n1 _ _ _ _ hv h3 hr =>
      obtain ⟨u, _, e⟩ := P_suffix _ _ _ _ _ _ _ _ hv
      obtain ⟨u2, m', e2, h⟩ := ih _ _ _ _ _ _ _ hr (fun e => by cases e)
      exact ⟨m :: c :: (u ++ m3 :: u2), m', by rw [e, e2]; simp, h⟩
theorem Als.refl : ∀ ms : List Lm.Mark, Als ms ms
  | [] => .nil
  | _ :: ms => .cons ⟨rfl, rfl, rfl⟩ (Als.refl ms)
theorem Als.append {a a' b b' : List Lm.Mark} (h : Als a a') (g : Als b b') : Als (a ++ b) (a' ++ b') := by
  induction h with
  | nil => exact g
  | cons h _ ih => exact .cons h ih
theorem Als.len {a b : List Lm.Mark} (h : Als a b) : a.length = b.length := by
  induction h with
  | nil => rfl
  | cons _ _ ih => rw [List.length_cons, List.length_cons, ih]
theorem Als.sh (z : Nat) : ∀ ms : List Lm.Mark, Als ms (ms.map (sh z))
  | [] => .nil
  | _ :: ms => .cons ⟨rfl, rfl, rfl⟩ (Als.sh z ms)
/-- what is read to its end has no front that is read to its end -/
theorem P_front {E E' : Nat × Nat} {f g : Nat} {u v : List Lm.Mark} {n d : Nat} {x y : JV} {n' n2 : Nat} (h : P E f .v (u ++ v) n d = some (.ok x [] n')) (h' : P E' g .v u n d = some (.ok y [] n2)) : v = [] := by
  obtain ⟨r', hr, h2⟩ := P_al (E' := E) v _ _ _ _ _ _ _ _ h' u (Als.refl u)
  have := P_det h h2
  simp only [Res.ok.injEq] at this
  have h3 := this.2.1
  rcases r' with _ | ⟨a, b⟩
  · exact h3.symm
  · simp at h3
end Rd
end

section
open Go.RowKit

theorem one_unlisted {l : Array Bool} {k : Nat} (h : l.getD k true = false) : l.getD k false = false := by
  rcases Nat.lt_or_ge k l.size with h' | h'
  · simpa [h'] using h
  · simp [h']
set_option maxHeartbeats 1000000 in
theorem wp_region_one {ops : Array Oper} {Q : Exit → Act → World → Prop} {A : Act} {id : Nat} {w : World} (T : List (Option Tmp × Op × List Nat))
    (hkey : ops.toList.map keyOf = T.map fun x => (x.1, x.2.1, true, x.2.2)) (hlow : (List.range ops.size).all (fun i => match ops[i]? with | some o => o.after.all (fun e => !Region.binds .any e || decide (e.on < i)) | none => true) = true)
    (p : Nat → Bool) (D : Nat → Nat) (ia ib : Nat) (sv : Nat) (t : TypeId) (Z C : Array Value) (hne : ia ≠ ib)
    (hD : ∀ k x, T[k]? = some x → k ≠ ib → x.1 = some (D k) ∧ p (D k) = true ∧ D k < A.tmps.size) (hinj : ∀ i, i < T.length → ∀ j, j < T.length → i ≠ ib → j ≠ ib → D i = D j → i = j)
    (F : Nat → Value → Prop) (hal : ∃ d, T[ia]? = some (some (D ia), .alloc t, d)) (halloc : ∀ u : World, (Instr.alloc t true (.tuple #[])).run Tryz.prog u = .ok (.pointer (some ⟨u.heap.size, 0, none⟩)) (u.alloc (.cells Z t)))
    (hst : ∃ d, T[ib]? = some (none, .store t (.tmp (D ia)) (.tmp (D sv)), d) ∧ ia ∈ d ∧ sv ∈ d) (hsv : sv ≠ ia ∧ sv ≠ ib) (hC : ∀ v, F sv v → v = .agg C)
    (hstore : ∀ (u : World) b, u.heap[b]? = some (.cells Z t (0, 0)) → (Instr.storeAt t (.pointer (some ⟨b, 0, none⟩)) (.agg C)).run Tryz.prog u = .ok () (u.setRow b C))
    (step : ∀ (k : Nat) (x : Option Tmp × Op × List Nat) (a : Act) (u : World), T[k]? = some x → k ≠ ia → k ≠ ib → Below w.heap.size w u → (∀ j, p j = false → a.eval (.tmp j) = A.eval (.tmp j)) → (∀ n, n ∈ x.2.2 → n ≠ ia → n ≠ ib → F n (a.eval (.tmp (D n)))) → ∀ o : Oper, o.dst = x.1 → o.op = x.2.1 →
      o.wp Tryz.prog a u (fun a' u' => ∃ v, a' = a.put o.dst v ∧ F k v ∧ Below u.heap.size u u') Q)
    (fin : ∀ f u b, (∀ k, k < T.length → k ≠ ia → k ≠ ib → F k (f (D k))) → f (D ia) = .pointer (some ⟨b, 0, none⟩) → w.heap.size ≤ b → u.heap[b]? = some (.cells C t (0, 0)) → Below w.heap.size w u → Q .normal (putR A p f) u) : (Code.region id ops true).wp Tryz.prog Q A w := by
  obtain ⟨da, hal⟩ := hal
  obtain ⟨db, hst, hda, hdv⟩ := hst
  refine wp_region_tab (by kernel_rfl) T hkey hlow p (fun listed f u => listed.size = T.length ∧ Below w.heap.size w u ∧ (∀ k, listed.getD k false = true → k ≠ ia → k ≠ ib → F k (f (D k))) ∧
    (listed.getD ib false = true → listed.getD ia false = true) ∧
    (listed.getD ia false = true → ∃ b, f (D ia) = .pointer (some ⟨b, 0, none⟩) ∧ w.heap.size ≤ b ∧ b < u.heap.size ∧ (listed.getD ib false = false → u.heap[b]? = some (.cells Z t (0, 0))) ∧ (listed.getD ib false = true → u.heap[b]? = some (.cells C t (0, 0))))) ?_ ?_ ?_
  · have hno : ∀ k, (Array.replicate T.length false).getD k false = true → False := fun k h => by
      simp [Array.getElem?_replicate] at h
      split at h <;> simp at h
    exact ⟨by simp, (Below.refl _ _).drew, fun k h => (hno k h).elim, fun h => (hno _ h).elim, fun h => (hno _ h).elim⟩
  · intro listed f u i x ⟨hs, hb, hF, hab, hV⟩ hx hun hdep o hd hop
    have hil : i < T.length := (List.getElem?_eq_some_iff.1 hx).1
    have hun' := one_unlisted hun
    have hall : ia < T.length := (List.getElem?_eq_some_iff.1 hal).1
    have hin (n : Nat) (hn : n < T.length) (hnb : n ≠ ib) : (putR A p f).eval (.tmp (D n)) = f (D n) := by
      obtain ⟨_, h1, h2⟩ := hD n T[n] (List.getElem?_eq_getElem hn) hnb
      exact putR_in A p f (D n) h1 h2
    have hlt : ∀ {n : Nat}, listed.getD n false = true → n < T.length := fun {n} h => by rw [← hs]; exact lt_of_listed h
    by_cases ea : i = ia
    · subst ea
      rw [hal] at hx
      obtain rfl := Option.some.inj hx
      have ba : Below u.heap.size u (u.alloc (.cells Z t)) := (Below.refl _ _).alloc (Nat.le_refl _) _
      obtain ⟨_, hp1, hp2⟩ := hD i _ hal hne
      have hnb : listed.getD ib false = false := by
        cases h : listed.getD ib false with
        | false => rfl
        | true => rw [hab h] at hun'; cases hun'
      refine wp_val (v := .pointer (some ⟨u.heap.size, 0, none⟩)) (w' := u.alloc (.cells Z t)) (by simp [execOp, hop, halloc]) ⟨fun j => if j = D i then .pointer (some ⟨u.heap.size, 0, none⟩) else f j, ?_, by simpa using hs, hb.trans (ba.mono hb.size), fun k hk hka hkb => ?_, fun h => ?_, fun _ => ⟨u.heap.size, if_pos rfl, hb.size, by simp, fun _ => heap_alloc_new u _, fun h => ?_⟩⟩
      · rw [hd]; exact putR_put _ _ _ _ _ hp1
      · rw [getD_set_other hka] at hk
        have hne2 : D k ≠ D i := fun h => hka (hinj k (hlt hk) i hil hkb hne h)
        simp only [hne2, if_false]
        exact hF k hk hka hkb
      · rw [getD_set_other hne.symm, hnb] at h; cases h
      · rw [getD_set_other hne.symm, hnb] at h; cases h
    by_cases eb : i = ib
    · subst eb
      rw [hst] at hx
      obtain rfl := Option.some.inj hx
      have la := hdep ia hda
      have lv := hdep sv hdv
      obtain ⟨b, e1, e2, e3, e4, _⟩ := hV la
      have hz := e4 hun'
      have ev := hC _ (hF sv lv hsv.1 hsv.2)
      have ep : (putR A p f).eval (.tmp (D ia)) = .pointer (some ⟨b, 0, none⟩) := (hin ia hall hne).trans e1
      have es : (putR A p f).eval (.tmp (D sv)) = .agg C := (hin sv (hlt lv) hsv.2).trans ev
      have hoth : ∀ k, k ≠ b → (u.setRow b C).heap[k]? = u.heap[k]? := fun k hk => setRow_other u b k _ hk
      have hsz : (u.setRow b C).heap.size = u.heap.size := by simp
      refine op_store hop ep es hd (hstore u b hz) ⟨f, rfl, by simpa using hs, ⟨hb.os, hb.tape, hb.output, by rw [hsz]; exact hb.size, fun k hk => by rw [hoth k (by omega)]; exact hb.block k hk⟩, fun k hk hka hkb => ?_, fun _ => by rw [getD_set_other hne]; exact la, fun _ => ⟨b, e1, e2, by rw [hsz]; exact e3, fun h => ?_, fun _ => setRow_heap u b _ _ _ _ hz⟩⟩
      · rw [getD_set_other hkb] at hk
        exact hF k hk hka hkb
      · rw [getD_set_self (by omega)] at h
        cases h
    · obtain ⟨hx1, hp1, hp2⟩ := hD i x hx eb
      refine Oper.wp_mono (fun a' u' ⟨v, ha, hv, hb'⟩ => ?_) (step i x (putR A p f) u hx ea eb hb (fun j hj => putR_out _ _ _ j hj) (fun n hn h1 h2 => ?_) o hd hop)
      · have hl := hdep n hn
        rw [hin n (hlt hl) h2]
        exact hF n hl h1 h2
      · refine ⟨fun j => if j = D i then v else f j, by rw [ha, hd, hx1]; exact putR_put _ _ _ _ _ hp1, by simpa using hs, hb.trans (hb'.mono hb.size), fun k hk hka hkb => ?_, fun h => ?_, fun h => ?_⟩
        · by_cases e : k = i
          · subst e
            simp only [if_true]
            exact hv
          · rw [getD_set_other e] at hk
            have hne2 : D k ≠ D i := fun h => e (hinj k (hlt hk) i hil hkb eb h)
            simp only [hne2, if_false]
            exact hF k hk hka hkb
        · rw [getD_set_other (fun e => eb e.symm)] at h
          rw [getD_set_other (fun e => ea e.symm)]
          exact hab h
        · rw [getD_set_other (fun e => ea e.symm)] at h
          obtain ⟨b, e1, e2, e3, e4, e5⟩ := hV h
          have hne2 : D ia ≠ D i := fun h => ea (hinj ia hall i hil hne eb h).symm
          rw [getD_set_other (fun e => eb e.symm)]
          exact ⟨b, by simp only [hne2, if_false]; exact e1, e2, Nat.lt_of_lt_of_le e3 hb'.size, fun h => (hb'.block b e3).trans (e4 h), fun h => (hb'.block b e3).trans (e5 h)⟩
  · intro listed f u ⟨hs, hb, hF, hab, hV⟩ hall
    obtain ⟨b, e1, e2, e3, _, e5⟩ := hV (hall ia (List.getElem?_eq_some_iff.1 hal).1)
    exact fin f u b (fun k hk => hF k (hall k hk)) e1 e2 (e5 (hall ib (List.getElem?_eq_some_iff.1 hst).1)) hb
end

section
open Go.RowKit

/-- the reader in block rb: text, next, place, count, depth -/
def RAt (rb : Nat) (w : World) (l : List UInt8) (p pl n d : Nat) : Prop := w.heap[rb]? = some (.cells #[.string (S l), .int .i64 (p : Int), .int .i64 (pl : Int), .int .i64 (n : Int), .int .i64 (d : Int)] 58 (0, 0))
theorem row5_cells {b : Nat} {w : World} {t : TypeId} {a0 a1 a2 a3 a4 : Value} (h : w.heap[b]? = some (.cells #[a0, a1, a2, a3, a4] t (0, 0))) : (w.cell? ⟨b, 0, none⟩ = some a0 ∧ w.cell? ⟨b, 1, none⟩ = some a1 ∧ w.cell? ⟨b, 2, none⟩ = some a2 ∧ w.cell? ⟨b, 3, none⟩ = some a3 ∧ w.cell? ⟨b, 4, none⟩ = some a4)
    ∧ ∀ o, w.frozen? ⟨b, o, none⟩ = false := by
  refine ⟨⟨(cell_of_row w b 0 _ _ _ h).trans rfl, (cell_of_row w b 1 _ _ _ h).trans rfl, (cell_of_row w b 2 _ _ _ h).trans rfl, (cell_of_row w b 3 _ _ _ h).trans rfl, (cell_of_row w b 4 _ _ _ h).trans rfl⟩, fun o => ?_⟩
  unfold World.frozen?
  rw [h]
  simp
/-- nothing but block rb has turned -/
structure Kr (rb : Nat) (w w' : World) : Prop where
  os : w'.os = w.os
  tape : w'.tape = w.tape
  output : w'.output = w.output
  size : w.heap.size ≤ w'.heap.size
  block : ∀ k, k < w.heap.size → k ≠ rb → w'.heap[k]? = w.heap[k]?
theorem Kr.refl (rb : Nat) (w : World) : Kr rb w w := ⟨rfl, rfl, rfl, Nat.le_refl _, fun _ _ _ => rfl⟩
theorem Kr.trans {rb : Nat} {a b c : World} (h : Kr rb a b) (g : Kr rb b c) : Kr rb a c :=
  ⟨g.os.trans h.os, g.tape.trans h.tape, g.output.trans h.output, Nat.le_trans h.size g.size, fun k hk hn => (g.block k (Nat.lt_of_lt_of_le hk h.size) hn).trans (h.block k hk hn)⟩
theorem Kr.of_below {rb : Nat} {w w' : World} (h : Below w.heap.size w w') : Kr rb w w' := ⟨h.os, h.tape, h.output, h.size, fun k hk _ => h.block k hk⟩
theorem Kr.below {rb B : Nat} {w0 w w' : World} (h : Kr rb w w') (hb : Below B w0 w) (hB : B ≤ rb) (hs : B ≤ w.heap.size) : Below B w0 w' :=
  ⟨h.os.trans hb.os, h.tape.trans hb.tape, h.output.trans hb.output, Nat.le_trans hb.size h.size, fun k hk => (h.block k (by omega) (by omega)).trans (hb.block k hk)⟩
theorem Kr.set {rb : Nat} {w w' : World} (h : Kr rb w w') (o : Nat) (v : Value) : Kr rb w (w'.setCell ⟨rb, o, none⟩ v) :=
  ⟨h.os, h.tape, h.output, by simpa using h.size, fun k hk hn => (heap_setCell_other w' ⟨rb, o, none⟩ k _ hn).trans (h.block k hk hn)⟩
/-- the marks from p on, and what is behind them (place, error; 0: the end) -/
inductive TS (l : List UInt8) : Nat → List Lm.Mark → Nat × Nat → Prop
  | stop {p : Nat} (h : Lm.mark l (Lm.skip l p) = (⟨11, l.length, l.length, 0, []⟩, 0)) : TS l p [] (l.length, 0)
  | bad {p e : Nat} (h : Lm.mark l (Lm.skip l p) = (Lm.zero, e)) (he : e ≠ 0) : TS l p [] (Lm.skip l p, e)
  | more {p : Nat} {m : Lm.Mark} {ms : List Lm.Mark} {E : Nat × Nat} (h : Lm.mark l (Lm.skip l p) = (m, 0)) (hk : m.k ≠ 11) (hs : TS l m.b ms E) : TS l p (m :: ms) E
theorem TS.exists (l : List UInt8) : ∀ (f p : Nat), p ≤ l.length → l.length - p < f → ∃ ms E, TS l p ms E
  | 0, p, _, h => by omega
  | f + 1, p, hp, hf => by
    have hsl := Lm.skip_le hp
    have hsg := Lm.skip_ge l p
    obtain ⟨⟨m, e⟩, hm⟩ : ∃ x, Lm.mark l (Lm.skip l p) = x := ⟨_, rfl⟩
    rcases Lm.mark_ways l (Lm.skip l p) hsl with ⟨h1, h2⟩ | ⟨h1, h2⟩ | ⟨h1, h2, h3, h4, h5, h6⟩
    · rw [hm] at h1 h2
      obtain rfl : m = Lm.zero := h2
      exact ⟨[], _, .bad hm h1⟩
    · rw [h2] at h1
      exact ⟨[], _, .stop (by rw [h2]; exact h1)⟩
    · rw [hm] at h1 h2 h3 h4 h5 h6
      obtain rfl : e = 0 := h1
      have h5 : Lm.skip l p < m.b := h5
      have h6 : m.b ≤ l.length := h6
      have h3 : m.k ≤ 10 := h3
      obtain ⟨ms, E, h⟩ := TS.exists l f m.b h6 (by omega)
      exact ⟨m :: ms, E, .more hm (by omega) h⟩
theorem TS.det {l : List UInt8} {p : Nat} {ms ms' : List Lm.Mark} {E E' : Nat × Nat} (h : TS l p ms E) (h' : TS l p ms' E') : ms = ms' ∧ E = E' := by
  induction h generalizing ms' with
  | stop h =>
    cases h' with
    | stop => exact ⟨rfl, rfl⟩
    | bad g he => rw [h] at g; simp at g; exact absurd g.2.symm he
    | more g hk => rw [h] at g; simp only [Prod.mk.injEq, and_true] at g; rw [← g] at hk; exact absurd rfl hk
  | bad h he =>
    cases h' with
    | stop g => rw [h] at g; simp at g; exact absurd g.2 he
    | bad g _ => rw [h] at g; simp only [Prod.mk.injEq, true_and] at g; rw [g]; exact ⟨rfl, rfl⟩
    | more g => rw [h] at g; simp only [Prod.mk.injEq] at g; exact absurd g.2 he
  | more h hk _ ih =>
    cases h' with
    | stop g => rw [h] at g; simp only [Prod.mk.injEq, and_true] at g; rw [g] at hk; exact absurd rfl hk
    | bad g he => rw [h] at g; simp only [Prod.mk.injEq] at g; exact absurd g.2.symm he
    | more g _ hs =>
      rw [h] at g
      simp only [Prod.mk.injEq, and_true] at g
      subst g
      obtain ⟨rfl, rfl⟩ := ih hs
      exact ⟨rfl, rfl⟩
/-- what stands ahead of the marks -/
structure RS (w0 : World) (rb : Nat) (l : List UInt8) (w : World) (p pl n d : Nat) : Prop where
  tab : TabL w0
  below : Below w0.heap.size w0 w
  at0 : w0.heap.size ≤ rb
  at' : RAt rb w l p pl n d
  len : l.length ≤ 65536
  pos : p ≤ l.length
theorem RS.lt {w0 w : World} {rb : Nat} {l : List UInt8} {p pl n d : Nat} (h : RS w0 rb l w p pl n d) : rb < w.heap.size := (Array.getElem?_eq_some_iff.1 h.at').1
theorem RS.tabs {w0 w : World} {rb : Nat} {l : List UInt8} {p pl n d : Nat} (h : RS w0 rb l w p pl n d) : TabL w := h.tab.below h.below
theorem RS.grow {w0 w w' : World} {rb : Nat} {l : List UInt8} {p pl n d : Nat} (h : RS w0 rb l w p pl n d) (hb : Below w.heap.size w w') : RS w0 rb l w' p pl n d :=
  ⟨h.tab, h.below.trans (hb.mono h.below.size), h.at0, (hb.block rb h.lt).trans h.at', h.len, h.pos⟩
/-- another block is written -/
theorem RS.other {w0 w w' : World} {rb : Nat} {l : List UInt8} {p pl n d : Nat} (h : RS w0 rb l w p pl n d) (h1 : w'.heap[rb]? = w.heap[rb]?) (h2 : Below w0.heap.size w0 w') : RS w0 rb l w' p pl n d := ⟨h.tab, h2, h.at0, h1.trans h.at', h.len, h.pos⟩
theorem mk_zero : Lm.MV Lm.zero = .agg #[.int .u8 0, .int .i64 0, .int .i64 0, .int .i64 0, .string ⟨#[]⟩] := rfl
/-! take's two drawn regions -/
def Tta : List (Option Tmp × Op × List Nat) :=
  [(some 10, .move (.tmp 0), []), (some 11, .nilCheck (.tmp 10), [0]), (some 12, .fieldAddr 56 (.tmp 11) 0, [1]), (some 13, .load 9 (.tmp 12), [2]),
   (some 14, .move (.tmp 0), []), (some 15, .nilCheck (.tmp 14), [4]), (some 16, .fieldAddr 56 (.tmp 15) 1, [5]), (some 17, .load 3 (.tmp 16), [6]),
   (some 18, .call { callee := .value (.func 67), args := #[.tmp 13, .tmp 17], argTypes := #[9, 3] }, [3, 7]),
   (some 9, .move (.tmp 18), [8]), (some 19, .extract (.tmp 9) 0, [9]), (some 20, .extract (.tmp 9) 1, [9]), (some 4, .alloc 85, []),
   (none, .store 85 (.tmp 4) (.tmp 19), [12, 10, 8, 0, 1, 2, 3, 4, 5, 6, 7, 8, 9, 10, 12]),
   (some 5, .assign (.tmp 20), [11, 13, 0, 1, 2, 3, 4, 5, 6, 7, 8, 9, 10, 11, 12, 13])]
def Dta (k : Nat) : Nat := [10, 11, 12, 13, 14, 15, 16, 17, 18, 9, 19, 20, 4, 0, 5].getD k 0
def pta (i : Nat) : Bool := [10, 11, 12, 13, 14, 15, 16, 17, 18, 9, 19, 20, 4, 5].contains i
/-- what each leaves: reader's block, text, place, mark, error -/
def Fta (rb : Nat) (l : List UInt8) (p : Nat) (m : Value) (e : Int) : Nat → Value → Prop
  | 0, v | 1, v | 2, v | 4, v | 5, v => v = .pointer (some ⟨rb, 0, none⟩)
  | 6, v => v = .pointer (some ⟨rb, 1, none⟩)
  | 3, v => v = .string (S l)
  | 7, v => v = .int .i64 (p : Int)
  | 8, v | 9, v => v = .tuple #[m, .int .i64 e]
  | 10, v => v = m
  | _, v => v = .int .i64 e
theorem tok_fld (rb k : Nat) (w : World) : (Instr.fieldAt 56 (.pointer (some ⟨rb, 0, none⟩)) k).run Tryz.prog w = .ok (.pointer (some ⟨rb, k, none⟩)) w ∨ 3 ≤ k := by
  rcases k with _ | _ | _ | k
  · left; kernel_rfl
  · left; kernel_rfl
  · left; kernel_rfl
  · right; omega
theorem lex_alloc (u : World) : (Instr.alloc 85 true (.tuple #[])).run Tryz.prog u = .ok (.pointer (some ⟨u.heap.size, 0, none⟩)) (u.alloc (.cells N5 85)) := by kernel_rfl
theorem run_fld {t : TypeId} {rb k o : Nat} (h : ∀ w : World, (Instr.fieldAt t (.pointer (some ⟨rb, 0, none⟩)) k).run Tryz.prog w = .ok (.pointer (some ⟨rb, o, none⟩)) w) {op : Oper} {a : Act} {w : World} {K : Act → World → Prop} {Q : Exit → Act → World → Prop} {x : Operand} (ho : op.op = .fieldAddr t x k) (hx : a.eval x = .pointer (some ⟨rb, 0, none⟩)) (hk : K (a.put op.dst (.pointer (some ⟨rb, o, none⟩))) w) : op.wp Tryz.prog a w K Q :=
  wp_val (by simp [execOp, ho, hx, h]) hk
theorem tf0 (rb : Nat) (w : World) : (Instr.fieldAt 56 (.pointer (some ⟨rb, 0, none⟩)) 0).run Tryz.prog w = .ok (.pointer (some ⟨rb, 0, none⟩)) w := by kernel_rfl
theorem tf1 (rb : Nat) (w : World) : (Instr.fieldAt 56 (.pointer (some ⟨rb, 0, none⟩)) 1).run Tryz.prog w = .ok (.pointer (some ⟨rb, 1, none⟩)) w := by kernel_rfl
theorem agg_string (w : World) : (isAgg 9).run Tryz.prog w = .ok false w := by kernel_rfl
theorem agg_int (w : World) : (isAgg 3).run Tryz.prog w = .ok false w := by kernel_rfl
theorem ld_cell {t : TypeId} (hagg : ∀ w, (isAgg t).run Tryz.prog w = .ok false w) (w : World) {a : Addr} {c : Value} (h : w.cell? a = some c) : (Instr.loadAt t (.pointer (some a))).run Tryz.prog w = .ok c w := by
  simp [Instr.loadAt, Instr.sureAddr, loadVar, hagg, h]
theorem op_extract {o : Oper} {a : Act} {w : World} {K : Act → World → Prop} {Q : Exit → Act → World → Prop} {x : Operand} {k : Nat} {vs : Array Value} {v : Value} (ho : o.op = .extract x k) (hx : a.eval x = .tuple vs) (hk : vs[k]? = some v) (h : K (a.put o.dst v) w) : o.wp Tryz.prog a w K Q :=
  wp_val (by
    simp [execOp, ho, hx]
    simp [Instr.extract, hk]) h
theorem st_lex (w : World) (g : Nat) (hg : w.heap[g]? = some (.cells N5 85 (0, 0))) (d0 d1 d2 d3 d4 : Value) (hone : ∀ u ∈ [d0, d1, d2, d3, d4], u.oneCell' = true) :
    (Instr.storeAt 85 (.pointer (some ⟨g, 0, none⟩)) (.agg #[d0, d1, d2, d3, d4])).run Tryz.prog w = .ok () (w.setRow g #[d0, d1, d2, d3, d4]) := by
  have h := run_storeCells_at (P := Tryz.prog) g 0 85 [d0, d1, d2, d3, d4] 0 N5 w hg (by simp [N5]) hone
  simp only [Nat.add_zero, List.length_cons, List.length_nil, Nat.zero_add, Nat.reduceAdd] at h
  obtain ⟨i0, hi0, hz0, hz1, hz2⟩ := info_parts info_lex
  simp [Instr.storeAt, Instr.sureAddr, storeVar, sizeOf, typeInfo, hi0, hz1, Value.cells, h]
  rfl
theorem mv_ones (m : Lm.Mark) : ∀ u ∈ [Value.int .u8 (m.k : Int), .int .i64 (m.a : Int), .int .i64 (m.b : Int), .int .i64 m.n, .string (S m.t)], u.oneCell' = true := fun u hu => by
  simp only [List.mem_cons, List.not_mem_nil, or_false] at hu
  rcases hu with rfl | rfl | rfl | rfl | rfl <;> rfl
theorem lexNext_tok {l : List UInt8} {p : Nat} {w : World} (hT : TabL w) (hl : l.length ≤ 65536) (hp : p ≤ l.length) {m : Lm.Mark} {e : Nat} (hm : Lm.mark l (Lm.skip l p) = (m, e)) :
    Calls Tryz.prog 67 #[.string (S l), .int .i64 (p : Int)] w fun en w' => en = .returned (.tuple #[Lm.MV m, .int .i64 (e : Int)]) ∧ Below w.heap.size w w' := by
  have h := lexNext_any l (p : Int) w hT (by omega)
  rw [Lm.NEXT_in hp, hm] at h
  exact h
set_option maxHeartbeats 1000000 in
set_option maxRecDepth 10000 in
theorem region_ta {ops : Array Oper} {Q : Exit → Act → World → Prop} {A : Act} {id : Nat} {w0 w : World}
    (hkey : ops.toList.map keyOf = Tta.map fun x => (x.1, x.2.1, true, x.2.2)) (hlow : (List.range ops.size).all (fun i => match ops[i]? with | some o => o.after.all (fun e => !Region.binds .any e || decide (e.on < i)) | none => true) = true)
    (hsz : 20 < A.tmps.size) {rb : Nat} {l : List UInt8} {p pl n d : Nat} (hS : RS w0 rb l w p pl n d) {m : Lm.Mark} {e : Nat} (hm : Lm.mark l (Lm.skip l p) = (m, e)) (e0 : A.eval (.tmp 0) = .pointer (some ⟨rb, 0, none⟩))
    (fin : ∀ (f : Nat → Value) u b, f 4 = .pointer (some ⟨b, 0, none⟩) → f 5 = .int .i64 (e : Int) → w.heap.size ≤ b → MkAt b u (.int .u8 (m.k : Int)) (.int .i64 (m.a : Int)) (.int .i64 (m.b : Int)) (.int .i64 m.n) (.string (S m.t)) → Below w.heap.size w u → Q .normal (putR A pta f) u) : (Code.region id ops true).wp Tryz.prog Q A w := by
  refine wp_region_one Tta hkey hlow pta Dta 12 13 10 85 N5 #[.int .u8 (m.k : Int), .int .i64 (m.a : Int), .int .i64 (m.b : Int), .int .i64 m.n, .string (S m.t)] (by decide) ?_ ?_ (Fta rb l p (Lm.MV m) (e : Int)) ⟨_, rfl⟩ lex_alloc ⟨_, rfl, by simp, by simp⟩ (by decide) (fun v h => h) (fun u b hb => st_lex u b hb _ _ _ _ _ (mv_ones m)) ?_ ?_
  · intro k x hx hk
    rcases k with _ | _ | _ | _ | _ | _ | _ | _ | _ | _ | _ | _ | _ | _ | _ | k
    all_goals simp only [Tta, List.getElem?_cons_zero, List.getElem?_cons_succ, List.getElem?_nil, Option.some.injEq, reduceCtorEq] at hx
    all_goals subst hx
    all_goals first | exact ⟨rfl, rfl, Nat.lt_of_le_of_lt (by show (_ : Nat) ≤ 20; decide) hsz⟩ | (exfalso; exact hk rfl)
  · intro i hi j hj h1 h2 h
    have key : ∀ i, i < 15 → ∀ j, j < 15 → i ≠ 13 → j ≠ 13 → Dta i = Dta j → i = j := by decide
    exact key i hi j hj h1 h2 h
  · intro k x a u hx h12 h13 hb hout hdep o hd hop
    have hSu := hS.grow hb
    obtain ⟨⟨q0, q1, q2, q3, q4⟩, _⟩ := row5_cells hSu.at'
    rcases k with _ | _ | _ | _ | _ | _ | _ | _ | _ | _ | _ | _ | _ | _ | _ | k
    all_goals simp only [Tta, List.getElem?_cons_zero, List.getElem?_cons_succ, List.getElem?_nil, Option.some.injEq, reduceCtorEq] at hx
    all_goals subst hx
    · exact rc_move (F := fun _ v => Fta rb l p (Lm.MV m) (e : Int) 0 v) hop ((hout 0 rfl).trans e0) rfl
    · exact op_nil hop (hdep 0 (by simp) (by decide) (by decide)) ⟨_, rfl, rfl, Below.refl _ _⟩
    · exact run_fld (tf0 rb) hop (hdep 1 (by simp) (by decide) (by decide)) ⟨_, rfl, rfl, Below.refl _ _⟩
    · exact op_load hop (hdep 2 (by simp) (by decide) (by decide)) (ld_cell agg_string u q0) ⟨_, rfl, rfl, Below.refl _ _⟩
    · exact rc_move (F := fun _ v => Fta rb l p (Lm.MV m) (e : Int) 4 v) hop ((hout 0 rfl).trans e0) rfl
    · exact op_nil hop (hdep 4 (by simp) (by decide) (by decide)) ⟨_, rfl, rfl, Below.refl _ _⟩
    · exact run_fld (tf1 rb) hop (hdep 5 (by simp) (by decide) (by decide)) ⟨_, rfl, rfl, Below.refl _ _⟩
    · exact op_load hop (hdep 6 (by simp) (by decide) (by decide)) (ld_cell agg_int u q1) ⟨_, rfl, rfl, Below.refl _ _⟩
    · refine rc_call (F := fun _ v => Fta rb l p (Lm.MV m) (e : Int) 8 v) 67 (args := #[.string (S l), .int .i64 (p : Int)]) hop ?_ (fun args w => by kernel_rfl) ?_
      · have h3 : a.eval (.tmp 13) = .string (S l) := hdep 3 (by simp) (by decide) (by decide)
        have h7 : a.eval (.tmp 17) = .int .i64 (p : Int) := hdep 7 (by simp) (by decide) (by decide)
        simp only [List.map_toArray, List.map_cons, List.map_nil, h3, h7]
      · refine (lexNext_tok hSu.tabs hS.len hS.pos hm).mono ?_
        rintro en w' ⟨rfl, h⟩
        exact ⟨_, rfl, rfl, h⟩
    · exact rc_move (F := fun _ v => Fta rb l p (Lm.MV m) (e : Int) 9 v) hop (hdep 8 (by simp) (by decide) (by decide)) rfl
    · exact op_extract hop (hdep 9 (by simp) (by decide) (by decide)) rfl ⟨_, rfl, rfl, Below.refl _ _⟩
    · exact op_extract hop (hdep 9 (by simp) (by decide) (by decide)) rfl ⟨_, rfl, rfl, Below.refl _ _⟩
    · exact absurd rfl h12
    · exact absurd rfl h13
    · exact rc_assign (F := fun _ v => Fta rb l p (Lm.MV m) (e : Int) 14 v) hop (hdep 11 (by simp) (by decide) (by decide)) rfl
  · intro f u b hF hb hbs hC hbel
    exact fin f u b hb (hF 14 (by decide) (by decide) (by decide)) hbs hC hbel
/-- the fault of the first mark is told by All as well -/
theorem all_bad {l : List UInt8} {p : Nat} (hp : p ≤ l.length) (hl : l.length ≤ 65536) {m : Lm.Mark} {e : Nat} (hm : Lm.mark l (Lm.skip l p) = (m, e)) (he : e ≠ 0) : Lm.ALL (l.drop p) = ([], Lm.skip l p - p, e) := by
  have hsl := Lm.skip_le hp
  have hsg := Lm.skip_ge l p
  have hq : Lm.skip (l.drop p) 0 = Lm.skip l p - p := by
    show 0 + Lm.run Lm.ws (l.drop p) 0 = p + Lm.run Lm.ws l p - p
    unfold Lm.run
    rw [List.drop_zero]
    omega
  have hq2 : Lm.skip l p - p ≤ (l.drop p).length := by rw [List.length_drop]; omega
  have h1 := Lm.mark_tok l (Lm.skip l p) hsl
  have h2 := Lm.mark_tok (l.drop p) (Lm.skip l p - p) hq2
  rw [List.drop_drop, show p + (Lm.skip l p - p) = Lm.skip l p by omega] at h2
  rw [hm] at h1
  obtain ⟨m', e', hx⟩ : ∃ m' e', Lm.tok (l.drop (Lm.skip l p)) = (m', e') := ⟨_, _, rfl⟩
  rw [hx] at h1 h2
  have he' : e' ≠ 0 := by
    rintro rfl
    rw [Lm.put_ok] at h1
    simp at h1
    exact he h1.2
  rw [Lm.put_no _ _ he'] at h1 h2
  simp only [Prod.mk.injEq] at h1
  unfold Lm.ALL
  rw [if_neg (by rw [List.length_drop]; omega), Lm.go_bad (m := Lm.zero) (e := e') (by rw [hq]; exact h2) he', hq, h1.2]
def Ttb : List (Option Tmp × Op × List Nat) :=
  [(some 24, .move (.tmp 0), []), (some 25, .nilCheck (.tmp 24), [0]), (some 26, .fieldAddr 56 (.tmp 25) 0, [1]), (some 27, .load 9 (.tmp 26), [2]),
   (some 28, .move (.tmp 0), []), (some 29, .nilCheck (.tmp 28), [4]), (some 30, .fieldAddr 56 (.tmp 29) 1, [5]), (some 31, .load 3 (.tmp 30), [6]),
   (some 32, .slice 9 (.tmp 27) (some (.tmp 31)) none none, [3, 7]),
   (some 33, .call { callee := .value (.func 68), args := #[.tmp 32], argTypes := #[9] }, [8]),
   (some 23, .move (.tmp 33), [9]), (some 34, .extract (.tmp 23) 0, [10]), (some 35, .extract (.tmp 23) 1, [10]), (some 36, .extract (.tmp 23) 2, [10]),
   (some 6, .assign (.tmp 34), [11, 9, 0, 1, 2, 3, 4, 5, 6, 7, 8, 9, 10, 11]), (some 7, .assign (.tmp 35), [12, 14, 0, 1, 2, 3, 4, 5, 6, 7, 8, 9, 10, 11, 12, 14]),
   (some 8, .assign (.tmp 36), [13, 15, 0, 1, 2, 3, 4, 5, 6, 7, 8, 9, 10, 11, 12, 13, 14, 15])]
def Dtb (k : Nat) : Nat := [24, 25, 26, 27, 28, 29, 30, 31, 32, 33, 23, 34, 35, 36, 6, 7, 8].getD k 0
def ptb (i : Nat) : Bool := [24, 25, 26, 27, 28, 29, 30, 31, 32, 33, 23, 34, 35, 36, 6, 7, 8].contains i
def Ftb (rb : Nat) (l : List UInt8) (p q : Nat) (e : Int) : Nat → Value → Prop
  | 0, v | 1, v | 2, v | 4, v | 5, v => v = .pointer (some ⟨rb, 0, none⟩)
  | 6, v => v = .pointer (some ⟨rb, 1, none⟩)
  | 3, v => v = .string (S l)
  | 7, v => v = .int .i64 (p : Int)
  | 8, v => v = .string (S (l.drop p))
  | 9, v | 10, v => ∃ r, v = .tuple #[r, .int .i64 (q : Int), .int .i64 e]
  | 12, v | 15, v => v = .int .i64 (q : Int)
  | _, _ => True
theorem op_slice {o : Oper} {a : Act} {w : World} {K : Act → World → Prop} {Q : Exit → Act → World → Prop} {t : TypeId} {x y : Operand} {u v r : Value} (ho : o.op = .slice t x (some y) none none) (hx : a.eval x = u) (hy : a.eval y = v) (hr : (Instr.sliceAt t u (some v) none none).run Tryz.prog w = .ok r w) (h : K (a.put o.dst r) w) : o.wp Tryz.prog a w K Q :=
  wp_val (by simp [execOp, ho, hx, hy, hr]) h
set_option maxHeartbeats 1000000 in
set_option maxRecDepth 10000 in
theorem region_tb {ops : Array Oper} {Q : Exit → Act → World → Prop} {A : Act} {id : Nat} {w0 w : World}
    (hkey : ops.toList.map keyOf = Ttb.map fun x => (x.1, x.2.1, true, x.2.2)) (hlow : (List.range ops.size).all (fun i => match ops[i]? with | some o => o.after.all (fun e => !Region.binds .any e || decide (e.on < i)) | none => true) = true)
    (hsz : 36 < A.tmps.size) {rb : Nat} {l : List UInt8} {p pl n d : Nat} (hS : RS w0 rb l w p pl n d) {m : Lm.Mark} {e : Nat} (hm : Lm.mark l (Lm.skip l p) = (m, e)) (he : e ≠ 0) (e0 : A.eval (.tmp 0) = .pointer (some ⟨rb, 0, none⟩))
    (fin : ∀ (f : Nat → Value) u, f 7 = .int .i64 ((Lm.skip l p - p : Nat) : Int) → Below w.heap.size w u → Q .normal (putR A ptb f) u) : (Code.region id ops true).wp Tryz.prog Q A w := by
  refine wp_region_calls (by kernel_rfl) Ttb hkey hlow ptb Dtb ?_ ?_ (fun k _ v => Ftb rb l p (Lm.skip l p - p) (e : Int) k v) (fun _ _ _ _ _ h => h) ?_ ?_
  · intro k x hx
    rcases k with _ | _ | _ | _ | _ | _ | _ | _ | _ | _ | _ | _ | _ | _ | _ | _ | _ | k
    all_goals simp only [Ttb, List.getElem?_cons_zero, List.getElem?_cons_succ, List.getElem?_nil, Option.some.injEq, reduceCtorEq] at hx
    all_goals subst hx
    all_goals exact ⟨rfl, rfl, Nat.lt_of_le_of_lt (by show (_ : Nat) ≤ 36; decide) hsz⟩
  · intro i j hi hj h
    have key : ∀ i, i < 17 → ∀ j, j < 17 → Dtb i = Dtb j → i = j := by decide
    exact key i hi j hj h
  · intro k x a u hx hb hout hdep o hd hop
    have hSu := hS.grow hb
    obtain ⟨⟨q0, q1, q2, q3, q4⟩, _⟩ := row5_cells hSu.at'
    rcases k with _ | _ | _ | _ | _ | _ | _ | _ | _ | _ | _ | _ | _ | _ | _ | _ | _ | k
    all_goals simp only [Ttb, List.getElem?_cons_zero, List.getElem?_cons_succ, List.getElem?_nil, Option.some.injEq, reduceCtorEq] at hx
    all_goals subst hx
    · exact rc_move (F := fun _ v => Ftb rb l p (Lm.skip l p - p) (e : Int) 0 v) hop ((hout 0 rfl).trans e0) rfl
    · exact op_nil hop (hdep 0 (by simp)) ⟨_, rfl, rfl, Below.refl _ _⟩
    · exact run_fld (tf0 rb) hop (hdep 1 (by simp)) ⟨_, rfl, rfl, Below.refl _ _⟩
    · exact op_load hop (hdep 2 (by simp)) (ld_cell agg_string u q0) ⟨_, rfl, rfl, Below.refl _ _⟩
    · exact rc_move (F := fun _ v => Ftb rb l p (Lm.skip l p - p) (e : Int) 4 v) hop ((hout 0 rfl).trans e0) rfl
    · exact op_nil hop (hdep 4 (by simp)) ⟨_, rfl, rfl, Below.refl _ _⟩
    · exact run_fld (tf1 rb) hop (hdep 5 (by simp)) ⟨_, rfl, rfl, Below.refl _ _⟩
    · exact op_load hop (hdep 6 (by simp)) (ld_cell agg_int u q1) ⟨_, rfl, rfl, Below.refl _ _⟩
    · exact op_slice hop (hdep 3 (by simp)) (hdep 7 (by simp)) (slice_from l p hS.pos u) ⟨_, rfl, rfl, Below.refl _ _⟩
    · refine rc_call (F := fun _ v => Ftb rb l p (Lm.skip l p - p) (e : Int) 9 v) 68 (args := #[.string (S (l.drop p))]) hop ?_ (fun args w => by kernel_rfl) ?_
      · have h3 : a.eval (.tmp 32) = .string (S (l.drop p)) := hdep 8 (by simp)
        simp only [List.map_toArray, List.map_cons, List.map_nil, h3]
      · have h := lexAll_any (l.drop p) u hSu.tabs (by rw [List.length_drop]; have := hS.len; omega)
        rw [all_bad hS.pos hS.len hm he] at h
        refine h.mono ?_
        rintro en w' ⟨v, rfl, _, hb2⟩
        exact ⟨_, rfl, ⟨v, rfl⟩, hb2⟩
    · exact ⟨_, rfl, hdep 9 (by simp), Below.refl _ _⟩ |> fun h => op_move hop rfl h
    · obtain ⟨r, hr⟩ := (hdep 10 (by simp) : Ftb rb l p (Lm.skip l p - p) (e : Int) 10 _)
      exact op_extract hop hr rfl ⟨_, rfl, trivial, Below.refl _ _⟩
    · obtain ⟨r, hr⟩ := (hdep 10 (by simp) : Ftb rb l p (Lm.skip l p - p) (e : Int) 10 _)
      exact op_extract hop hr rfl ⟨_, rfl, rfl, Below.refl _ _⟩
    · obtain ⟨r, hr⟩ := (hdep 10 (by simp) : Ftb rb l p (Lm.skip l p - p) (e : Int) 10 _)
      exact op_extract hop hr rfl ⟨_, rfl, trivial, Below.refl _ _⟩
    · exact rc_assign (F := fun _ v => Ftb rb l p (Lm.skip l p - p) (e : Int) 14 v) hop rfl trivial
    · exact rc_assign (F := fun _ v => Ftb rb l p (Lm.skip l p - p) (e : Int) 15 v) hop (hdep 12 (by simp)) rfl
    · exact rc_assign (F := fun _ v => Ftb rb l p (Lm.skip l p - p) (e : Int) 16 v) hop rfl trivial
  · intro f u hF hbel
    exact fin f u (hF 15 (by decide)) hbel
/-- the place of a mark that was taken, and where the next one is looked for -/
theorem RS.set {w0 w : World} {rb : Nat} {l : List UInt8} {p pl n d : Nat} (h : RS w0 rb l w p pl n d) (q : Nat) : RS w0 rb l (w.setCell ⟨rb, 2, none⟩ (.int .i64 (q : Int))) p q n d :=
  ⟨h.tab, h.below.setCell (p := ⟨rb, 2, none⟩) h.at0 _, h.at0, heap_setCell_same w rb 2 _ _ _ h.at', h.len, h.pos⟩
theorem RS.next {w0 w : World} {rb : Nat} {l : List UInt8} {p pl n d : Nat} (h : RS w0 rb l w p pl n d) (q : Nat) (hq : q ≤ l.length) : RS w0 rb l (w.setCell ⟨rb, 1, none⟩ (.int .i64 (q : Int))) q pl n d :=
  ⟨h.tab, h.below.setCell (p := ⟨rb, 1, none⟩) h.at0 _, h.at0, heap_setCell_same w rb 1 _ _ _ h.at', h.len, hq⟩
theorem mk5_other (w : World) (b k : Nat) (hne : k ≠ b) (v0 v1 v2 v3 v4 : Value) : (((((w.setCell ⟨b, 0, none⟩ v0).setCell ⟨b, 1, none⟩ v1).setCell ⟨b, 2, none⟩ v2).setCell ⟨b, 3, none⟩ v3).setCell ⟨b, 4, none⟩ v4).heap[k]? = w.heap[k]? := by
  rw [heap_setCell_other _ ⟨b, 4, none⟩ k _ hne, heap_setCell_other _ ⟨b, 3, none⟩ k _ hne, heap_setCell_other _ ⟨b, 2, none⟩ k _ hne, heap_setCell_other _ ⟨b, 1, none⟩ k _ hne, heap_setCell_other _ ⟨b, 0, none⟩ k _ hne]
set_option maxHeartbeats 2000000 in
set_option maxRecDepth 5000 in
theorem take_any {w0 w : World} {rb : Nat} {l : List UInt8} {p pl n d : Nat} (hS : RS w0 rb l w p pl n d) {m : Lm.Mark} {e : Nat} (hm : Lm.mark l (Lm.skip l p) = (m, e)) :
    Calls Tryz.prog 51 #[.pointer (some ⟨rb, 0, none⟩)] w fun en w' => en = .returned (.tuple #[Lm.MV m, .int .i64 (e : Int)]) ∧ Kr rb w w' ∧ RS w0 rb l w' (if e = 0 then m.b else p) (if e = 0 then m.a else Lm.skip l p) n d := by
  have hsl := Lm.skip_le hS.pos
  have hsg := Lm.skip_ge l p
  have hw := Lm.mark_ways l (Lm.skip l p) hsl
  rw [hm] at hw
  obtain ⟨W1, hW1⟩ : ∃ W, W = w.alloc (.cells N5 85) := ⟨_, rfl⟩
  have b1 : Below w.heap.size w W1 := by rw [hW1]; exact (Below.refl _ _).alloc (Nat.le_refl _) _
  have N1 : NAt w.heap.size W1 := by rw [hW1]; exact heap_alloc_new w _
  have S1 := hS.grow b1
  have HS1 := Lib.hid S1
  have HB1 := Lib.hid b1
  have HN1 := Lib.hid N1
  have HM := Lib.hid hm
  have HS := Lib.hid hS
  have hN5 : N5 = #[.int .u8 0, .int .i64 0, .int .i64 0, .int .i64 0, .string ⟨#[]⟩] := rfl
  rw [hN5] at hW1
  clear b1 N1 S1 hN5 hS hm
  go_enter Tryz.func51, Tryz.ntmps51
  go_wp2_with fail
  rw [← hW1]
  clear hW1
  refine region_ta (by kernel_rfl) (by kernel_rfl) (by simp) HS1.out HM.out rfl (fun f u b f4 f5 hbs hMk hbel => ?_)
  rw [putR_lit]
  simp only [putL, show ∀ i, pta i = ([10, 11, 12, 13, 14, 15, 16, 17, 18, 9, 19, 20, 4, 5].contains i) from fun _ => rfl]
  simp
  rw [f4, f5]
  clear f4 f5
  have HN2 := Lib.hid (HN1.out.below hbel)
  have S2 := Lib.hid (HS1.out.grow hbel)
  have B2 := Lib.hid (HB1.out.trans (hbel.mono HB1.out.size))
  have hbw : w.heap.size ≤ b := Nat.le_trans HB1.out.size hbs
  have hb1 : w.heap.size < b := by have := (Array.getElem?_eq_some_iff.1 HN1.out).1; omega
  have HMk := Lib.hid hMk
  obtain ⟨eI, heI⟩ : ∃ x : Int, x = (e : Int) := ⟨_, rfl⟩
  rw [← heI]
  have HE := Lib.hid heI
  clear heI hbs hMk hbel hw
  by_cases he : eI = 0
  · subst he
    obtain rfl : e = 0 := by have := HE.out; omega
    obtain ⟨⟨q0, q1, q2, q3, q4⟩, qf⟩ := row5_cells S2.out.at'
    obtain ⟨⟨y0, y1, y2, y3, y4⟩, yf⟩ := MkAt.cells HMk.out
    have hml : Hid (m.b ≤ l.length) := by
      rcases Lm.mark_ways l (Lm.skip l p) hsl with ⟨h1, _⟩ | ⟨h1, _⟩ | ⟨_, _, _, _, _, h1⟩
      · rw [HM.out] at h1; exact absurd rfl h1
      · rw [HM.out] at h1; simp only [Prod.mk.injEq, and_true] at h1; rw [h1]; exact hsl
      · rw [HM.out] at h1; exact h1
    have hrb : rb ≠ b := by have := HS.out.lt; omega
    have hrb0 : rb ≠ w.heap.size := by have := HS.out.lt; omega
    obtain ⟨kI, hk⟩ : ∃ x : Int, x = (m.k : Int) := ⟨_, rfl⟩
    obtain ⟨aI, ha⟩ : ∃ x : Int, x = (m.a : Int) := ⟨_, rfl⟩
    obtain ⟨bI, hbI⟩ : ∃ x : Int, x = (m.b : Int) := ⟨_, rfl⟩
    rw [← hk] at y0
    rw [← ha] at y1
    rw [← hbI] at y2
    have HK := Lib.hid hk
    have HA := Lib.hid ha
    have HBI := Lib.hid hbI
    clear hk ha hbI
    go_wp2_with fail
    go_region
    have SF : Hid (RS w0 rb l ((u.setCell ⟨rb, 2, none⟩ (.int .i64 aI)).setCell ⟨rb, 1, none⟩ (.int .i64 bI)).drew m.b m.a n d) := by
      rw [HA.out, HBI.out]
      exact ((S2.out.set m.a).next m.b hml.out).grow (Below.drew (Below.refl _ _))
    obtain ⟨V, hV⟩ : ∃ V, V = ((u.setCell ⟨rb, 2, none⟩ (.int .i64 aI)).setCell ⟨rb, 1, none⟩ (.int .i64 bI)).drew := ⟨_, rfl⟩
    have hoth : ∀ k, k ≠ rb → V.heap[k]? = u.heap[k]? := fun k hk => by
      rw [hV]
      exact (heap_setCell_other _ ⟨rb, 1, none⟩ k _ hk).trans (heap_setCell_other _ ⟨rb, 2, none⟩ k _ hk)
    have NV : NAt w.heap.size V := (hoth _ (fun e => hrb0 e.symm)).trans HN2.out
    have MV' : MkAt b V (.int .u8 (m.k : Int)) (.int .i64 (m.a : Int)) (.int .i64 (m.b : Int)) (.int .i64 m.n) (.string (S m.t)) := (hoth _ (fun e => hrb e.symm)).trans HMk.out
    have KV : Hid (Kr rb w V) := by
      rw [hV]
      have h := ((Kr.of_below (rb := rb) B2.out).set 2 (.int .i64 aI)).set 1 (.int .i64 bI)
      exact ⟨h.os, h.tape, h.output, h.size, h.block⟩
    rw [← hV] at SF
    rw [← hV]
    clear hV hoth q0 q1 q2 q3 q4 qf y0 y1 y2 y3 y4 yf
    obtain ⟨⟨q0, q1, q2, q3, q4⟩, qf⟩ := NAt.cells NV
    obtain ⟨⟨y0, y1, y2, y3, y4⟩, yf⟩ := MkAt.cells MV'
    have HNV := Lib.hid NV
    clear NV MV'
    go_wp2_with fail
    refine bodyPost_ret (results_lex (fn := Tryz.f51) (t := 2) (u := 3) rfl _ _ rfl (NAt.set5 HNV.out _ _ _ _ _) rfl) rfl ?_
    have hset : ∀ k, k ≠ w.heap.size → (((((V.setCell ⟨w.heap.size, 0, none⟩ (.int .u8 (m.k : Int))).setCell ⟨w.heap.size, 1, none⟩ (.int .i64 (m.a : Int))).setCell ⟨w.heap.size, 2, none⟩ (.int .i64 (m.b : Int))).setCell ⟨w.heap.size, 3, none⟩ (.int .i64 m.n)).setCell ⟨w.heap.size, 4, none⟩ (.string (S m.t))).heap[k]? = V.heap[k]? := fun k hk => mk5_other V w.heap.size k hk _ _ _ _ _
    refine ⟨by simp [Lm.MV], ⟨KV.out.os, KV.out.tape, KV.out.output, by simpa using KV.out.size, fun k hk hn => (hset k (by omega)).trans (KV.out.block k hk hn)⟩, ?_⟩
    exact SF.out.other (hset rb hrb0) (below_set5 SF.out.below HS.out.below.size _ _ _ _ _)
  · have hb : (eI != 0) = true := bne_iff_ne.2 he
    have he0 : e ≠ 0 := by have := HE.out; omega
    have HE0 := Lib.hid he0
    clear he he0
    go_wp2_with fail
    refine region_tb (by kernel_rfl) (by kernel_rfl) (by simp) S2.out HM.out HE0.out rfl (fun f' u' f7 hbel' => ?_)
    rw [putR_lit]
    simp only [putL, show ∀ i, ptb i = ([24, 25, 26, 27, 28, 29, 30, 31, 32, 33, 23, 34, 35, 36, 6, 7, 8].contains i) from fun _ => rfl]
    simp
    rw [f7]
    clear f7
    have HN3 := Lib.hid (HN2.out.below hbel')
    have S3 := Lib.hid (S2.out.grow hbel')
    have B3 := Lib.hid (B2.out.trans (hbel'.mono B2.out.size))
    obtain ⟨⟨q0, q1, q2, q3, q4⟩, qf⟩ := row5_cells S3.out.at'
    obtain ⟨Q, hQ⟩ : ∃ Q : Nat, Lm.skip l p - p = Q := ⟨_, rfl⟩
    rw [hQ]
    have HQ := Lib.hid hQ
    have hpl : (p : Int) + (Q : Int) ≤ 65536 := by have := HS.out.len; omega
    clear hbel' hQ
    have N4 := (heap_setCell_other u' ⟨rb, 2, none⟩ w.heap.size (.int .i64 ((p : Int) + (Q : Int))) (by have := HS.out.lt; show w.heap.size ≠ rb; omega)).trans HN3.out
    obtain ⟨⟨z0, z1, z2, z3, z4⟩, zf⟩ := NAt.cells N4
    go_wp2_with fail
    have hrb0 : rb ≠ w.heap.size := by have := HS.out.lt; omega
    have hz : e ≠ 0 := HE0.out
    have hmz : m = Lm.zero := by
      rcases Lm.mark_ways l (Lm.skip l p) hsl with ⟨_, h1⟩ | ⟨h1, _⟩ | ⟨h1, _⟩
      · rw [HM.out] at h1; exact h1
      · rw [HM.out] at h1; simp only [Prod.mk.injEq] at h1; exact absurd h1.2 hz
      · rw [HM.out] at h1; exact absurd h1 hz
    have hpq : (p : Int) + (Q : Int) = ((Lm.skip l p : Nat) : Int) := by have := HQ.out; omega
    obtain ⟨V, hV⟩ : ∃ V, V = u'.setCell ⟨rb, 2, none⟩ (.int .i64 ((p : Int) + (Q : Int))) := ⟨_, rfl⟩
    have SF : RS w0 rb l V p (Lm.skip l p) n d := by rw [hV, hpq]; exact S3.out.set _
    have KV : Kr rb w V := by rw [hV]; exact (Kr.of_below (rb := rb) B3.out).set 2 _
    have NV : NAt w.heap.size V := by rw [hV]; exact N4
    rw [← hV]
    have hset : ∀ k, k ≠ w.heap.size → (((((V.setCell ⟨w.heap.size, 0, none⟩ (.int .u8 0)).setCell ⟨w.heap.size, 1, none⟩ (.int .i64 0)).setCell ⟨w.heap.size, 2, none⟩ (.int .i64 0)).setCell ⟨w.heap.size, 3, none⟩ (.int .i64 0)).setCell ⟨w.heap.size, 4, none⟩ (.string ⟨#[]⟩)).heap[k]? = V.heap[k]? := fun k hk => mk5_other V w.heap.size k hk _ _ _ _ _
    refine bodyPost_ret (results_lex (fn := Tryz.f51) (t := 2) (u := 3) rfl _ _ rfl (NAt.set5 NV _ _ _ _ _) rfl) rfl ?_
    refine ⟨by rw [hmz, mk_zero, ← HE.out]; rfl, ⟨KV.os, KV.tape, KV.output, by simpa using KV.size, fun k hk hn => (hset k (by omega)).trans (KV.block k hk hn)⟩, ?_⟩
    exact SF.other (hset rb hrb0) (below_set5 SF.below HS.out.below.size _ _ _ _ _)
end

section
open Go.RowKit

/-- what within tells -/
def WR (w0 : World) (rb : Nat) (l : List UInt8) (E : Nat × Nat) (n d : Nat) (w : World) : List Lm.Mark → Ending → World → Prop
  | [], en, w' => en = .returned (.tuple #[Lm.MV Lm.zero, .int .i64 (Rd.fe E : Int)]) ∧ Kr rb w w' ∧ ∃ p', RS w0 rb l w' p' E.1 n d
  | m :: ms, en, w' => en = .returned (.tuple #[Lm.MV m, .int .i64 0]) ∧ Kr rb w w' ∧ RS w0 rb l w' m.b m.a n d ∧ TS l m.b ms E
theorem Kr.put {rb b : Nat} {w w' : World} (h : Kr rb w w') (hb : w.heap.size ≤ b) (o : Nat) (v : Value) : Kr rb w (w'.setCell ⟨b, o, none⟩ v) :=
  ⟨h.os, h.tape, h.output, by simpa using h.size, fun k hk hn => (heap_setCell_other w' ⟨b, o, none⟩ k _ (by show k ≠ b; omega)).trans (h.block k hk hn)⟩
theorem Kr.lex {rb b : Nat} {w w' : World} (h : Kr rb w w') (hb : w.heap.size ≤ b) (v0 v1 v2 v3 v4 : Value) : Kr rb w (((((w'.setCell ⟨b, 0, none⟩ v0).setCell ⟨b, 1, none⟩ v1).setCell ⟨b, 2, none⟩ v2).setCell ⟨b, 3, none⟩ v3).setCell ⟨b, 4, none⟩ v4) :=
  ((((h.put hb 0 v0).put hb 1 v1).put hb 2 v2).put hb 3 v3).put hb 4 v4
theorem RS.lex {w0 w : World} {rb b : Nat} {l : List UInt8} {p pl n d : Nat} (h : RS w0 rb l w p pl n d) (hb : w0.heap.size ≤ b) (hne : rb ≠ b) (v0 v1 v2 v3 v4 : Value) : RS w0 rb l (((((w.setCell ⟨b, 0, none⟩ v0).setCell ⟨b, 1, none⟩ v1).setCell ⟨b, 2, none⟩ v2).setCell ⟨b, 3, none⟩ v3).setCell ⟨b, 4, none⟩ v4) p pl n d :=
  h.other (mk5_other w b rb hne _ _ _ _ _) (below_set5 h.below hb _ _ _ _ _)
set_option maxHeartbeats 2000000 in
set_option maxRecDepth 5000 in
theorem within_any {w0 w : World} {rb : Nat} {l : List UInt8} {p pl n d : Nat} (hS : RS w0 rb l w p pl n d) {ms : List Lm.Mark} {E : Nat × Nat} (hT : TS l p ms E) :
    Calls Tryz.prog 65 #[.pointer (some ⟨rb, 0, none⟩)] w fun en w' => WR w0 rb l E n d w ms en w' := by
  obtain ⟨W1, hW1⟩ : ∃ W, W = w.alloc (.cells N5 85) := ⟨_, rfl⟩
  have b1 : Below w.heap.size w W1 := by rw [hW1]; exact (Below.refl _ _).alloc (Nat.le_refl _) _
  have N1 : NAt w.heap.size W1 := by rw [hW1]; exact heap_alloc_new w _
  have HS1 := Lib.hid (hS.grow b1)
  have HB1 := Lib.hid b1
  have HN1 := Lib.hid N1
  have HS := Lib.hid hS
  have HT := Lib.hid hT
  have hrb0 : rb ≠ w.heap.size := by have := hS.lt; omega
  have hw0 : Hid (w0.heap.size ≤ w.heap.size) := hS.below.size
  have hN5 : N5 = #[.int .u8 0, .int .i64 0, .int .i64 0, .int .i64 0, .string ⟨#[]⟩] := rfl
  rw [hN5] at hW1
  -- behind take, whatever it told: the mark in a block of its own
  have KEY : Hid (∀ (m : Lm.Mark) (e : Nat) (kI aI bI nI eI : Int) (t : ByteArray), Lm.mark l (Lm.skip l p) = (m, e) → kI = (m.k : Int) → aI = (m.a : Int) → bI = (m.b : Int) → nI = m.n → eI = (e : Int) → t = S m.t → Calls Tryz.prog 51 #[.pointer (some ⟨rb, 0, none⟩)] W1 fun en w' =>
      en = .returned (.tuple #[.agg #[.int .u8 kI, .int .i64 aI, .int .i64 bI, .int .i64 nI, .string t], .int .i64 eI]) ∧ Kr rb w w' ∧ NAt w.heap.size w' ∧ RS w0 rb l w' (if e = 0 then m.b else p) (if e = 0 then m.a else Lm.skip l p) n d) := fun m e kI aI bI nI eI t hm h1 h2 h3 h4 h5 h6 => by
    subst h1 h2 h3 h4 h5 h6
    refine (take_any HS1.out hm).mono ?_
    rintro en w' ⟨rfl, k, s⟩
    exact ⟨rfl, (Kr.of_below HB1.out).trans k, (k.block _ (Array.getElem?_eq_some_iff.1 HN1.out).1 hrb0.symm).trans HN1.out, s⟩
  clear b1 N1 hN5 hS hT
  have TAIL : Hid (∀ (w2 W3 : World) (c0 c1 c2 c3 c4 : Value), NAt w.heap.size w2 → W3 = w2.alloc (.cells #[c0, c1, c2, c3, c4] 85) → NAt w.heap.size W3 ∧ MkAt w2.heap.size W3 c0 c1 c2 c3 c4 ∧ Below w2.heap.size w2 W3) := fun w2 W3 c0 c1 c2 c3 c4 h e => by
    have hb : Below w2.heap.size w2 W3 := by rw [e]; exact (Below.refl _ _).alloc (Nat.le_refl _) _
    exact ⟨h.below hb, by rw [e]; exact MkAt.new .., hb⟩
  cases HT.out with
  | stop h =>
    obtain ⟨L, hL⟩ : ∃ L : Int, L = ((l.length : Nat) : Int) := ⟨_, rfl⟩
    have cT := KEY.out _ _ 11 L L 0 0 ⟨#[]⟩ h rfl hL hL rfl rfl rfl
    rw [if_pos rfl, if_pos rfl] at cT
    clear h hL
    go_enter Tryz.func65, Tryz.ntmps65
    go_wp2_with fail
    rw [← hW1]
    clear hW1
    refine cT.mono ?_; rintro en w2 ⟨rfl, k2, n2, s2⟩
    obtain ⟨W3, hW3⟩ : ∃ W, W = w2.alloc (.cells #[.int .u8 11, .int .i64 L, .int .i64 L, .int .i64 0, .string ⟨#[]⟩] 85) := ⟨_, rfl⟩
    obtain ⟨n3, m3, b3⟩ := TAIL.out _ _ _ _ _ _ _ n2 hW3
    obtain ⟨⟨q0, q1, q2, q3, q4⟩, qf⟩ := NAt.cells n3
    obtain ⟨⟨y0, y1, y2, y3, y4⟩, yf⟩ := MkAt.cells m3
    rw [hW3] at q0 q1 q2 q3 q4 qf y0 y1 y2 y3 y4 yf
    have HK2 := Lib.hid (k2.trans (Kr.of_below b3))
    have HS2 := Lib.hid (s2.grow b3)
    have HN3 := Lib.hid n3
    clear cT k2 n2 s2 n3 m3 b3
    go_wp2_with fail
    rw [← hW3]
    clear hW3
    refine bodyPost_ret (results_lex (fn := Tryz.f65) (t := 2) (u := 3) rfl _ _ rfl (NAt.set5 HN3.out _ _ _ _ _) rfl) rfl ?_
    exact ⟨rfl, HK2.out.lex (Nat.le_refl _) _ _ _ _ _, _, HS2.out.lex hw0.out hrb0 _ _ _ _ _⟩
  | @bad _ e h he =>
    obtain ⟨eI, heI⟩ : ∃ L : Int, L = ((e : Nat) : Int) := ⟨_, rfl⟩
    have cT := KEY.out _ _ 0 0 0 0 eI ⟨#[]⟩ h rfl rfl rfl rfl heI rfl
    rw [if_neg he, if_neg he] at cT
    have HE := Lib.hid heI
    have hb : (eI == 0) = false := beq_eq_false_iff_ne.2 (by omega)
    have HF : Hid (Rd.fe (Lm.skip l p, e) = e) := if_neg he
    clear h heI he
    go_enter Tryz.func65, Tryz.ntmps65
    go_wp2_with fail
    rw [← hW1]
    clear hW1
    refine cT.mono ?_; rintro en w2 ⟨rfl, k2, n2, s2⟩
    obtain ⟨W3, hW3⟩ : ∃ W, W = w2.alloc (.cells #[.int .u8 0, .int .i64 0, .int .i64 0, .int .i64 0, .string ⟨#[]⟩] 85) := ⟨_, rfl⟩
    obtain ⟨n3, m3, b3⟩ := TAIL.out _ _ _ _ _ _ _ n2 hW3
    obtain ⟨⟨q0, q1, q2, q3, q4⟩, qf⟩ := NAt.cells n3
    obtain ⟨⟨y0, y1, y2, y3, y4⟩, yf⟩ := MkAt.cells m3
    rw [hW3] at q0 q1 q2 q3 q4 qf y0 y1 y2 y3 y4 yf
    have HK2 := Lib.hid (k2.trans (Kr.of_below b3))
    have HS2 := Lib.hid (s2.grow b3)
    have HN3 := Lib.hid n3
    clear cT k2 n2 s2 n3 m3 b3
    go_wp2_with fail
    rw [← hW3]
    clear hW3
    refine bodyPost_ret (results_lex (fn := Tryz.f65) (t := 2) (u := 3) rfl _ _ rfl (NAt.set5 HN3.out _ _ _ _ _) rfl) rfl ?_
    refine ⟨?_, HK2.out.lex (Nat.le_refl _) _ _ _ _ _, _, HS2.out.lex hw0.out hrb0 _ _ _ _ _⟩
    rw [HF.out, ← HE.out]
    rfl
  | @more _ m ms E h hk hs =>
    obtain ⟨kI, hkI⟩ : ∃ L : Int, L = ((m.k : Nat) : Int) := ⟨_, rfl⟩
    obtain ⟨aI, haI⟩ : ∃ L : Int, L = ((m.a : Nat) : Int) := ⟨_, rfl⟩
    obtain ⟨bI, hbI⟩ : ∃ L : Int, L = ((m.b : Nat) : Int) := ⟨_, rfl⟩
    have hb : (kI == 11) = false := beq_eq_false_iff_ne.2 (by omega)
    have cT := KEY.out _ _ kI aI bI _ 0 _ h hkI haI hbI rfl rfl rfl
    rw [if_pos rfl, if_pos rfl] at cT
    have HK := Lib.hid hkI
    have HA := Lib.hid haI
    have HB := Lib.hid hbI
    have HSS := Lib.hid hs
    clear h hkI haI hbI hk hs
    go_enter Tryz.func65, Tryz.ntmps65
    go_wp2_with fail
    rw [← hW1]
    clear hW1
    refine cT.mono ?_; rintro en w2 ⟨rfl, k2, n2, s2⟩
    obtain ⟨W3, hW3⟩ : ∃ W, W = w2.alloc (.cells #[.int .u8 kI, .int .i64 aI, .int .i64 bI, .int .i64 m.n, .string (S m.t)] 85) := ⟨_, rfl⟩
    obtain ⟨n3, m3, b3⟩ := TAIL.out _ _ _ _ _ _ _ n2 hW3
    obtain ⟨⟨q0, q1, q2, q3, q4⟩, qf⟩ := NAt.cells n3
    obtain ⟨⟨y0, y1, y2, y3, y4⟩, yf⟩ := MkAt.cells m3
    rw [hW3] at q0 q1 q2 q3 q4 qf y0 y1 y2 y3 y4 yf
    have HK2 := Lib.hid (k2.trans (Kr.of_below b3))
    have HS2 := Lib.hid (s2.grow b3)
    have HN3 := Lib.hid n3
    clear cT k2 n2 s2 n3 m3 b3
    go_wp2_with fail
    rw [← hW3]
    clear hW3
    refine bodyPost_ret (results_lex (fn := Tryz.f65) (t := 2) (u := 3) rfl _ _ rfl (NAt.set5 HN3.out _ _ _ _ _) rfl) rfl ?_
    refine ⟨?_, HK2.out.lex (Nat.le_refl _) _ _ _ _ _, HS2.out.lex hw0.out hrb0 _ _ _ _ _, HSS.out⟩
    rw [HK.out, HA.out, HB.out]
    rfl
end

section
open Go.RowKit

/-- what skip tells -/
def WS (w0 : World) (rb : Nat) (l : List UInt8) (E : Nat × Nat) (n d : Nat) (w : World) (kk : Nat) : List Lm.Mark → Ending → World → Prop
  | [], en, w' => en = .returned (.int .i64 (Rd.fe E : Int)) ∧ Kr rb w w' ∧ ∃ p', RS w0 rb l w' p' E.1 n d
  | m :: ms, en, w' => en = .returned (.int .i64 (if m.k = kk then 0 else 3)) ∧ Kr rb w w' ∧ RS w0 rb l w' m.b m.a n d ∧ TS l m.b ms E
theorem fe_pos (E : Nat × Nat) : Rd.fe E ≠ 0 := by
  unfold Rd.fe
  split
  · decide
  · assumption
set_option maxHeartbeats 2000000 in
set_option maxRecDepth 5000 in
theorem skip_any {w0 w : World} {rb : Nat} {l : List UInt8} {p pl n d : Nat} (hS : RS w0 rb l w p pl n d) {ms : List Lm.Mark} {E : Nat × Nat} (hT : TS l p ms E) :
    Calls Tryz.prog 121 #[.pointer (some ⟨rb, 0, none⟩), .int .u8 6] w fun en w' => WS w0 rb l E n d w 6 ms en w' := by
  have cW := within_any hS hT
  have HS := Lib.hid hS
  have HT := Lib.hid hT
  clear hS hT
  rcases ms with _ | ⟨m, ms⟩
  · obtain ⟨eI, heI⟩ : ∃ L : Int, L = (Rd.fe E : Int) := ⟨_, rfl⟩
    have hb : (eI == 0) = false := beq_eq_false_iff_ne.2 (by have := fe_pos E; omega)
    have cW : Calls Tryz.prog 65 #[.pointer (some ⟨rb, 0, none⟩)] w fun en w' => en = .returned (.tuple #[.agg #[.int .u8 0, .int .i64 0, .int .i64 0, .int .i64 0, .string ⟨#[]⟩], .int .i64 eI]) ∧ Kr rb w w' ∧ ∃ p', RS w0 rb l w' p' E.1 n d := by
      rw [heI]
      exact cW
    have HE := Lib.hid heI
    clear heI
    go_enter Tryz.func121, Tryz.ntmps121
    go_wp2_with fail
    refine cW.mono ?_; rintro en w2 ⟨rfl, k2, p', s2⟩
    have b3 : Below w2.heap.size w2 (w2.alloc (.cells #[.int .u8 0, .int .i64 0, .int .i64 0, .int .i64 0, .string ⟨#[]⟩] 85)) := (Below.refl _ _).alloc (Nat.le_refl _) _
    have HK := Lib.hid (k2.trans (Kr.of_below b3))
    have HS2 := Lib.hid (s2.grow b3)
    clear cW k2 s2 b3
    go_wp2_with fail
    go_ret
    exact ⟨by rw [HE.out]; rfl, HK.out, _, HS2.out⟩
  · obtain ⟨kI, hkI⟩ : ∃ L : Int, L = ((m.k : Nat) : Int) := ⟨_, rfl⟩
    obtain ⟨aI, haI⟩ : ∃ L : Int, L = ((m.a : Nat) : Int) := ⟨_, rfl⟩
    obtain ⟨bI, hbI⟩ : ∃ L : Int, L = ((m.b : Nat) : Int) := ⟨_, rfl⟩
    have cW : Calls Tryz.prog 65 #[.pointer (some ⟨rb, 0, none⟩)] w fun en w' => en = .returned (.tuple #[.agg #[.int .u8 kI, .int .i64 aI, .int .i64 bI, .int .i64 m.n, .string (S m.t)], .int .i64 0]) ∧ Kr rb w w' ∧ RS w0 rb l w' m.b m.a n d ∧ TS l m.b ms E := by
      rw [hkI, haI, hbI]
      exact cW
    have HK := Lib.hid hkI
    clear hkI haI hbI
    by_cases h6 : kI = 6
    · subst h6
      have hm : Hid (m.k = 6) := by have := HK.out; show m.k = 6; omega
      go_enter Tryz.func121, Tryz.ntmps121
      go_wp2_with fail
      refine cW.mono ?_; rintro en w2 ⟨rfl, k2, s2, t2⟩
      have b3 : Below w2.heap.size w2 (w2.alloc (.cells #[.int .u8 6, .int .i64 aI, .int .i64 bI, .int .i64 m.n, .string (S m.t)] 85)) := (Below.refl _ _).alloc (Nat.le_refl _) _
      have HKr := Lib.hid (k2.trans (Kr.of_below b3))
      have HS2 := Lib.hid (s2.grow b3)
      have HT2 := Lib.hid t2
      clear cW k2 s2 b3 t2
      go_wp2_with fail
      go_ret
      exact ⟨by rw [if_pos hm.out]; rfl, HKr.out, HS2.out, HT2.out⟩
    · have hb : (kI != 6) = true := bne_iff_ne.2 h6
      have hm : Hid (m.k ≠ 6) := by have := HK.out; show m.k ≠ 6; omega
      clear h6
      go_enter Tryz.func121, Tryz.ntmps121
      go_wp2_with fail
      refine cW.mono ?_; rintro en w2 ⟨rfl, k2, s2, t2⟩
      have b3 : Below w2.heap.size w2 (w2.alloc (.cells #[.int .u8 kI, .int .i64 aI, .int .i64 bI, .int .i64 m.n, .string (S m.t)] 85)) := (Below.refl _ _).alloc (Nat.le_refl _) _
      have HKr := Lib.hid (k2.trans (Kr.of_below b3))
      have HS2 := Lib.hid (s2.grow b3)
      have HT2 := Lib.hid t2
      clear cW k2 s2 b3 t2
      go_wp2_with fail
      go_ret
      exact ⟨by rw [if_neg hm.out]; rfl, HKr.out, HS2.out, HT2.out⟩
set_option maxHeartbeats 2000000 in
set_option maxRecDepth 5000 in
theorem rbegins_any (k : Nat) (kI aI bI nI : Int) (t : ByteArray) (w : World) (hk : kI = (k : Int)) {c : Bool} (hc : Rd.begins k = c) :
    Calls Tryz.prog 80 #[.agg #[.int .u8 kI, .int .i64 aI, .int .i64 bI, .int .i64 nI, .string t]] w fun en w' => en = .returned (.bool c) ∧ Below w.heap.size w w' := by
  have hb : Below w.heap.size w (w.alloc (.cells #[.int .u8 kI, .int .i64 aI, .int .i64 bI, .int .i64 nI, .string t] 85)) := (Below.refl _ _).alloc (Nat.le_refl _) _
  have HB := Lib.hid hb
  have hC : Hid (c = (decide (kI = 1) || decide (kI = 3) || (decide (7 ≤ kI) && decide (kI ≤ 10)))) := by
    unfold Hid
    rw [← hc, hk]
    unfold Rd.begins
    rw [Bool.eq_iff_iff]
    simp
    omega
  clear hk hc hb
  have done : ∀ {v : Int}, kI = v → (v = 1 ∨ v = 3 ∨ (7 ≤ v ∧ v ≤ 10)) → c = true := fun e h => by
    rw [hC.out, e]
    simp
    omega
  have DONE := Lib.hid (fun v => @done v)
  clear done
  have ways : kI = 1 ∨ kI = 3 ∨ kI = 7 ∨ kI = 8 ∨ kI = 9 ∨ kI = 10 ∨ (kI ≠ 1 ∧ kI ≠ 3 ∧ kI ≠ 7 ∧ kI ≠ 8 ∧ kI ≠ 9 ∧ kI ≠ 10) := by omega
  rcases ways with h | h | h | h | h | h | ⟨h1, h2, h3, h4, h5, h6⟩
  · have hc := DONE.out 1 h (by omega)
    subst h hc
    go_enter Tryz.func80, Tryz.ntmps80
    go_wp2_with fail
    go_ret
    exact ⟨rfl, HB.out⟩
  · have hc := DONE.out 3 h (by omega)
    subst h hc
    go_enter Tryz.func80, Tryz.ntmps80
    go_wp2_with fail
    go_ret
    exact ⟨rfl, HB.out⟩
  · have hc := DONE.out 7 h (by omega)
    subst h hc
    go_enter Tryz.func80, Tryz.ntmps80
    go_wp2_with fail
    go_ret
    exact ⟨rfl, HB.out⟩
  · have hc := DONE.out 8 h (by omega)
    subst h hc
    go_enter Tryz.func80, Tryz.ntmps80
    go_wp2_with fail
    go_ret
    exact ⟨rfl, HB.out⟩
  · have hc := DONE.out 9 h (by omega)
    subst h hc
    go_enter Tryz.func80, Tryz.ntmps80
    go_wp2_with fail
    go_ret
    exact ⟨rfl, HB.out⟩
  · have hc := DONE.out 10 h (by omega)
    subst h hc
    go_enter Tryz.func80, Tryz.ntmps80
    go_wp2_with fail
    go_ret
    exact ⟨rfl, HB.out⟩
  · have hc : c = false := by rw [hC.out]; simp; omega
    subst hc
    have e1 : (kI == 1) = false := beq_eq_false_iff_ne.2 h1
    have e2 : (kI == 3) = false := beq_eq_false_iff_ne.2 h2
    have e3 : (kI == 7) = false := beq_eq_false_iff_ne.2 h3
    have e4 : (kI == 8) = false := beq_eq_false_iff_ne.2 h4
    have e5 : (kI == 9) = false := beq_eq_false_iff_ne.2 h5
    have e6 : (kI == 10) = false := beq_eq_false_iff_ne.2 h6
    clear h1 h2 h3 h4 h5 h6
    go_enter Tryz.func80, Tryz.ntmps80
    go_wp2_with fail
    go_ret
    exact ⟨rfl, HB.out⟩
/-- a value without rows, wherever it is -/
theorem HCp.bare (P : Nat → Prop) (w : World) (k : Nat) (n : Int) (t : List UInt8) (h1 : k < 256) (h2 : -9223372036854775808 ≤ n ∧ n ≤ 9223372036854775807) (h3 : t.length ≤ maxLen) :
    HCp P w [.int .u8 (k : Int), .int .i64 n, .string (S t), .slice none 0 0, .slice none 0 0] (.mk k n t [] []) := by
  unfold HCp
  exact ⟨none, none, 0, 0, rfl, ⟨h1, h2, h3, Nat.zero_le _, Nat.zero_le _, fun x h => by simp at h⟩, .inl rfl, .inl rfl⟩
/-- u is a value of its own, from block B on -/
def HF (B : Nat) (w : World) (u : Value) (x : JV) : Prop := ∃ cs, u = .agg (cs : List Value).toArray ∧ HCp (fun b => B ≤ b) w cs x
set_option maxHeartbeats 2000000 in
set_option maxRecDepth 5000 in
theorem alone_any (m : Lm.Mark) (kI aI bI : Int) (w : World) (hk : kI = (m.k : Int)) (h7 : 7 ≤ m.k) (h10 : m.k ≤ 10) (hn : -9223372036854775808 ≤ m.n ∧ m.n ≤ 9223372036854775807) (ht : m.t.length ≤ maxLen) :
    Calls Tryz.prog 84 #[.agg #[.int .u8 kI, .int .i64 aI, .int .i64 bI, .int .i64 m.n, .string (S m.t)]] w fun en w' => (∃ u, en = .returned u ∧ ∀ B W, HF B W u (Rd.atom m)) ∧ Below w.heap.size w w' := by
  have hb1 : Below w.heap.size w (w.alloc (.cells #[.int .u8 kI, .int .i64 aI, .int .i64 bI, .int .i64 m.n, .string (S m.t)] 85)) := (Below.refl _ _).alloc (Nat.le_refl _) _
  have HB := Lib.hid hb1
  have HN := Lib.hid hn
  have HT := Lib.hid ht
  have hsz : Hid ((w.alloc (.cells #[.int .u8 kI, .int .i64 aI, .int .i64 bI, .int .i64 m.n, .string (S m.t)] 85)).heap.size = w.heap.size + 1) := by simp [Hid]
  have hat : Hid (∀ (c0 c1 c2 c3 c4 : Value), ((w.alloc (.cells #[.int .u8 kI, .int .i64 aI, .int .i64 bI, .int .i64 m.n, .string (S m.t)] 85)).alloc (.cells #[c0, c1, c2, c3, c4] 26)).heap[w.heap.size + 1]? = some (.cells #[c0, c1, c2, c3, c4] 26 (0, 0)) ∧ Below w.heap.size w ((w.alloc (.cells #[.int .u8 kI, .int .i64 aI, .int .i64 bI, .int .i64 m.n, .string (S m.t)] 85)).alloc (.cells #[c0, c1, c2, c3, c4] 26))) := fun c0 c1 c2 c3 c4 =>
    ⟨by rw [← hsz.out]; exact heap_alloc_new _ _, hb1.alloc (by rw [hsz.out]; omega) _⟩
  have HM : Hid (m.k = 7 ∨ m.k = 8 ∨ m.k = 9 ∨ m.k = 10) := by show _ ∨ _; omega
  clear hb1 hn ht h7 h10
  rcases HM.out with h | h | h | h
  · have HA : Hid (Rd.atom m = .mk 1 1 [] [] []) := if_pos h
    obtain rfl : kI = 7 := by omega
    clear hk h HM
    go_enter Tryz.func84, Tryz.ntmps84
    go_wp2_with fail
    refine bodyPost_ret (results_one (fn := Tryz.f84) (t := 2) rfl _ _ rfl (hat.out _ _ _ _ _).1 rfl) rfl ?_
    rw [HA.out]
    exact ⟨⟨_, rfl, fun B W => ⟨_, rfl, HCp.bare _ _ 1 1 [] (by omega) (by omega) (Nat.zero_le _)⟩⟩, (hat.out _ _ _ _ _).2⟩
  · have HA : Hid (Rd.atom m = .mk 1 0 [] [] []) := (if_neg (by omega)).trans (if_pos h)
    obtain rfl : kI = 8 := by omega
    clear hk h HM
    go_enter Tryz.func84, Tryz.ntmps84
    go_wp2_with fail
    refine bodyPost_ret (results_one (fn := Tryz.f84) (t := 2) rfl _ _ rfl (hat.out _ _ _ _ _).1 rfl) rfl ?_
    rw [HA.out]
    exact ⟨⟨_, rfl, fun B W => ⟨_, rfl, HCp.bare _ _ 1 0 [] (by omega) (by omega) (Nat.zero_le _)⟩⟩, (hat.out _ _ _ _ _).2⟩
  · have HA : Hid (Rd.atom m = .mk 2 m.n [] [] []) := (if_neg (by omega)).trans ((if_neg (by omega)).trans (if_pos h))
    obtain rfl : kI = 9 := by omega
    clear hk h HM
    go_enter Tryz.func84, Tryz.ntmps84
    go_wp2_with fail
    refine bodyPost_ret (results_one (fn := Tryz.f84) (t := 2) rfl _ _ rfl (hat.out _ _ _ _ _).1 rfl) rfl ?_
    rw [HA.out]
    exact ⟨⟨_, rfl, fun B W => ⟨_, rfl, HCp.bare _ _ 2 m.n [] (by omega) HN.out (Nat.zero_le _)⟩⟩, (hat.out _ _ _ _ _).2⟩
  · have HA : Hid (Rd.atom m = .mk 3 0 m.t [] []) := (if_neg (by omega)).trans ((if_neg (by omega)).trans (if_neg (by omega)))
    obtain rfl : kI = 10 := by omega
    clear hk h HM
    go_enter Tryz.func84, Tryz.ntmps84
    go_wp2_with fail
    refine bodyPost_ret (results_one (fn := Tryz.f84) (t := 2) rfl _ _ rfl (hat.out _ _ _ _ _).1 rfl) rfl ?_
    rw [HA.out]
    exact ⟨⟨_, rfl, fun B W => ⟨_, rfl, HCp.bare _ _ 3 0 m.t (by omega) (by omega) HT.out⟩⟩, (hat.out _ _ _ _ _).2⟩
end

section
open Go.RowKit

theorem row_five (w : World) (g o : Nat) (cur : Array Value) (hg : w.heap[g]? = some (.cells cur 26 (0, 0))) (hl : o + 5 ≤ cur.size) (d0 d1 d2 d3 d4 : Value) (hone : ∀ u ∈ [d0, d1, d2, d3, d4], u.oneCell' = true) :
    (Instr.storeAt 26 (.pointer (some ⟨g, o, none⟩)) (.agg #[d0, d1, d2, d3, d4])).run Tryz.prog w = .ok () (w.setRow g (cur.toList.take o ++ [d0, d1, d2, d3, d4] ++ cur.toList.drop (o + 5)).toArray) := by
  have h := run_storeCells_at (P := Tryz.prog) g o 26 [d0, d1, d2, d3, d4] 0 cur w hg (by simpa using hl) hone
  simp only [Nat.add_zero, List.length_cons, List.length_nil, Nat.zero_add, Nat.reduceAdd] at h
  obtain ⟨i0, hi0, hz0, hz1, hz2⟩ := info_parts info_val
  simp [Instr.storeAt, Instr.sureAddr, storeVar, sizeOf, typeInfo, hi0, hz1, Value.cells, h]
/-- the last place of a row takes a value -/
theorem own_last {w : World} {B g n cap : Nat} {xs : List Value} (h : w.ownsRow B 26 5 (.slice (some ⟨g, 0, none⟩) (n + 1) cap) (n + 1) (xs ++ V5.toList)) (d0 d1 d2 d3 d4 : Value) (hone : ∀ u ∈ [d0, d1, d2, d3, d4], u.oneCell' = true) :
    ∃ w', (Instr.storeAt 26 (.pointer (some ⟨g, n * 5, none⟩)) (.agg #[d0, d1, d2, d3, d4])).run Tryz.prog w = .ok () w' ∧ w'.ownsRow B 26 5 (.slice (some ⟨g, 0, none⟩) (n + 1) cap) (n + 1) (xs ++ [d0, d1, d2, d3, d4]) ∧ w'.os = w.os ∧ w'.tape = w.tape ∧ w'.output = w.output ∧ w'.heap.size = w.heap.size ∧ ∀ k, k ≠ g → w'.heap[k]? = w.heap[k]? := by
  obtain ⟨hlen, hv⟩ := h
  rcases hv with ⟨h, _⟩ | ⟨g', cap', cur, h, h1, h2, h3, h4, h5, h6⟩
  · cases h
  simp only [Value.slice.injEq, Option.some.injEq, Addr.mk.injEq, and_true, true_and] at h
  obtain ⟨rfl, rfl⟩ := h
  have hxl : xs.length = n * 5 := by
    have h7 : (xs ++ V5.toList).length = (n + 1) * 5 := hlen
    rw [List.length_append, show V5.toList.length = 5 from rfl] at h7
    omega
  have hroom : n * 5 + 5 ≤ cur.size := by rw [h5]; omega
  refine ⟨_, row_five w g (n * 5) cur h2 hroom d0 d1 d2 d3 d4 hone, ⟨by rw [List.length_append, hxl]; simp; omega, .inr ⟨g, cap, _, rfl, h1, setRow_heap w g _ _ _ _ h2, h3, h4, ?_, ?_⟩⟩, rfl, rfl, rfl, by simp, fun k hk => setRow_other w g k _ hk⟩
  · simp only [List.size_toArray, List.length_append, List.length_take, List.length_drop, List.length_cons, List.length_nil, Array.length_toList]
    rw [← h5]
    omega
  · have ht : cur.toList.take (n * 5) = xs := by
      have := congrArg (List.take (n * 5)) h6
      rw [List.take_take, Nat.min_eq_left (by omega), List.take_append_of_le_length (by omega), List.take_of_length_le (l := xs) (by omega)] at this
      exact this
    show (cur.toList.take (n * 5) ++ [d0, d1, d2, d3, d4] ++ cur.toList.drop (n * 5 + 5)).take ((n + 1) * 5) = xs ++ [d0, d1, d2, d3, d4]
    rw [ht, List.take_append_of_le_length (by rw [List.length_append, hxl]; simp; omega), List.take_of_length_le (by rw [List.length_append, hxl]; simp; omega)]
def Tl1 : List (Option Tmp × Op × List Nat) :=
  [(some 13, .fieldAddr 26 (.tmp 2) 4, []), (some 14, .load 24 (.tmp 13), [0]), (some 15, .load 26 (.tmp 5), []),
   (some 16, .call { callee := .builtin .len, args := #[.tmp 14], argTypes := #[24] }, [1]),
   (some 17, .buildSlice 24 1 #[(0, .const (.agg #[.int .u8 0, .int .i64 0, .string ⟨#[]⟩, .slice none 0 0, .slice none 0 0]))], []),
   (some 18, .call { callee := .builtin .append, args := #[.tmp 14, .tmp 17], argTypes := #[24, 24] }, [1, 4, 0, 1, 2, 3, 4]),
   (some 19, .indexAddr 24 (.tmp 18) (.tmp 16), [5, 3, 0, 1, 2, 3, 4, 5]),
   (none, .store 26 (.tmp 19) (.tmp 15), [6, 2, 5, 0, 1, 2, 3, 4, 5]),
   (some 20, .fieldAddr 26 (.tmp 2) 4, [0, 1, 2, 3, 4, 5]),
   (none, .store 24 (.tmp 20) (.tmp 18), [8, 5, 5, 0, 1, 2, 3, 4, 5])]
def Dl1 (k : Nat) : Nat := [13, 14, 15, 16, 17, 18, 19, 0, 20].getD k 0
def pl1 (i : Nat) : Bool := [13, 14, 15, 16, 17, 18, 19, 20].contains i
def Fl1 (ob n W : Nat) (v x v' : Value) : Nat → Value → Prop
  | 0, u | 8, u => u = .pointer (some ⟨ob, 4, none⟩)
  | 1, u => u = v
  | 2, u => u = x
  | 3, u => u = .int .i64 (n : Int)
  | 4, u => u = .slice (some ⟨W, 0, none⟩) 1 1
  | 5, u => u = v'
  | 6, u => ∃ g cap, v' = .slice (some ⟨g, 0, none⟩) (n + 1) cap ∧ u = .pointer (some ⟨g, n * 5, none⟩)
  | _, _ => True
/-- behind the append: whether the value has been stored, whether the slice has -/
structure Sl1 (B ob n : Nat) (w1 : World) (a0 a1 a2 a3 v v' : Value) (xs ds : List Value) (f7 f9 : Bool) (u : World) : Prop where
  o : VAt ob u a0 a1 a2 a3 (if f9 = true then v' else v)
  own : u.ownsRow B 26 5 v' (n + 1) (xs ++ if f7 = true then ds else V5.toList)
  kb : Kb ob v.ownBlock w1 u
  new : v'.ownBlock = v.ownBlock ∨ ∃ k, v'.ownBlock = some k ∧ w1.heap.size ≤ k
theorem len_slice {v : Value} {n : Nat} {w : World} {B : Nat} {xs : List Value} (h : w.ownsRow B 26 5 v n xs) : ∃ p k, v = .slice p n k := by
  rcases h.2 with ⟨rfl, rfl⟩ | ⟨g, cap, _, rfl, _⟩
  · exact ⟨_, _, rfl⟩
  · exact ⟨_, _, rfl⟩
theorem op_len {o : Oper} {a : Act} {w : World} {K : Act → World → Prop} {Q : Exit → Act → World → Prop} {x : Operand} {p : Option Addr} {n c : Nat} (ho : o.op = .call { callee := .builtin .len, args := #[x], argTypes := #[24] }) (hx : a.eval x = .slice p n c) (h : K (a.put o.dst (.int .i64 (n : Int))) w) : o.wp Tryz.prog a w K Q := by
  have hu := Tryz.underlying24
  refine wp_val ?_ h
  unfold execOp
  simp [ho, resolve, invoke, builtin, hx, Builtin.len_, run_underlying hu, goInt]
theorem own_form2' {w : World} {B n : Nat} {v : Value} {xs : List Value} (h : w.ownsRow B 26 5 v (n + 1) xs) : ∃ g cap, v = .slice (some ⟨g, 0, none⟩) (n + 1) cap ∧ B ≤ g := by
  rcases h.2 with ⟨_, h0⟩ | ⟨g, cap, cur, hv, hb, _⟩
  · omega
  · exact ⟨g, cap, hv, hb⟩
theorem fill_zero : Instr.fill (fun i => some (i * 5, 5)) ((Array.range (1 * 5)).map ((Value.agg V5).cells[· % (Value.agg V5).cells.size]!)) [(0, .agg #[.int .u8 0, .int .i64 0, .string ⟨#[]⟩, .slice none 0 0, .slice none 0 0])] = some V5 := by kernel_rfl
theorem api_box {w : World} {b : Nat} {c0 c1 c2 c3 c4 : Value} (h : VAt b w c0 c1 c2 c3 c4) : (Instr.loadAt 26 (.pointer (some ⟨b, 0, none⟩))).run Tryz.prog w = .ok (.agg #[c0, c1, c2, c3, c4]) w := ld_val w fun j z hj => by
  obtain ⟨⟨p0, p1, p2, p3, p4⟩, _⟩ := h.cells
  rw [Nat.zero_add]
  rcases j with _ | _ | _ | _ | _ | j
  all_goals simp only [List.getElem?_cons_zero, List.getElem?_cons_succ, List.getElem?_nil, Option.some.injEq, reduceCtorEq] at hj
  all_goals subst hj
  all_goals assumption
set_option maxHeartbeats 2000000 in
set_option maxRecDepth 100000 in
theorem region_l1 {ops : Array Oper} {Q : Exit → Act → World → Prop} {A : Act} {id : Nat} {w1 : World}
    (hkey : ops.toList.map keyOf = Tl1.map fun x => (x.1, x.2.1, true, x.2.2)) (hlow : (List.range ops.size).all (fun i => match ops[i]? with | some o => o.after.all (fun e => !Region.binds .any e || decide (e.on < i)) | none => true) = true)
    (hsz : 20 < A.tmps.size) {B ob xb : Nat} {a0 a1 a2 a3 v c0 c1 c2 c3 c4 : Value} {n : Nat} {xs : List Value} (e2 : A.eval (.tmp 2) = .pointer (some ⟨ob, 0, none⟩)) (e5 : A.eval (.tmp 5) = .pointer (some ⟨xb, 0, none⟩))
    (hO : VAt ob w1 a0 a1 a2 a3 v) (hX : VAt xb w1 c0 c1 c2 c3 c4) (hone : ∀ u ∈ [c0, c1, c2, c3, c4], u.oneCell' = true)
    (hown : w1.ownsRow B 26 5 v n xs) (hB : B ≤ w1.heap.size) (hob : ob < B) (hn : n + 1 ≤ 90000)
    (fin : ∀ (f : Nat → Value) v' w', VAt ob w' a0 a1 a2 a3 v' → w'.ownsRow B 26 5 v' (n + 1) (xs ++ [c0, c1, c2, c3, c4]) → Kb ob v.ownBlock w1 w' → (v'.ownBlock = v.ownBlock ∨ ∃ k, v'.ownBlock = some k ∧ w1.heap.size ≤ k) → Q .normal (putR A pl1 f) w') :
    (Code.region id ops true).wp Tryz.prog Q A w1 := by
  obtain ⟨i0, hi0, hz0, hz1, hz2⟩ := info_parts info_val
  have b1 := below_drew w1
  obtain ⟨W2, hW2⟩ : ∃ W, W = w1.drew.alloc (.cells V5 26) := ⟨_, rfl⟩
  have b2 : Below w1.heap.size w1 W2 := by rw [hW2]; exact b1.alloc (Nat.le_refl _) _
  have hlt : ob < w1.heap.size := (Array.getElem?_eq_some_iff.1 hO).1
  have sz2 : W2.heap.size = w1.heap.size + 1 := by rw [hW2]; simp
  have own2 : W2.ownsRow B 26 5 v n xs := by rw [hW2]; exact (World.ownsRow.drew hown).alloc _
  have BE : ∀ w, w = w1.drew ∨ w = W2 → Below w1.heap.size w1 w := fun w h => by
    rcases h with rfl | rfl
    · exact b1
    · exact b2
  have hrow : ∀ k, v.ownBlock = some k → B ≤ k ∧ k < w1.heap.size := fun k e => hown.lt k e
  have happ : ∀ ty : TypeId, ∃ v' w', (Builtin.append_ #[24, 24] ty #[v, .slice (some ⟨w1.heap.size, 0, none⟩) 1 1]).run Tryz.prog W2 = .ok v' w' ∧ Sl1 B ob n w1 a0 a1 a2 a3 v v' xs [c0, c1, c2, c3, c4] false false w' := fun ty => by
    obtain ⟨v', w', hr, g1, g2, _, g4⟩ := run_append_own_at (P := Tryz.prog) W2 B 24 ty 26 i0 (.agg V5) 5 80 Tryz.underlying24 hi0 hz0 hz1 hz2 rfl (by decide) v n xs own2 ⟨w1.heap.size, 0, none⟩ 1 1 V5.toList rfl (by
      rw [hW2]
      exact World.news_of_block (cs := V5) (t := 26) (fr := (0, 0)) (heap_alloc_new w1.drew _)) (by decide) (by unfold maxLen; omega) (by omega) (by omega)
    refine ⟨v', w', hr, ⟨(g2.block ob (by omega) (fun e => by have := (hrow ob e.symm).1; omega)).trans (hO.below b2), g1, ?_, ?_⟩⟩
    · exact ⟨g2.os.trans b2.os, g2.tape.trans b2.tape, g2.output.trans b2.output, Nat.le_trans b2.size g2.size, fun k hk _ hg => (g2.block k (by omega) hg).trans (b2.block k hk)⟩
    · rcases g4 with e | e
      · exact .inl e
      · exact .inr ⟨_, e, by omega⟩
  obtain ⟨vp, kp, hvs⟩ := len_slice hown
  have hnot : ∀ {listed : Array Bool} {k : Nat}, listed.getD k true = false → listed.getD k false = true → False := fun h1 h2 => by rw [one_unlisted h1] at h2; cases h2
  refine wp_region_tab (by kernel_rfl) Tl1 hkey hlow pl1 (fun listed f u => listed.size = 10 ∧ (listed.getD 5 false = true → ∀ k, k < 5 → listed.getD k false = true) ∧ (∀ k, listed.getD k false = true → k = 6 ∨ k = 7 ∨ k = 9 → listed.getD 5 false = true) ∧ ∃ v', (∀ k, listed.getD k false = true → k ≠ 7 → k ≠ 9 → Fl1 ob n w1.heap.size v (.agg #[c0, c1, c2, c3, c4]) v' k (f (Dl1 k))) ∧
    (listed.getD 4 false = false → u = w1.drew) ∧ (listed.getD 4 false = true → listed.getD 5 false = false → u = W2) ∧ (listed.getD 5 false = true → Sl1 B ob n w1 a0 a1 a2 a3 v v' xs [c0, c1, c2, c3, c4] (listed.getD 7 false) (listed.getD 9 false) u)) ?_ ?_ ?_
  · have hno : ∀ k, (Array.replicate Tl1.length false).getD k false = true → False := fun k h => by
      simp [Array.getElem?_replicate] at h
      split at h <;> simp at h
    exact ⟨rfl, fun h => (hno _ h).elim, fun k h => (hno _ h).elim, .int .i64 0, fun k h => (hno k h).elim, fun _ => rfl, fun h => (hno _ h).elim, fun h => (hno _ h).elim⟩
  · intro listed f u i x ⟨hs, h5, h6, v', hF, hu1, hu2, hu3⟩ hx hun hdep o hd hop
    have hun' := one_unlisted hun
    have hin (k : Nat) (hk : k < 9) (h7 : k ≠ 7) : (putR A pl1 f).eval (.tmp (Dl1 k)) = f (Dl1 k) := by
      refine putR_in A pl1 f (Dl1 k) ?_ ?_
      · rcases k with _ | _ | _ | _ | _ | _ | _ | _ | _ | k
        all_goals first | rfl | omega
      · rcases k with _ | _ | _ | _ | _ | _ | _ | _ | _ | k
        all_goals first | (show (_ : Nat) < _; simp only [Dl1]; simp; omega) | omega
    have hout (j : Nat) (hj : pl1 j = false) : (putR A pl1 f).eval (.tmp j) = A.eval (.tmp j) := putR_out _ _ _ j hj
    have EV (k : Nat) (hk : k < 9) (h7 : k ≠ 7) (hl : listed.getD k false = true) : Fl1 ob n w1.heap.size v (.agg #[c0, c1, c2, c3, c4]) v' k ((putR A pl1 f).eval (.tmp (Dl1 k))) := by
      rw [hin k hk h7]
      exact hF k hl h7 (by omega)
    have AB (k : Nat) (hk : k < 5) (hu : listed.getD k false = false) : u = w1.drew ∨ u = W2 := by
      have h5' : listed.getD 5 false = false := by
        cases e : listed.getD 5 false with
        | false => rfl
        | true => have := h5 e k hk; rw [hu] at this; cases this
      cases e : listed.getD 4 false with
      | false => exact .inl (hu1 e)
      | true => exact .inr (hu2 e h5')
    -- an operation that leaves a value and the world as it was
    have step0 (k : Nat) (hk : k = i) (hk9 : k < 9) (h7 : k ≠ 7) (h4 : k ≠ 4) (h5k : k ≠ 5) (h6k : k = 6 → listed.getD 5 false = true) (uu : Value) (hFu : Fl1 ob n w1.heap.size v (.agg #[c0, c1, c2, c3, c4]) v' k uu) (hdk : o.dst = some (Dl1 k)) :
        ∃ f', (putR A pl1 f).put o.dst uu = putR A pl1 f' ∧ (listed.setIfInBounds i true).size = 10 ∧ ((listed.setIfInBounds i true).getD 5 false = true → ∀ k, k < 5 → (listed.setIfInBounds i true).getD k false = true) ∧ (∀ k, (listed.setIfInBounds i true).getD k false = true → k = 6 ∨ k = 7 ∨ k = 9 → (listed.setIfInBounds i true).getD 5 false = true) ∧ ∃ v', (∀ k, (listed.setIfInBounds i true).getD k false = true → k ≠ 7 → k ≠ 9 → Fl1 ob n w1.heap.size v (.agg #[c0, c1, c2, c3, c4]) v' k (f' (Dl1 k))) ∧
          ((listed.setIfInBounds i true).getD 4 false = false → u = w1.drew) ∧ ((listed.setIfInBounds i true).getD 4 false = true → (listed.setIfInBounds i true).getD 5 false = false → u = W2) ∧ ((listed.setIfInBounds i true).getD 5 false = true → Sl1 B ob n w1 a0 a1 a2 a3 v v' xs [c0, c1, c2, c3, c4] ((listed.setIfInBounds i true).getD 7 false) ((listed.setIfInBounds i true).getD 9 false) u) := by
      subst hk
      have g4 := getD_set_other (l := listed) (i := k) (k := 4) (fun e => h4 e.symm)
      have g5 := getD_set_other (l := listed) (i := k) (k := 5) (fun e => h5k e.symm)
      have g7 := getD_set_other (l := listed) (i := k) (k := 7) (fun e => h7 e.symm)
      have g9 := getD_set_other (l := listed) (i := k) (k := 9) (by omega)
      refine ⟨fun j => if j = Dl1 k then uu else f j, ?_, by simpa using hs, fun h j hj => ?_, fun j hj hj2 => ?_, v', fun j hj h1 h2 => ?_, ?_, ?_, ?_⟩
      · rw [hdk]
        refine putR_put _ _ _ _ _ ?_
        rcases k with _ | _ | _ | _ | _ | _ | _ | _ | _ | k
        all_goals first | rfl | omega
      · rw [g5] at h
        by_cases e : j = k
        · subst e; exact getD_set_self (by omega)
        · rw [getD_set_other e]; exact h5 h j hj
      · rw [g5]
        by_cases e : j = k
        · subst e
          rcases hj2 with e | e | e
          · exact h6k e
          · exact absurd e h7
          · omega
        · rw [getD_set_other e] at hj; exact h6 j hj hj2
      · by_cases e : j = k
        · subst e; simp only [if_true]; exact hFu
        · rw [getD_set_other e] at hj
          have hj10 : j < 10 := by rw [← hs]; exact lt_of_listed hj
          have hne : Dl1 j ≠ Dl1 k := by
            have key : ∀ a, a < 10 → ∀ b, b < 10 → (a ≠ 7 ∧ a ≠ 9 ∧ b ≠ 7 ∧ b ≠ 9) → Dl1 a = Dl1 b → a = b := by decide
            exact fun h => e (key j hj10 k (by omega) ⟨h1, h2, h7, by omega⟩ h)
          simp only [hne, if_false]
          exact hF j hj h1 h2
      · rw [g4]; exact hu1
      · rw [g4, g5]; exact hu2
      · rw [g5, g7, g9]; exact hu3
    rcases i with _ | _ | _ | _ | _ | _ | _ | _ | _ | _ | i
    all_goals simp only [Tl1, List.getElem?_cons_zero, List.getElem?_cons_succ, List.getElem?_nil, Option.some.injEq, reduceCtorEq] at hx
    all_goals subst hx
    · exact op_field hop ((hout 2 rfl).trans e2) (fld4 ob u) (step0 0 rfl (by decide) (by decide) (by decide) (by decide) (fun e => by cases e) _ rfl hd)
    · exact op_load hop (EV 0 (by decide) (by decide) (hdep 0 (by simp))) (ld_one agg_items u ((hO.below (BE u (AB 1 (by decide) hun'))).cells.1.2.2.2.2)) (step0 1 rfl (by decide) (by decide) (by decide) (by decide) (fun e => by cases e) _ rfl hd)
    · exact op_load hop ((hout 5 rfl).trans e5) (api_box (hX.below (BE u (AB 2 (by decide) hun')))) (step0 2 rfl (by decide) (by decide) (by decide) (by decide) (fun e => by cases e) _ rfl hd)
    · exact op_len hop ((EV 1 (by decide) (by decide) (hdep 1 (by simp))).trans hvs) (step0 3 rfl (by decide) (by decide) (by decide) (by decide) (fun e => by cases e) _ rfl hd)
    · -- the new element's block
      have h50 : listed.getD 5 false = false := by
        cases e : listed.getD 5 false with
        | false => rfl
        | true => have := h5 e 4 (by decide); rw [hun'] at this; cases this
      obtain rfl := hu1 hun'
      refine wp_buildSlice 24 26 1 _ hop V5 i0 (.agg V5) Tryz.underlying24 hi0 hz0 (by rw [hz1]; decide) (by rw [hz1]; decide) (by
        rw [hz1, show (#[((0 : Nat), Operand.const (Value.agg #[.int .u8 0, .int .i64 0, .string ⟨#[]⟩, .slice none 0 0, .slice none 0 0]))].map fun x : Nat × Operand => (x.1, (putR A pl1 f).eval x.2)).toList = [(0, Value.agg #[.int .u8 0, .int .i64 0, .string ⟨#[]⟩, .slice none 0 0, .slice none 0 0])] by simp [Act.eval]]
        exact fill_zero) ?_
      rw [← hW2]
      refine ⟨fun j => if j = 17 then .slice (some ⟨w1.heap.size, 0, none⟩) 1 1 else f j, by rw [hd]; exact putR_put _ _ _ 17 _ rfl, by simpa using hs, fun h => ?_, fun j hj hj2 => ?_, v', fun j hj h1 h2 => ?_, fun h => ?_, fun _ _ => rfl, fun h => ?_⟩
      · rw [getD_set_other (by decide), h50] at h; cases h
      · rw [getD_set_other (by omega)] at hj
        have := h6 j hj hj2
        rw [h50] at this; cases this
      · by_cases e : j = 4
        · subst e; exact rfl
        · rw [getD_set_other e] at hj
          have hj10 : j < 10 := by rw [← hs]; exact lt_of_listed hj
          have hne : Dl1 j ≠ 17 := by
            have key : ∀ a, a < 10 → (a ≠ 4 ∧ a ≠ 7 ∧ a ≠ 9) → Dl1 a ≠ 17 := by decide
            exact key j hj10 ⟨e, h1, h2⟩
          simp only [hne, if_false]
          exact hF j hj h1 h2
      · rw [getD_set_self (by omega)] at h; cases h
      · rw [getD_set_other (by decide), h50] at h; cases h
    · -- the append
      have h4 := hdep 4 (by simp)
      obtain rfl := hu2 h4 hun'
      obtain ⟨v2, w', hr, hS⟩ := happ o.type
      have e1 : (putR A pl1 f).eval (.tmp 14) = v := EV 1 (by decide) (by decide) (hdep 1 (by simp))
      have e4 : (putR A pl1 f).eval (.tmp 17) = .slice (some ⟨w1.heap.size, 0, none⟩) 1 1 := EV 4 (by decide) (by decide) h4
      have hno : ∀ k, k = 6 ∨ k = 7 ∨ k = 9 → listed.getD k false = false := fun k hk => by
        cases e : listed.getD k false with
        | false => rfl
        | true => have := h6 k e hk; rw [hun'] at this; cases this
      refine wp_val (v := v2) (w' := w') ?_ ⟨fun j => if j = 18 then v2 else f j, by rw [hd]; exact putR_put _ _ _ 18 _ rfl, by simpa using hs, fun _ j hj => ?_, fun j hj hj2 => getD_set_self (by omega), v2, fun j hj h1 h2 => ?_, fun h => ?_, fun _ h => ?_, fun _ => ?_⟩
      · unfold execOp
        simp only [hop, resolve, invoke, builtin, Sem.run_bind, Sem.run_pure, Result.andThen_ok, List.map_toArray, List.map_cons, List.map_nil, e1, e4, hr]
      · rw [getD_set_other (by omega)]
        have := hdep j (by simp; omega)
        exact this
      · by_cases e : j = 5
        · subst e; exact rfl
        · rw [getD_set_other e] at hj
          have hj10 : j < 10 := by rw [← hs]; exact lt_of_listed hj
          have hne : Dl1 j ≠ 18 := by
            have key : ∀ a, a < 10 → (a ≠ 5 ∧ a ≠ 7 ∧ a ≠ 9) → Dl1 a ≠ 18 := by decide
            exact key j hj10 ⟨e, h1, h2⟩
          simp only [hne, if_false]
          have h6' : j ≠ 6 := fun e => by have := hno j (.inl e); rw [this] at hj; cases hj
          have := hF j hj h1 h2
          rcases j with _ | _ | _ | _ | _ | _ | _ | _ | _ | j
          all_goals first | exact this | exact absurd rfl e | exact absurd rfl h6' | exact absurd rfl h1
      · rw [getD_set_other (by decide), h4] at h; cases h
      · rw [getD_set_self (by omega)] at h; cases h
      · rw [getD_set_other (by decide), getD_set_other (by decide), hno 7 (by simp), hno 9 (by simp)]
        exact hS
    · -- the last element's place
      have h5' := hdep 5 (by simp)
      obtain ⟨g, cap, hv', _⟩ := own_form2' (hu3 h5').own
      have e5' : (putR A pl1 f).eval (.tmp 18) = v' := EV 5 (by decide) (by decide) h5'
      have e3' : (putR A pl1 f).eval (.tmp 16) = .int .i64 (n : Int) := EV 3 (by decide) (by decide) (hdep 3 (by simp))
      refine wp_val (v := .pointer (some ⟨g, n * 5, none⟩)) (w' := u) ?_ (step0 6 rfl (by decide) (by decide) (by decide) (by decide) (fun _ => h5') _ ⟨g, cap, hv', rfl⟩ hd)
      have hix := ix_items g 0 (n + 1) cap n u (Nat.lt_succ_self n)
      rw [Nat.zero_add] at hix
      simp [execOp, hop, e5', e3', hv', hix]
    · -- the value
      have h5' := hdep 5 (by simp)
      have hS := hu3 h5'
      have hun7 : listed.getD 7 false = false := hun'
      rw [hun7] at hS
      obtain ⟨g, cap, hv', ep⟩ := EV 6 (by decide) (by decide) (hdep 6 (by simp))
      have ex : (putR A pl1 f).eval (.tmp 15) = .agg #[c0, c1, c2, c3, c4] := EV 2 (by decide) (by decide) (hdep 2 (by simp))
      have hown' := hS.own
      rw [hv'] at hown'
      obtain ⟨u', hr, hown2, k1, k2, k3, k4, k5⟩ := own_last hown' c0 c1 c2 c3 c4 hone
      have hgB : B ≤ g := (hown2.lt g rfl).1
      refine op_store hop ep ex hd hr ⟨f, rfl, by simpa using hs, fun h j hj => ?_, fun j hj hj2 => ?_, v', fun j hj h1 h2 => ?_, fun h => ?_, fun _ h => ?_, fun _ => ?_⟩
      · rw [getD_set_other (by omega)]; exact h5 h5' j hj
      · rw [getD_set_other (by decide)]; exact h5'
      · rw [getD_set_other h1] at hj; exact hF j hj h1 h2
      · rw [getD_set_other (by decide), hdep 4 (by simp)] at h; cases h
      · rw [getD_set_other (by decide), h5'] at h; cases h
      · rw [getD_set_self (by omega), getD_set_other (by decide)]
        refine ⟨(k5 ob (by omega)).trans hS.o, by rw [hv']; exact hown2, ⟨k1.trans hS.kb.os, k2.trans hS.kb.tape, k3.trans hS.kb.output, by rw [k4]; exact hS.kb.size, fun k hk hk2 hk3 => ?_⟩, hS.new⟩
        refine (k5 k fun e => ?_).trans (hS.kb.block k hk hk2 hk3)
        subst e
        rcases hS.new with e | ⟨k', e, hk'⟩
        · rw [hv'] at e
          exact hk3 e
        · rw [hv'] at e
          have : k = k' := by simpa [Value.ownBlock] using e
          omega
    · exact op_field hop ((hout 2 rfl).trans e2) (fld4 ob u) (step0 8 rfl (by decide) (by decide) (by decide) (by decide) (fun e => by cases e) _ rfl hd)
    · -- the slice
      have h5' := hdep 5 (by simp)
      have hS := hu3 h5'
      rw [hun'] at hS
      have ep : (putR A pl1 f).eval (.tmp 20) = .pointer (some ⟨ob, 4, none⟩) := EV 8 (by decide) (by decide) (hdep 8 (by simp))
      have ev : (putR A pl1 f).eval (.tmp 18) = v' := EV 5 (by decide) (by decide) h5'
      obtain ⟨g, cap, hv', hgB⟩ := own_form2' hS.own
      have hS' : Sl1 B ob n w1 a0 a1 a2 a3 v v' xs [c0, c1, c2, c3, c4] (listed.getD 7 false) true (u.setCell ⟨ob, 4, none⟩ v') := by
        refine ⟨hS.o.set4 _, ownsRow_setCell_below (a := ⟨ob, 4, none⟩) hS.own (by show ob < B; omega) _, ⟨hS.kb.os, hS.kb.tape, hS.kb.output, by simpa using hS.kb.size, fun k hk hk2 hk3 => (heap_setCell_other u ⟨ob, 4, none⟩ k _ hk2).trans (hS.kb.block k hk hk2 hk3)⟩, hS.new⟩
      have hr : (Instr.storeAt 24 (.pointer (some ⟨ob, 4, none⟩)) v').run Tryz.prog u = .ok () (u.setCell ⟨ob, 4, none⟩ v') := by
        rw [hv']
        exact st_slice (by kernel_rfl) u hS.o.cells.1.2.2.2.2 (hS.o.cells.2 4)
      refine op_store hop ep ev hd hr ⟨f, rfl, by simpa using hs, fun h j hj => ?_, fun j hj hj2 => ?_, v', fun j hj h1 h2 => ?_, fun h => ?_, fun _ h => ?_, fun _ => ?_⟩
      · rw [getD_set_other (by omega)]; exact h5 h5' j hj
      · rw [getD_set_other (by decide)]; exact h5'
      · rw [getD_set_other h2] at hj; exact hF j hj h1 h2
      · rw [getD_set_other (by decide), h5 h5' 4 (by decide)] at h; cases h
      · rw [getD_set_other (by decide), h5'] at h; cases h
      · rw [getD_set_self (by omega), getD_set_other (by decide)]
        exact hS'
  · intro listed f u ⟨hs, h5, h6, v', hF, hu1, hu2, hu3⟩ hall
    have h := hu3 (hall 5 (by decide))
    rw [hall 7 (by decide), hall 9 (by decide)] at h
    exact fin f v' u h.o h.own h.kb h.new
end

section
open Go.RowKit
namespace Lm
theorem tok_kinds {u : List UInt8} {m : Mark} (h : tok u = (m, 0)) : (m.k ≠ 9 → m.n = 0) ∧ (m.k ≠ 10 → m.t = []) := by
  match u, h with
  | [], h => rw [tok] at h; simp only [Prod.mk.injEq, and_true] at h; rw [← h]; exact ⟨fun _ => rfl, fun _ => rfl⟩
  | c :: r, h =>
    rw [tok] at h
    unfold tokN at h
    repeat' split at h
    all_goals simp only [Prod.mk.injEq, and_true] at h
    all_goals first
      | (rw [← h]; exact ⟨fun _ => rfl, fun _ => rfl⟩)
      | (rw [← h]; exact ⟨fun hh => absurd rfl hh, fun _ => rfl⟩)
      | (rw [← h]; exact ⟨fun _ => rfl, fun hh => absurd rfl hh⟩)
      | (rw [← h.1]; exact ⟨fun _ => rfl, fun _ => rfl⟩)
/-- a mark at p is the one at the front of what is behind p -/
theorem tok_of {l : List UInt8} {p : Nat} {m : Mark} (hp : p ≤ l.length) (h : mark l p = (m, 0)) : ∃ m0, tok (l.drop p) = (m0, 0) ∧ m = mv p m0 := by
  rw [mark_tok l p hp] at h
  obtain ⟨m0, e, hx⟩ : ∃ m0 e, tok (l.drop p) = (m0, e) := ⟨_, _, rfl⟩
  rw [hx] at h
  by_cases he : e = 0
  · subst he
    rw [put_ok] at h
    simp only [Prod.mk.injEq, and_true] at h
    exact ⟨m0, hx, h.symm⟩
  · rw [put_no _ _ he] at h
    simp only [Prod.mk.injEq] at h
    exact absurd h.2 he
theorem mark_kinds {l : List UInt8} {p : Nat} {m : Mark} (hp : p ≤ l.length) (h : mark l p = (m, 0)) : (m.k ≠ 9 → m.n = 0) ∧ (m.k ≠ 10 → m.t = []) := by
  obtain ⟨m0, h0, rfl⟩ := tok_of hp h
  have := tok_kinds h0
  exact this
theorem tok_ws {b : UInt8} (h : ws b = true) (r : List UInt8) : tok (b :: r) = (zero, 3) := by
  have ha : (b :: r).takeWhile az = [] := by rw [List.takeWhile_cons, ws_az h]; rfl
  rw [tok, ha]
  rcases ws_cases h with rfl | rfl | rfl | rfl <;> rfl
theorem tok_front {u : List UInt8} {m : Mark} (h : tok u = (m, 0)) (hk : m.k ≠ 11) : ∃ c r, u = c :: r ∧ ws c = false := by
  match u, h with
  | [], h => rw [tok] at h; simp only [Prod.mk.injEq, and_true] at h; rw [← h] at hk; exact absurd rfl hk
  | c :: r, h =>
    refine ⟨c, r, rfl, ?_⟩
    cases hc : ws c with
    | false => rfl
    | true =>
      rw [tok_ws hc] at h
      simp only [Prod.mk.injEq] at h
      exact absurd h.2 (by decide)
theorem tok_len {u : List UInt8} {m : Mark} (h : tok u = (m, 0)) (hk : m.k ≠ 11) : m.a = 0 ∧ 0 < m.b ∧ m.b ≤ u.length := by
  have hw := tok_ways u
  rw [h] at hw
  rcases hw with ⟨h1, _⟩ | ⟨h1, _⟩ | ⟨_, _, _, h2, h3, h4⟩
  · exact absurd rfl h1
  · simp only [Prod.mk.injEq, and_true] at h1
    rw [h1] at hk
    exact absurd rfl hk
  · exact ⟨h2, h3, h4⟩
/-- each mark of a row stands where a mark is found -/
theorem Row.mem {l : List UInt8} {p : Nat} {ms : List Mark} (h : Row l p ms) : p ≤ l.length → ∀ m ∈ ms, ∃ q, q ≤ l.length ∧ mark l (skip l q) = (m, 0) := by
  induction h with
  | @stop p m h hk =>
    intro hp x hx
    rw [List.mem_singleton] at hx
    subst hx
    exact ⟨p, hp, h⟩
  | @step p m ms h hk _ ih =>
    intro hp x hx
    have hon := on_le hp h hk
    rcases List.mem_cons.1 hx with rfl | hx
    · exact ⟨p, hp, h⟩
    · exact ih (by omega) x hx
theorem skip_skip (l : List UInt8) (p : Nat) : skip l (skip l p) = skip l p := by
  have h : run ws l (skip l p) = 0 := by
    unfold run skip run
    rw [← List.drop_drop]
    generalize l.drop p = u
    induction u with
    | nil => rfl
    | cons c r ih =>
      by_cases hc : ws c = true
      · rw [List.takeWhile_cons, if_pos hc, List.length_cons, List.drop_succ_cons]
        exact ih
      · rw [List.takeWhile_cons, if_neg hc, List.length_nil, List.drop_zero, List.takeWhile_cons, if_neg hc]
        rfl
  show skip l p + run ws l (skip l p) = skip l p
  rw [h]
  rfl
theorem takeWhile_get {f : UInt8 → Bool} : ∀ (u : List UInt8) (j : Nat), j < (u.takeWhile f).length → ∃ c, u[j]? = some c ∧ f c = true
  | [], j, h => by simp at h
  | c :: u, j, h => by
    rw [List.takeWhile_cons] at h
    by_cases hc : f c = true
    · rw [if_pos hc] at h
      match j with
      | 0 => exact ⟨c, rfl, hc⟩
      | i + 1 => exact takeWhile_get u i (by rw [List.length_cons] at h; omega)
    · rw [if_neg hc] at h
      simp at h
theorem takeWhile_id {f : UInt8 → Bool} : ∀ u : List UInt8, u.all f = true → u.takeWhile f = u
  | [], _ => rfl
  | c :: u, h => by
    rw [List.all_cons, Bool.and_eq_true] at h
    rw [List.takeWhile_cons, if_pos h.1, takeWhile_id u h.2]
/-- between p and the mark stand blanks -/
theorem skip_blanks (l : List UInt8) (p i : Nat) (h1 : p ≤ i) (h2 : i < skip l p) : ∃ c, l[i]? = some c ∧ ws c = true := by
  obtain ⟨j, rfl⟩ : ∃ j, i = p + j := ⟨i - p, by omega⟩
  have hj : j < ((l.drop p).takeWhile ws).length := by have h3 : p + j < p + ((l.drop p).takeWhile ws).length := h2; omega
  obtain ⟨c, h4, h5⟩ := takeWhile_get (l.drop p) j hj
  exact ⟨c, by rw [← List.getElem?_drop]; exact h4, h5⟩
/-- a mark's own bytes are it alone -/
theorem alone_row {l : List UInt8} {q : Nat} {m : Mark} (hq : q ≤ l.length) (h : mark l (skip l q) = (m, 0)) (hk : m.k ≠ 11) :
    Row ((l.drop m.a).take (m.b - m.a)) 0 [⟨m.k, 0, m.b - m.a, m.n, m.t⟩, ⟨11, m.b - m.a, m.b - m.a, 0, []⟩] := by
  have hon := on_le hq h hk
  obtain ⟨m0, h0, hm⟩ := tok_of (skip_le hq) h
  have hk0 : m0.k ≠ 11 := by rw [hm] at hk; exact hk
  obtain ⟨l1, l2, l3⟩ := tok_len h0 hk0
  have hb : m.b - m.a = m0.b := by rw [hm]; show skip l q + m0.b - (skip l q + m0.a) = m0.b; omega
  have hx : (l.drop m.a).take (m.b - m.a) = (l.drop (skip l q)).take m0.b := by rw [hon.1, ← hon.1, hb]
  have ht := tok_take h0 hk0
  rw [hb, show (l.drop m.a).take m0.b = (l.drop (skip l q)).take m0.b by rw [hon.1]]
  generalize hX : (l.drop (skip l q)).take m0.b = X at ht
  have hXl : X.length = m0.b := by rw [← hX, List.length_take]; omega
  obtain ⟨c, r, hc, hwc⟩ := tok_front ht hk0
  have hsk : skip X 0 = 0 := by
    unfold skip run
    rw [List.drop_zero, hc, List.takeWhile_cons, if_neg (by rw [hwc]; exact Bool.false_ne_true)]
    rfl
  have e1 : (⟨m.k, 0, m0.b, m.n, m.t⟩ : Mark) = m0 := by rw [hm, ← l1]; rfl
  have hse : skip X m0.b = m0.b := by
    have := run_end (f := ws) (l := X) (p := m0.b) (by omega)
    show m0.b + run ws X m0.b = m0.b
    rw [this]; rfl
  refine .step (m := ⟨m.k, 0, m0.b, m.n, m.t⟩) ?_ hk (.stop ?_ rfl)
  · rw [hsk, mark_tok _ _ (Nat.zero_le _), List.drop_zero, ht, put_ok, e1]
    show (Mark.mk m0.k (0 + m0.a) (0 + m0.b) m0.n m0.t, 0) = (m0, 0)
    rw [Nat.zero_add, Nat.zero_add]
  · show mark X (skip X m0.b) = _
    rw [hse, mark_tok _ _ (by omega), List.drop_of_length_le (by omega)]
    rfl
theorem empty_row : Row [] 0 [⟨11, 0, 0, 0, []⟩] := .stop rfl rfl
/-! Blanks put in. -/
def bytes (l : List UInt8) (m : Mark) : List UInt8 := (l.drop m.a).take (m.b - m.a)
def joined (l by' : List UInt8) : List Mark → List UInt8
  | [] => []
  | m :: ms => by' ++ (bytes l m ++ joined l by' ms)
def moved (z : Nat) : Nat → List Mark → List Mark
  | _, [] => []
  | p, m :: ms => ⟨m.k, p + z, p + z + (m.b - m.a), m.n, m.t⟩ :: moved z (p + z + (m.b - m.a)) ms
theorem skip_all {by' : List UInt8} (hb : by'.all ws = true) (o v : List UInt8) : skip (o ++ (by' ++ v)) o.length = o.length + by'.length + run ws v 0 := by
  have h := skip_shift o (by' ++ v) 0
  rw [Nat.add_zero] at h
  rw [h]
  unfold skip run
  rw [List.drop_zero, List.drop_zero, List.takeWhile_append]
  have ht : by'.takeWhile ws = by' := takeWhile_id by' hb
  rw [ht, if_pos rfl, List.length_append]
  omega
theorem blanked_row {l by' : List UInt8} (hb : by'.all ws = true) (hn : by' ≠ []) {p : Nat} {ms : List Mark} (h : Row l p ms) : p ≤ l.length → ∀ o : List UInt8, Row (o ++ joined l by' ms) o.length (moved by'.length o.length ms) := by
  induction h with
  | @stop p m h hk =>
    intro hp o
    obtain ⟨rfl, _⟩ := end_is hp h hk
    have hj : joined l by' [⟨11, l.length, l.length, 0, []⟩] = by' ++ [] := by
      show by' ++ ((l.drop l.length).take (l.length - l.length) ++ []) = by' ++ []
      rw [Nat.sub_self, List.take_zero]
      rfl
    rw [hj]
    refine .stop ?_ rfl
    rw [skip_all hb, show run ws ([] : List UInt8) 0 = 0 from rfl, mark_tok _ _ (by simp), List.drop_of_length_le (by simp)]
    show put _ (tok []) = _
    rw [tok, put_ok]
    show (Mark.mk 11 (o.length + by'.length + 0 + 0) (o.length + by'.length + 0 + 0) 0 [], 0) = (Mark.mk 11 (o.length + by'.length) (o.length + by'.length + (l.length - l.length)) 0 [], 0)
    rw [Nat.sub_self]
    rfl
  | @step p m ms h hk hr ih =>
    intro hp o
    have hon := on_le hp h hk
    obtain ⟨m0, h0, hm⟩ := tok_of (skip_le hp) h
    have hk0 : m0.k ≠ 11 := by rw [hm] at hk; exact hk
    obtain ⟨l1, l2, l3⟩ := tok_len h0 hk0
    have hmb : m.b - m.a = m0.b := by rw [hm]; show skip l p + m0.b - (skip l p + m0.a) = m0.b; omega
    have hB : bytes l m = (l.drop (skip l p)).take m0.b := by unfold bytes; rw [hmb, hon.1]
    have ht := tok_take h0 hk0
    rw [← hB] at ht
    have hBl : (bytes l m).length = m0.b := by rw [hB, List.length_take]; omega
    obtain ⟨c, r, hc, hwc⟩ := tok_front ht hk0
    obtain ⟨d, by2, hd⟩ : ∃ d by2, by' = d :: by2 := by
      cases by' with
      | nil => exact absurd rfl hn
      | cons d b => exact ⟨d, b, rfl⟩
    have hsep : Sep (joined l by' ms) := by
      match ms, hr.ne with
      | x :: xs, _ =>
        show Sep (by' ++ (bytes l x ++ joined l by' xs))
        have hwd : ws d = true := List.all_eq_true.1 hb d (by rw [hd]; simp)
        rw [hd, List.cons_append]
        exact .cons hwd _
    have hsk : skip (o ++ joined l by' (m :: ms)) o.length = o.length + by'.length := by
      show skip (o ++ (by' ++ (bytes l m ++ joined l by' ms))) o.length = _
      rw [skip_all hb]
      have : run ws (bytes l m ++ joined l by' ms) 0 = 0 := by
        unfold run
        rw [List.drop_zero, hc, List.cons_append, List.takeWhile_cons, if_neg (by rw [hwc]; exact Bool.false_ne_true)]
        rfl
      rw [this]
      rfl
    have htk : tok (bytes l m ++ joined l by' ms) = (m0, 0) := by
      rw [tok_more hsep (by rw [hc]; simp) (by rw [ht]; exact (by decide : (0 : Nat) ≠ 4)), ht]
    have hT : o ++ joined l by' (m :: ms) = (o ++ by' ++ bytes l m) ++ joined l by' ms := by
      show o ++ (by' ++ (bytes l m ++ joined l by' ms)) = _
      simp only [List.append_assoc]
    have hdr : (o ++ joined l by' (m :: ms)).drop (o.length + by'.length) = bytes l m ++ joined l by' ms := by
      show (o ++ (by' ++ (bytes l m ++ joined l by' ms))).drop (o.length + by'.length) = _
      rw [drop_past, List.drop_left]
    have hlen : o.length + by'.length ≤ (o ++ joined l by' (m :: ms)).length := by
      show _ ≤ (o ++ (by' ++ (bytes l m ++ joined l by' ms))).length
      simp only [List.length_append]
      omega
    have hnext := ih (by omega) (o ++ by' ++ bytes l m)
    rw [← hT] at hnext
    have hol : (o ++ by' ++ bytes l m).length = o.length + by'.length + (m.b - m.a) := by
      rw [List.length_append, List.length_append, hBl, hmb]
    rw [hol] at hnext
    refine .step (m := ⟨m.k, o.length + by'.length, o.length + by'.length + (m.b - m.a), m.n, m.t⟩) ?_ hk hnext
    rw [hsk, mark_tok _ _ hlen, hdr, htk, put_ok, hmb]
    show (Mark.mk m0.k (o.length + by'.length + m0.a) (o.length + by'.length + m0.b) m0.n m0.t, 0) = _
    rw [l1, hm]
    rfl
end Lm
end

section
open Go.RowKit

/-- what a mark of a text is -/
def MOk (m : Lm.Mark) : Prop := (1 ≤ m.k ∧ m.k ≤ 10) ∧ (-9223372036854775808 ≤ m.n ∧ m.n ≤ 9223372036854775807) ∧ m.t.length ≤ 4096 ∧ (LEN m.t).2 = true
theorem tok_ok {u : List UInt8} {m : Lm.Mark} (h : Lm.tok u = (m, 0)) (hk : m.k ≠ 11) : MOk m := by
  have h0 : (LEN []).2 = true := by rw [LEN_some Um.cnt_nil]
  cases u with
  | nil =>
    rw [Lm.tok] at h
    simp only [Prod.mk.injEq, and_true] at h
    rw [← h] at hk
    exact absurd rfl hk
  | cons c r =>
    rw [Lm.tok] at h
    by_cases h1 : Lm.punct c ≠ 0
    · rw [if_pos h1] at h
      simp only [Prod.mk.injEq, and_true] at h
      subst h
      have := Lm.punct_le c
      exact ⟨⟨by show 1 ≤ Lm.punct c; omega, by show Lm.punct c ≤ 10; omega⟩, ⟨by show _ ≤ (0 : Int); omega, by show (0 : Int) ≤ _; omega⟩, Nat.zero_le _, h0⟩
    rw [if_neg h1] at h
    by_cases h2 : c = 34
    · rw [if_pos h2] at h
      obtain ⟨v, k, e, hx⟩ : ∃ v k e, Qm.RDF r 0 = (v, k, e) := ⟨_, _, _, rfl⟩
      rw [hx] at h
      by_cases he : e = 0
      · subst he
        rw [if_pos rfl] at h
        simp only [Prod.mk.injEq, and_true] at h
        subst h
        obtain ⟨g1, g2, _⟩ := Qm.RDF_within (r.length + 1) r 0 v k (by omega) (by omega) hx
        refine ⟨⟨by show 1 ≤ 10; omega, by show 10 ≤ 10; omega⟩, ⟨by show _ ≤ (0 : Int); omega, by show (0 : Int) ≤ _; omega⟩, by show v.length ≤ 4096; omega, ?_⟩
        obtain ⟨n, hn⟩ := Option.ne_none_iff_exists'.1 g1
        show (LEN v).2 = true
        rw [LEN_some hn]
      · rw [if_neg he] at h
        simp only [Prod.mk.injEq] at h
        exact absurd h.2 he
    rw [if_neg h2] at h
    by_cases h3 : Lm.numb c = true
    · rw [if_pos h3] at h
      unfold Lm.tokN at h
      split at h
      · split at h
        · rename_i hr
          simp only [Prod.mk.injEq, and_true] at h
          subst h
          unfold Nm.inR at hr
          simp at hr
          exact ⟨⟨by show 1 ≤ 9; omega, by show 9 ≤ 10; omega⟩, hr, Nat.zero_le _, h0⟩
        · simp at h
      · simp at h
    rw [if_neg h3] at h
    split at h
    · simp only [Prod.mk.injEq, and_true] at h
      subst h
      exact ⟨⟨by show 1 ≤ 7; omega, by show 7 ≤ 10; omega⟩, ⟨by show _ ≤ (0 : Int); omega, by show (0 : Int) ≤ _; omega⟩, Nat.zero_le _, h0⟩
    · split at h
      · simp only [Prod.mk.injEq, and_true] at h
        subst h
        exact ⟨⟨by show 1 ≤ 8; omega, by show 8 ≤ 10; omega⟩, ⟨by show _ ≤ (0 : Int); omega, by show (0 : Int) ≤ _; omega⟩, Nat.zero_le _, h0⟩
      · simp at h
theorem mark_ok {l : List UInt8} {p : Nat} {m : Lm.Mark} (hp : p ≤ l.length) (h : Lm.mark l p = (m, 0)) (hk : m.k ≠ 11) : MOk m := by
  rw [Lm.mark_tok l p hp] at h
  obtain ⟨m0, e, hx⟩ : ∃ m0 e, Lm.tok (l.drop p) = (m0, e) := ⟨_, _, rfl⟩
  rw [hx] at h
  by_cases he : e = 0
  · subst he
    rw [Lm.put_ok] at h
    simp only [Prod.mk.injEq, and_true] at h
    subst h
    have h := tok_ok (m := m0) hx hk
    exact h
  · rw [Lm.put_no _ _ he] at h
    simp only [Prod.mk.injEq] at h
    exact absurd h.2 he
theorem TS.ok {l : List UInt8} {p : Nat} {ms : List Lm.Mark} {E : Nat × Nat} (h : TS l p ms E) : p ≤ l.length → ∀ m ∈ ms, MOk m := by
  induction h with
  | stop => intro _ m hm; cases hm
  | bad => intro _ m hm; cases hm
  | @more p m ms E h hk hs ih =>
    intro hp x hx
    rcases List.mem_cons.1 hx with rfl | hx
    · exact mark_ok (Lm.skip_le hp) h hk
    · refine ih ?_ x hx
      rcases Lm.mark_ways l (Lm.skip l p) (Lm.skip_le hp) with ⟨h1, _⟩ | ⟨h1, _⟩ | ⟨_, _, _, _, _, h1⟩
      · rw [h] at h1; exact absurd rfl h1
      · rw [h] at h1; simp only [Prod.mk.injEq, and_true] at h1; rw [h1] at hk; exact absurd rfl hk
      · rw [h] at h1; exact h1
theorem MOk.mt {m : Lm.Mark} (h : MOk m) : Rd.MT m := fun _ => by
  unfold Jn.txt
  rw [h.2.2.2, Bool.true_and]
  exact decide_eq_true h.2.2.1
/-- what it comes to, in the reader's terms -/
def RM (l : List UInt8) (E : Nat × Nat) (p' pl' n' e : Nat) (y : JV) : Rd.Res → Prop
  | .ok x ms n => e = 0 ∧ y = x ∧ n' = n ∧ TS l p' ms E
  | .bad pl er => e = er ∧ er ≠ 0 ∧ pl' = pl
/-- what from and value tell -/
def FRes (w0 : World) (rb : Nat) (l : List UInt8) (E : Nat × Nat) (d : Nat) (w : World) (r : Rd.Res) (en : Ending) (w' : World) : Prop :=
  Kr rb w w' ∧ ∃ (u : Value) (y : JV) (p' pl' n' e : Nat), en = .returned (.tuple #[u, .int .i64 (e : Int)]) ∧ HF w.heap.size w' u y ∧ RS w0 rb l w' p' pl' n' d ∧ RM l E p' pl' n' e y r
/-- what from comes to where no more than K marks are left -/
def FromOK (w0 : World) (rb : Nat) (l : List UInt8) (E : Nat × Nat) (K : Nat) : Prop := ∀ (m : Lm.Mark) (ms : List Lm.Mark) (w : World) (p n d : Nat) (kI aI bI : Int), (m :: ms).length ≤ K → RS w0 rb l w p m.a n d → TS l p ms E → MOk m → n ≤ 8192 → d ≤ 12 → kI = (m.k : Int) → aI = (m.a : Int) → bI = (m.b : Int) →
  Calls Tryz.prog 66 #[.pointer (some ⟨rb, 0, none⟩), .agg #[.int .u8 kI, .int .i64 aI, .int .i64 bI, .int .i64 m.n, .string (S m.t)]] w fun en w' => ∃ f r, Rd.P E f .v (m :: ms) n d = some r ∧ FRes w0 rb l E d w r en w'
/-- the list that is built in block ob, apart from the blocks X -/
structure LI (rb ob : Nat) (X : Nat → Prop) (w : World) (acc : List JV) : Prop where
  row : ∃ xv cs, VAt ob w (.int .u8 4) (.int .i64 0) (.string ⟨#[]⟩) (.slice none 0 0) xv ∧ w.ownsRow (ob + 1) 26 5 xv acc.length cs ∧ HCSp (fun b => ob + 1 ≤ b ∧ some b ≠ xv.ownBlock ∧ ¬ X b) w cs acc ∧ ∀ b, X b → b ≠ ob ∧ some b ≠ xv.ownBlock
  lt : rb < ob
/-- what a part of the list leaves of memory -/
structure Kl (rb ob : Nat) (w w' : World) : Prop where
  os : w'.os = w.os
  tape : w'.tape = w.tape
  output : w'.output = w.output
  size : w.heap.size ≤ w'.heap.size
  low : ∀ k, k < ob → k ≠ rb → k < w.heap.size → w'.heap[k]? = w.heap[k]?
  typ : ∀ k cs t fr, t ≠ 26 → k ≠ rb → w.heap[k]? = some (.cells cs t fr) → w'.heap[k]? = some (.cells cs t fr)
theorem Kl.refl (rb ob : Nat) (w : World) : Kl rb ob w w := ⟨rfl, rfl, rfl, Nat.le_refl _, fun _ _ _ _ => rfl, fun _ _ _ _ _ _ h => h⟩
theorem Kl.trans {rb ob : Nat} {a b c : World} (h : Kl rb ob a b) (g : Kl rb ob b c) : Kl rb ob a c :=
  ⟨g.os.trans h.os, g.tape.trans h.tape, g.output.trans h.output, Nat.le_trans h.size g.size, fun k h1 h2 h3 => (g.low k h1 h2 (Nat.lt_of_lt_of_le h3 h.size)).trans (h.low k h1 h2 h3), fun k cs t fr h1 h2 h3 => g.typ k cs t fr h1 h2 (h.typ k cs t fr h1 h2 h3)⟩
theorem Kl.of_kr {rb ob : Nat} {w w' : World} (h : Kr rb w w') : Kl rb ob w w' :=
  ⟨h.os, h.tape, h.output, h.size, fun k _ h2 h3 => h.block k h3 h2, fun k _ _ _ _ h2 h3 => (h.block k (Array.getElem?_eq_some_iff.1 h3).1 h2).trans h3⟩
theorem Kl.of_below {rb ob : Nat} {w w' : World} (h : Below w.heap.size w w') : Kl rb ob w w' := Kl.of_kr (Kr.of_below h)
theorem LI.kr {rb ob : Nat} {X : Nat → Prop} {w w' : World} {acc : List JV} (h : LI rb ob X w acc) (k : Kr rb w w') : LI rb ob X w' acc := by
  obtain ⟨⟨xv, cs, h1, h2, h3, h5⟩, h4⟩ := h
  have hob := (Array.getElem?_eq_some_iff.1 h1).1
  exact ⟨⟨xv, cs, (k.block ob hob (by omega)).trans h1, own_stay h2 fun b e => k.block b (h2.lt b e).2 (by have := (h2.lt b e).1; omega), HCSp.stay (fun b hb hl => ⟨hb, k.block b hl (by have := hb.1; omega)⟩) _ _ h3, h5⟩, h4⟩
theorem LI.less {rb ob : Nat} {X Y : Nat → Prop} {w : World} {acc : List JV} (h : LI rb ob X w acc) (hY : ∀ b, Y b → X b) : LI rb ob Y w acc := by
  obtain ⟨⟨xv, cs, h1, h2, h3, h5⟩, h4⟩ := h
  exact ⟨⟨xv, cs, h1, h2, HCSp.stay (fun b hb _ => ⟨⟨hb.1, hb.2.1, fun h => hb.2.2 (hY b h)⟩, rfl⟩) _ _ h3, fun b hb => h5 b (hY b hb)⟩, h4⟩
/-- a block of another kind is set apart -/
theorem LI.apart {rb ob : Nat} {X : Nat → Prop} {w : World} {acc : List JV} (h : LI rb ob X w acc) {b : Nat} {cs : Array Value} {t : TypeId} {fr : Nat × Nat} (hb : w.heap[b]? = some (.cells cs t fr)) (ht : t ≠ 26) (hac : acc = []) : LI rb ob (fun k => k = b) w acc := by
  obtain ⟨⟨xv, cs', h1, h2, h3, h5⟩, h4⟩ := h
  subst hac
  refine ⟨⟨xv, cs', h1, h2, h3, ?_⟩, h4⟩
  rintro k rfl
  refine ⟨fun e => ?_, fun e => ?_⟩
  · subst e
    rw [h1] at hb
    simp only [Option.some.injEq, Obj.cells.injEq] at hb
    exact ht hb.2.1.symm
  · obtain ⟨c, fz, h6⟩ := Lib.ownsRow_kind h2 k e.symm
    rw [h6] at hb
    simp only [Option.some.injEq, Obj.cells.injEq] at hb
    exact ht hb.2.1.symm
/-- a block that was set apart is written -/
theorem LI.put {rb ob b o : Nat} {X : Nat → Prop} {w : World} {v : Value} {acc : List JV} (h : LI rb ob X w acc) (hb : X b) : LI rb ob X (w.setCell ⟨b, o, none⟩ v) acc := by
  obtain ⟨⟨xv, cs, h1, h2, h3, h5⟩, h4⟩ := h
  have hne := h5 b hb
  have hs : ∀ k, k ≠ b → (w.setCell ⟨b, o, none⟩ v).heap[k]? = w.heap[k]? := fun k hk => heap_setCell_other w ⟨b, o, none⟩ k _ hk
  exact ⟨⟨xv, cs, (hs ob hne.1.symm).trans h1, own_stay h2 fun k e => hs k (fun h => hne.2 (by rw [← h]; exact e.symm)), HCSp.stay (fun k hk _ => ⟨hk, hs k (fun h => hk.2.2 (h ▸ hb))⟩) _ _ h3, h5⟩, h4⟩
theorem LI.lex {rb ob b : Nat} {X : Nat → Prop} {w : World} {v0 v1 v2 v3 v4 : Value} {acc : List JV} (h : LI rb ob X w acc) (hb : X b) : LI rb ob X (((((w.setCell ⟨b, 0, none⟩ v0).setCell ⟨b, 1, none⟩ v1).setCell ⟨b, 2, none⟩ v2).setCell ⟨b, 3, none⟩ v3).setCell ⟨b, 4, none⟩ v4) acc :=
  ((((h.put hb).put hb).put hb).put hb).put hb
/-- an Item more -/
theorem LI.more {rb ob : Nat} {X : Nat → Prop} {w5 w6 : World} {acc : List JV} {x : JV} {Bc : Nat} {xv v' : Value} {cs ds : List Value} {c0 c1 c2 c3 c4 : Value} (hlt : rb < ob) (hds : ds = [c0, c1, c2, c3, c4])
    (h3 : HCSp (fun b => ob + 1 ≤ b ∧ some b ≠ xv.ownBlock ∧ ¬ X b) w5 cs acc) (hx : HCp (fun b => Bc ≤ b) w5 [c0, c1, c2, c3, c4] x) (hBc : ob + 1 ≤ Bc) (hrow : ∀ k, xv.ownBlock = some k → k < Bc) (hX : ∀ b, X b → b < Bc ∧ b < w5.heap.size ∧ b ≠ ob ∧ some b ≠ xv.ownBlock)
    (g1 : VAt ob w6 (.int .u8 4) (.int .i64 0) (.string ⟨#[]⟩) (.slice none 0 0) v') (g2 : w6.ownsRow (ob + 1) 26 5 v' (acc.length + 1) (cs ++ ds)) (g3 : Kb ob xv.ownBlock w5 w6) (g4 : v'.ownBlock = xv.ownBlock ∨ ∃ k, v'.ownBlock = some k ∧ w5.heap.size ≤ k) : LI rb ob X w6 (acc ++ [x]) := by
  subst hds
  have q1 : ∀ b, b < w5.heap.size → some b ≠ xv.ownBlock → some b ≠ v'.ownBlock := fun b hb h => by
    rcases g4 with e | ⟨k, e, hk⟩
    · rw [e]; exact h
    · rw [e]; intro h; simp only [Option.some.injEq] at h; omega
  have q2 : ∀ b, Bc ≤ b → some b ≠ xv.ownBlock := fun b hb h => by have := hrow b h.symm; omega
  exact ⟨⟨v', cs ++ [c0, c1, c2, c3, c4], g1, by rw [List.length_append, List.length_singleton]; exact g2, HCSp.app (HCSp.stay (fun b hb hl => ⟨⟨hb.1, q1 b hl hb.2.1, hb.2.2⟩, g3.block b hl (by have := hb.1; omega) hb.2.1⟩) _ _ h3)
    (HCSp.one (HCp.stay (fun b hb hl => ⟨⟨by omega, q1 b hl (q2 b hb), fun h => by have := (hX b h).1; omega⟩, g3.block b hl (by omega) (q2 b hb)⟩) _ _ hx)), fun b hb => ⟨(hX b hb).2.2.1, q1 b (hX b hb).2.1 (hX b hb).2.2.2⟩⟩, hlt⟩
/-- the reader's pointer in a box of its own -/
def PB (b0 rb : Nat) (w : World) : Prop := w.heap[b0]? = some (.cells #[.pointer (some ⟨rb, 0, none⟩)] 84 (0, 0))
theorem PB.cell {b0 rb : Nat} {w : World} (h : PB b0 rb w) : w.cell? ⟨b0, 0, none⟩ = some (.pointer (some ⟨rb, 0, none⟩)) := (cell_of_row w b0 0 _ _ _ h).trans rfl
theorem PB.kl {b0 rb ob : Nat} {w w' : World} (h : PB b0 rb w) (hne : b0 ≠ rb) (k : Kl rb ob w w') : PB b0 rb w' := k.typ b0 _ _ _ (by decide) hne h
/-- what a part of a list tells -/
def LRes (w0 : World) (rb ob : Nat) (X : Nat → Prop) (l : List UInt8) (E : Nat × Nat) (d : Nat) (w : World) (acc : List JV) (r : Rd.Res) (en : Ending) (w' : World) : Prop :=
  Kl rb ob w w' ∧ ∃ (y : JV) (p' pl' n' e : Nat), en = .returned (.int .i64 (e : Int)) ∧ LI rb ob X w' (acc ++ [y]) ∧ RS w0 rb l w' p' pl' n' d ∧ RM l E p' pl' n' e y r
set_option maxHeartbeats 2000000 in
set_option maxRecDepth 5000 in
theorem list1_any {w0 w : World} {rb ob b0 : Nat} {X : Nat → Prop} {l : List UInt8} {E : Nat × Nat} {K : Nat} (hF : FromOK w0 rb l E K) {m : Lm.Mark} {ms : List Lm.Mark} {p n d : Nat} {acc : List JV} (hlen : (m :: ms).length ≤ K) (hS : RS w0 rb l w p m.a n d) (hT : TS l p ms E) (hm : MOk m) (hn : n ≤ 8192) (hd : d ≤ 12)
    (hL : LI rb ob X w acc) (hX : ∀ b, X b → b < w.heap.size) (hP : PB b0 rb w) (hb0 : b0 ≠ rb) (hacc : acc.length ≤ 70000) {kI aI bI : Int} (hk : kI = (m.k : Int)) (ha : aI = (m.a : Int)) (hb : bI = (m.b : Int)) :
    Calls Tryz.prog 100 #[.agg #[.int .u8 kI, .int .i64 aI, .int .i64 bI, .int .i64 m.n, .string (S m.t)], .pointer (some ⟨b0, 0, none⟩), .pointer (some ⟨ob, 0, none⟩)] w fun en w' => ∃ f r, Rd.P E f .v (m :: ms) n d = some r ∧ LRes w0 rb ob X l E d w acc r en w' := by
  obtain ⟨W1, hW1⟩ : ∃ W, W = w.alloc (.cells #[.int .u8 kI, .int .i64 aI, .int .i64 bI, .int .i64 m.n, .string (S m.t)] 85) := ⟨_, rfl⟩
  have b1 : Below w.heap.size w W1 := by rw [hW1]; exact (Below.refl _ _).alloc (Nat.le_refl _) _
  have S1 := hS.grow b1
  have L1 := hL.kr (Kr.of_below b1)
  have P1 := (hP.kl (ob := ob) hb0 (Kl.of_below b1)).cell
  have cF := hF m ms W1 p n d kI aI bI hlen S1 hT hm hn hd hk ha hb
  have hob : ob < w.heap.size := by obtain ⟨⟨xv, cs, h1, _⟩, _⟩ := hL; exact (Array.getElem?_eq_some_iff.1 h1).1
  have HB1 := Lib.hid b1
  have HL1 := Lib.hid L1
  have HL := Lib.hid hL
  rw [hW1] at P1
  clear b1 S1 L1 hS hT hm hL hk ha hb hF hlen hP
  go_enter Tryz.func100, Tryz.ntmps100
  go_wp2_with fail
  rw [← hW1]
  refine cF.mono ?_; rintro en w2 ⟨f, r, hP, k2, u, y, p', pl', n', e, rfl, hu, s2, hr⟩
  clear P1 cF
  obtain ⟨cs2, rfl, hc⟩ := hu
  obtain ⟨ya, yb, yca, ycb, rfl, hJ, _⟩ := hc.one
  obtain ⟨c0, h0⟩ : ∃ z : Value, z = .int .u8 (y.k : Int) := ⟨_, rfl⟩
  obtain ⟨c1, h1⟩ : ∃ z : Value, z = .int .i64 y.n := ⟨_, rfl⟩
  obtain ⟨c2, h2⟩ : ∃ z : Value, z = .string (S y.t) := ⟨_, rfl⟩
  have HPP := Lib.hid hP
  have HK2 := Lib.hid k2
  have HS2 := Lib.hid s2
  have HR := Lib.hid hr
  have HC2 := Lib.hid hc
  have hone : Hid (∀ u ∈ [Value.int .u8 (y.k : Int), .int .i64 y.n, .string (S y.t), .slice ya y.ns.length yca, .slice yb y.is.length ycb], u.oneCell' = true) := fun u hu => by
    simp only [List.mem_cons, List.not_mem_nil, or_false] at hu
    rcases hu with rfl | rfl | rfl | rfl | rfl <;> rfl
  clear hP k2 s2 hr hc hJ h0 h1 h2 hW1
  obtain ⟨W3, hW3⟩ : ∃ W, W = w2.alloc (.cells #[.int .u8 (y.k : Int), .int .i64 y.n, .string (S y.t), .slice ya y.ns.length yca, .slice yb y.is.length ycb] 26) := ⟨_, rfl⟩
  have b3 : Below w2.heap.size w2 W3 := by rw [hW3]; exact (Below.refl _ _).alloc (Nat.le_refl _) _
  have hXv : VAt w2.heap.size W3 (.int .u8 (y.k : Int)) (.int .i64 y.n) (.string (S y.t)) (.slice ya y.ns.length yca) (.slice yb y.is.length ycb) := by rw [hW3]; exact VAt.new ..
  have kr3 : Hid (Kr rb w W3) := ((Kr.of_below HB1.out).trans HK2.out).trans (Kr.of_below b3)
  obtain ⟨⟨xv, cs, hO0, o0, hcs0, hxx⟩, hrb⟩ := HL.out
  have hO := (kr3.out.block ob hob (by omega)).trans hO0
  have o1 := own_stay o0 fun b e => kr3.out.block b (o0.lt b e).2 (by have := (o0.lt b e).1; omega)
  have hcs := HCSp.stay (Q := fun b => ob + 1 ≤ b ∧ some b ≠ xv.ownBlock ∧ ¬ X b) (fun b hb hl => ⟨hb, kr3.out.block b hl (by have := hb.1; omega)⟩) _ _ hcs0
  have hob3 : ob < W3.heap.size := Nat.lt_of_lt_of_le hob kr3.out.size
  have HS3 := Lib.hid (HS2.out.grow b3)
  have HC3 : Hid (HCp (fun b => W1.heap.size ≤ b) W3 [.int .u8 (y.k : Int), .int .i64 y.n, .string (S y.t), .slice ya y.ns.length yca, .slice yb y.is.length ycb] y) := HCp.stay (fun b hb hl => ⟨hb, b3.block b hl⟩) _ _ HC2.out
  have hrow : ∀ k, xv.ownBlock = some k → k < W1.heap.size := fun k e => Nat.lt_of_lt_of_le (o0.lt k e).2 HB1.out.size
  have HROW := Lib.hid hrow
  have HCS3 := Lib.hid hcs
  have HXX : Hid (∀ b, X b → b < W1.heap.size ∧ b < W3.heap.size ∧ b ≠ ob ∧ some b ≠ xv.ownBlock) := fun b hb => ⟨Nat.lt_of_lt_of_le (hX b hb) HB1.out.size, Nat.lt_of_lt_of_le (hX b hb) kr3.out.size, hxx b hb⟩
  have hsz1 : ob + 1 ≤ W1.heap.size := Nat.le_trans hob HB1.out.size
  clear hO0 o0 hcs0 b3 hrow hcs hxx hX
  go_wp2_with fail
  rw [← hW3]
  clear hW3
  refine region_l1 (by kernel_rfl) (by kernel_rfl) (by simp) rfl rfl hO hXv hone.out o1 (by omega) (Nat.lt_succ_self ob) (by omega) (fun f' v' w6 g1 g2 g3 g4 => ?_)
  rw [putR_lit]
  simp only [putL, show ∀ i, pl1 i = ([13, 14, 15, 16, 17, 18, 19, 20].contains i) from fun _ => rfl]
  simp
  have hLI : Hid (LI rb ob X w6 (acc ++ [y])) := LI.more hrb rfl HCS3.out HC3.out hsz1 HROW.out HXX.out g1 g2 g3 g4
  have hKl : Hid (Kl rb ob w w6) := by
    refine ⟨g3.os.trans kr3.out.os, g3.tape.trans kr3.out.tape, g3.output.trans kr3.out.output, Nat.le_trans kr3.out.size g3.size, fun k h1 h2 h3 => ?_, fun k cs' t fr ht h2 h3 => ?_⟩
    · exact (g3.block k (Nat.lt_of_lt_of_le h3 kr3.out.size) (by omega) (fun e => by have := (o1.lt k e.symm).1; omega)).trans (kr3.out.block k h3 h2)
    · have hk := (Array.getElem?_eq_some_iff.1 h3).1
      have h3' := (kr3.out.block k hk h2).trans h3
      refine (g3.block k (Nat.lt_of_lt_of_le hk kr3.out.size) (fun e => ?_) (fun e => ?_)).trans h3'
      · subst e
        have := h3'.symm.trans hO
        simp only [Option.some.injEq, Obj.cells.injEq] at this
        exact ht this.2.1
      · obtain ⟨c, fz, h4⟩ := Lib.ownsRow_kind o1 k e.symm
        rw [h4] at h3'
        simp only [Option.some.injEq, Obj.cells.injEq] at h3'
        exact ht h3'.2.1.symm
  have hS6 : Hid (RS w0 rb l w6 p' pl' n' d) := by
    refine HS3.out.other (g3.block rb HS3.out.lt (by omega) (fun e => by have := (o1.lt rb e.symm).1; omega)) ?_
    have hw0 := HS3.out.below
    have hw0s := HS3.out.at0
    exact ⟨g3.os.trans hw0.os, g3.tape.trans hw0.tape, g3.output.trans hw0.output, Nat.le_trans hw0.size g3.size, fun k hk => (g3.block k (by have := hw0.size; omega) (by omega) (fun e => by have := (o1.lt k e.symm).1; omega)).trans (hw0.block k hk)⟩
  clear g1 g2 g3 g4 hO hXv o1
  go_wp2_with fail
  go_ret
  exact ⟨f, r, HPP.out, hKl.out, y, p', pl', n', e, rfl, hLI.out, hS6.out, HR.out⟩
end

section
open Go.RowKit

/-- where the next mark is looked for -/
def nxt (rb : Nat) (w : World) : Nat := match w.cell? ⟨rb, 1, none⟩ with | some (.int _ q) => q.toNat | _ => 0
theorem nxt_rs {w0 w : World} {rb : Nat} {l : List UInt8} {p pl n d : Nat} (h : RS w0 rb l w p pl n d) : nxt rb w = p := by
  unfold nxt
  rw [(row5_cells h.at').1.2.1]
  exact Int.toNat_natCast p
/-- how many marks there are from p on -/
noncomputable def tsl (l : List UInt8) (p : Nat) : Nat := (Classical.epsilon fun ms => ∃ E, TS l p ms E).length
theorem tsl_eq {l : List UInt8} {p : Nat} {ms : List Lm.Mark} {E : Nat × Nat} (h : TS l p ms E) : tsl l p = ms.length := by
  have h2 : ∃ E', TS l p (Classical.epsilon fun ms => ∃ E, TS l p ms E) E' := Classical.epsilon_spec (p := fun ms => ∃ E, TS l p ms E) ⟨ms, E, h⟩
  obtain ⟨E', h3⟩ := h2
  unfold tsl
  rw [(TS.det h3 h).1]
theorem MkAt.kl {b rb ob : Nat} {w w' : World} {c0 c1 c2 c3 c4 : Value} (h : MkAt b w c0 c1 c2 c3 c4) (hne : b ≠ rb) (k : Kl rb ob w w') : MkAt b w' c0 c1 c2 c3 c4 := k.typ b _ _ _ (by decide) hne h
theorem MkAt.kr {b rb : Nat} {w w' : World} {c0 c1 c2 c3 c4 : Value} (h : MkAt b w c0 c1 c2 c3 c4) (hne : b ≠ rb) (k : Kr rb w w') : MkAt b w' c0 c1 c2 c3 c4 := (k.block _ (Array.getElem?_eq_some_iff.1 h).1 hne).trans h
theorem MkAt.set5 {b : Nat} {w : World} {c0 c1 c2 c3 c4 : Value} (h : MkAt b w c0 c1 c2 c3 c4) (v0 v1 v2 v3 v4 : Value) : MkAt b (((((w.setCell ⟨b, 0, none⟩ v0).setCell ⟨b, 1, none⟩ v1).setCell ⟨b, 2, none⟩ v2).setCell ⟨b, 3, none⟩ v3).setCell ⟨b, 4, none⟩ v4) v0 v1 v2 v3 v4 := by
  have h0 := heap_setCell_same w b 0 _ _ v0 h
  have h1 := heap_setCell_same _ b 1 _ _ v1 h0
  have h2 := heap_setCell_same _ b 2 _ _ v2 h1
  have h3 := heap_setCell_same _ b 3 _ _ v3 h2
  exact heap_setCell_same _ b 4 _ _ v4 h3
theorem Kl.put {rb ob b : Nat} {w w' : World} (h : Kl rb ob w w') (hb : w.heap.size ≤ b) (o : Nat) (v : Value) : Kl rb ob w (w'.setCell ⟨b, o, none⟩ v) :=
  ⟨h.os, h.tape, h.output, by simpa using h.size, fun k h1 h2 h3 => (heap_setCell_other w' ⟨b, o, none⟩ k _ (by show k ≠ b; omega)).trans (h.low k h1 h2 h3), fun k cs t fr h1 h2 h3 => (heap_setCell_other w' ⟨b, o, none⟩ k _ (by have := (Array.getElem?_eq_some_iff.1 h3).1; show k ≠ b; omega)).trans (h.typ k cs t fr h1 h2 h3)⟩
theorem Kl.lex {rb ob b : Nat} {w w' : World} (h : Kl rb ob w w') (hb : w.heap.size ≤ b) (v0 v1 v2 v3 v4 : Value) : Kl rb ob w (((((w'.setCell ⟨b, 0, none⟩ v0).setCell ⟨b, 1, none⟩ v1).setCell ⟨b, 2, none⟩ v2).setCell ⟨b, 3, none⟩ v3).setCell ⟨b, 4, none⟩ v4) :=
  ((((h.put hb 0 v0).put hb 1 v1).put hb 2 v2).put hb 3 v3).put hb 4 v4
/-- what parts tells of a list -/
def PResL (w0 : World) (rb ob : Nat) (l : List UInt8) (E : Nat × Nat) (d : Nat) (w : World) (r : Rd.Res) (en : Ending) (w' : World) : Prop :=
  Kl rb ob w w' ∧ ∃ (acc : List JV) (p' pl' n' e : Nat), en = .returned (.int .i64 (e : Int)) ∧ LI rb ob (fun _ => False) w' acc ∧ acc.length ≤ 8193 ∧ RS w0 rb l w' p' pl' n' d ∧ RM l E p' pl' n' e (.mk 4 0 [] [] acc) r
/-- what the rest of a list comes to, behind its first bracket -/
def RL (E : Nat × Nat) (d : Nat) (ms : List Lm.Mark) (n : Nat) (r : Rd.Res) : Prop := (ms = [] ∧ r = .bad E.1 (Rd.fe E)) ∨ (∃ m1 ms2, ms = m1 :: ms2 ∧ m1.k = 4 ∧ r = .ok (.mk 4 0 [] [] []) ms2 n) ∨
  ∃ m1 ms2 f, ms = m1 :: ms2 ∧ m1.k ≠ 4 ∧ Rd.P E f (.l []) (m1 :: ms2) n d = some r
/-- what stands at the head of the loop -/
def PIL (w0 w : World) (rb ob b7 : Nat) (l : List UInt8) (E : Nat × Nat) (K d : Nat) (Q : Rd.Res → Prop) (wr : World) : Prop := ∃ (m' : Lm.Mark) (ms1 : List Lm.Mark) (p1 n1 : Nat) (acc : List JV), MkAt b7 wr (.int .u8 (m'.k : Int)) (.int .i64 (m'.a : Int)) (.int .i64 (m'.b : Int)) (.int .i64 m'.n) (.string (S m'.t)) ∧ RS w0 rb l wr p1 m'.a n1 (d + 1) ∧ TS l p1 ms1 E ∧ LI rb ob (fun k => k = b7) wr acc ∧
  Kl rb ob w wr ∧ (m' :: ms1).length ≤ K ∧ n1 ≤ 8192 ∧ acc.length ≤ n1 ∧ MOk m' ∧ ∀ f r, Rd.P E f (.l acc) (m' :: ms1) n1 d = some r → Q r
set_option maxHeartbeats 4000000 in
set_option maxRecDepth 5000 in
theorem parts_list {w0 w : World} {rb ob b0 : Nat} {l : List UInt8} {E : Nat × Nat} {K : Nat} (hF : FromOK w0 rb l E K) {ms : List Lm.Mark} {p pl n d : Nat} (hlen : ms.length ≤ K) (hS : RS w0 rb l w p pl n (d + 1)) (hT : TS l p ms E) (hn : n ≤ 8192) (hd : d + 1 ≤ 12)
    (hL : LI rb ob (fun _ => False) w []) (hP : PB b0 rb w) (hb0 : b0 ≠ rb) :
    Calls Tryz.prog 99 #[.pointer (some ⟨rb, 0, none⟩), .int .u8 4, .func (.func 100) #[] #[.pointer (some ⟨b0, 0, none⟩), .pointer (some ⟨ob, 0, none⟩)]] w fun en w' => ∃ r, RL E d ms n r ∧ PResL w0 rb ob l E (d + 1) w r en w' := by
  have cW := within_any hS hT
  have HF := Lib.hid hF
  have HS := Lib.hid hS
  have HL := Lib.hid hL
  have HP := Lib.hid hP
  have HLEN := Lib.hid hlen
  have HMT := Lib.hid (hT.ok hS.pos)
  have hw0 : Hid (w0.heap.size ≤ w.heap.size) := hS.below.size
  clear hF hS hL hP hT hlen
  rcases ms with _ | ⟨m, ms⟩
  · obtain ⟨eI, heI⟩ : ∃ L : Int, L = (Rd.fe E : Int) := ⟨_, rfl⟩
    have hb : (eI != 0) = true := bne_iff_ne.2 (by have := fe_pos E; omega)
    have cW : Calls Tryz.prog 65 #[.pointer (some ⟨rb, 0, none⟩)] w fun en w' => en = .returned (.tuple #[.agg #[.int .u8 0, .int .i64 0, .int .i64 0, .int .i64 0, .string ⟨#[]⟩], .int .i64 eI]) ∧ Kr rb w w' ∧ ∃ p', RS w0 rb l w' p' E.1 n (d + 1) := by
      rw [heI]
      exact cW
    have HE := Lib.hid heI
    clear heI
    go_enter Tryz.func99, Tryz.ntmps99
    go_wp2_with fail
    refine cW.mono ?_; rintro en w2 ⟨rfl, k2, p', s2⟩
    have b3 : Below w2.heap.size w2 (w2.alloc (.cells #[.int .u8 0, .int .i64 0, .int .i64 0, .int .i64 0, .string ⟨#[]⟩] 85)) := (Below.refl _ _).alloc (Nat.le_refl _) _
    have HK := Lib.hid (k2.trans (Kr.of_below b3))
    have HS2 := Lib.hid (s2.grow b3)
    clear cW k2 s2 b3
    go_wp2_with fail
    go_ret
    exact ⟨_, .inl ⟨rfl, rfl⟩, .of_kr HK.out, [], p', E.1, n, Rd.fe E, by rw [HE.out]; rfl, HL.out.kr HK.out, Nat.zero_le _, HS2.out, rfl, fe_pos E, rfl⟩
  obtain ⟨kI, hkI⟩ : ∃ L : Int, L = ((m.k : Nat) : Int) := ⟨_, rfl⟩
  obtain ⟨aI, haI⟩ : ∃ L : Int, L = ((m.a : Nat) : Int) := ⟨_, rfl⟩
  obtain ⟨bI, hbI⟩ : ∃ L : Int, L = ((m.b : Nat) : Int) := ⟨_, rfl⟩
  have cW : Calls Tryz.prog 65 #[.pointer (some ⟨rb, 0, none⟩)] w fun en w' => en = .returned (.tuple #[.agg #[.int .u8 kI, .int .i64 aI, .int .i64 bI, .int .i64 m.n, .string (S m.t)], .int .i64 0]) ∧ Kr rb w w' ∧ RS w0 rb l w' m.b m.a n (d + 1) ∧ TS l m.b ms E := by
    rw [hkI, haI, hbI]
    exact cW
  have HKI := Lib.hid hkI
  have HAI := Lib.hid haI
  have HBI := Lib.hid hbI
  clear hkI haI hbI
  by_cases h4 : kI = 4
  · subst h4
    have hm : Hid (m.k = 4) := by have := HKI.out; show m.k = 4; omega
    go_enter Tryz.func99, Tryz.ntmps99
    go_wp2_with fail
    refine cW.mono ?_; rintro en w2 ⟨rfl, k2, s2, t2⟩
    have b3 : Below w2.heap.size w2 (w2.alloc (.cells #[.int .u8 4, .int .i64 aI, .int .i64 bI, .int .i64 m.n, .string (S m.t)] 85)) := (Below.refl _ _).alloc (Nat.le_refl _) _
    have HK := Lib.hid (k2.trans (Kr.of_below b3))
    have HS2 := Lib.hid (s2.grow b3)
    have HT2 := Lib.hid t2
    clear cW k2 s2 b3 t2
    go_wp2_with fail
    go_ret
    exact ⟨_, .inr (.inl ⟨m, ms, rfl, hm.out, rfl⟩), .of_kr HK.out, [], m.b, m.a, n, 0, rfl, HL.out.kr HK.out, Nat.zero_le _, HS2.out, rfl, rfl, rfl, HT2.out⟩
  have hb4 : (kI == 4) = false := beq_eq_false_iff_ne.2 h4
  have hm4 : Hid (m.k ≠ 4) := by have := HKI.out; show m.k ≠ 4; omega
  clear h4
  go_enter Tryz.func99, Tryz.ntmps99
  go_wp2_with fail
  refine cW.mono ?_; rintro en w2 ⟨rfl, k2, s2, t2⟩
  obtain ⟨b7, hb7⟩ : ∃ b, b = w2.heap.size := ⟨_, rfl⟩
  obtain ⟨W3, hW3⟩ : ∃ W, W = w2.alloc (.cells #[.int .u8 kI, .int .i64 aI, .int .i64 bI, .int .i64 m.n, .string (S m.t)] 85) := ⟨_, rfl⟩
  have b3 : Below w2.heap.size w2 W3 := by rw [hW3]; exact (Below.refl _ _).alloc (Nat.le_refl _) _
  have M3 : MkAt b7 W3 (.int .u8 kI) (.int .i64 aI) (.int .i64 bI) (.int .i64 m.n) (.string (S m.t)) := by rw [hW3, hb7]; exact MkAt.new ..
  have HK := Lib.hid (k2.trans (Kr.of_below b3))
  have hne7 : b7 ≠ rb := by have := s2.lt; omega
  have h7w : w.heap.size ≤ b7 := by rw [hb7]; exact k2.size
  have hw07 : Hid (w0.heap.size ≤ b7) := Nat.le_trans hw0.out h7w
  have HI0 : Hid (PIL w0 w rb ob b7 l E K d (RL E d (m :: ms) n) W3) := by
    refine ⟨m, ms, m.b, n, [], ?_, s2.grow b3, t2, (HL.out.kr HK.out).apart M3 (by decide) rfl, .of_kr HK.out, HLEN.out, hn, Nat.zero_le _, HMT.out m List.mem_cons_self, fun f r h => .inr (.inr ⟨m, ms, f, rfl, hm4.out, h⟩)⟩
    rw [← HKI.out, ← HAI.out, ← HBI.out]
    exact M3
  obtain ⟨⟨y0, y1, y2, y3, y4⟩, yf⟩ := MkAt.cells M3
  rw [hW3, hb7] at y0 y1 y2 y3 y4
  clear cW k2 s2 t2 b3 M3
  go_wp2_with fail
  rw [← hW3, ← hb7]
  clear hb7 hb4 hW3 y0 y1 y2 y3 y4 yf
  go_loopw [8] (fun ev wr => ev = .int .i64 0 ∧ PIL w0 w rb ob b7 l E K d (RL E d (m :: ms) n) wr) (fun _ wr => tsl l (nxt rb wr))
  case atStart => exact ⟨rfl, HI0.out⟩
  case round =>
    clear HI0
    obtain ⟨rfl, m', ms1, p1, n1, acc, hM, hSr, hTr, hLr, hKr, hlen1, hn1, hacc, hmk, hch⟩ := hrel
    have HMES : Hid (tsl l (nxt rb wr) = ms1.length) := by rw [Hid, nxt_rs hSr, tsl_eq hTr]
    obtain ⟨kI, hk⟩ : ∃ L : Int, L = (m'.k : Int) := ⟨_, rfl⟩
    obtain ⟨aI, ha⟩ : ∃ L : Int, L = (m'.a : Int) := ⟨_, rfl⟩
    obtain ⟨bI, hb⟩ : ∃ L : Int, L = (m'.b : Int) := ⟨_, rfl⟩
    have hPr : PB b0 rb wr := HP.out.kl hb0 hKr
    have h7r : b7 < wr.heap.size := (Array.getElem?_eq_some_iff.1 hM).1
    have cP := list1_any HF.out hlen1 hSr hTr hmk hn1 hd hLr (fun b e => by rw [e]; exact h7r) hPr hb0 (by omega) hk ha hb
    rw [← hk, ← ha, ← hb] at hM
    obtain ⟨⟨y0, y1, y2, y3, y4⟩, yf⟩ := MkAt.cells hM
    have HM := Lib.hid hM
    have HKr := Lib.hid hKr
    have HCH := Lib.hid hch
    have HLM := Lib.hid hlen1
    clear hSr hTr hLr hPr hKr hM hch hk ha hb hlen1 h7r
    go_wp2_with fail
    refine cP.mono ?_; rintro en w4 ⟨f4, r4, hr4, kl4, y, p', pl', n', e, rfl, hL4, s4, hrm⟩
    have HM4 := Lib.hid (HM.out.kl hne7 kl4)
    have HKl4 := Lib.hid (HKr.out.trans kl4)
    have HL4 := Lib.hid hL4
    have HS4 := Lib.hid s4
    have HR4 := Lib.hid hr4
    have HRM := Lib.hid hrm
    clear cP y0 y1 y2 y3 y4 yf kl4 hL4 s4 hr4 hrm
    obtain ⟨eI, heI⟩ : ∃ L : Int, L = (e : Int) := ⟨_, rfl⟩
    rw [← heI]
    by_cases he : eI = 0
    · subst he
      obtain rfl : e = 0 := by omega
      clear heI
      obtain ⟨ms', h4e, hT4⟩ : ∃ ms', r4 = .ok y ms' n' ∧ TS l p' ms' E := by
        cases r4 with
        | ok x ms' n4 =>
          obtain ⟨_, h2, h3, h4⟩ := HRM.out
          exact ⟨ms', by rw [h2, h3], h4⟩
        | bad pl er => exact absurd HRM.out.1.symm HRM.out.2.1
      subst h4e
      have hgr := Rd.P_grow _ _ _ _ _ _ _ _ HR4.out
      have hpl := Rd.P_len HR4.out
      have hn8 : Hid (n' ≤ 8192) := hgr.2
      have hac8 : Hid ((acc ++ [y]).length ≤ n') := by rw [Hid, List.length_append, List.length_singleton]; omega
      have hac9 : Hid ((acc ++ [y]).length ≤ 8193) := by have := hac8.out; have := hn8.out; show (acc ++ [y]).length ≤ 8193; omega
      have cW := within_any HS4.out hT4
      have HMT4 := Lib.hid (hT4.ok HS4.out.pos)
      have HPL := Lib.hid hpl
      clear hT4 hgr hpl HRM
      rcases ms' with _ | ⟨m3, ms4⟩
      · -- no mark more
        obtain ⟨eI, heI⟩ : ∃ L : Int, L = (Rd.fe E : Int) := ⟨_, rfl⟩
        have hb : (eI != 0) = true := bne_iff_ne.2 (by have := fe_pos E; omega)
        have cW : Calls Tryz.prog 65 #[.pointer (some ⟨rb, 0, none⟩)] w4 fun en w' => en = .returned (.tuple #[.agg #[.int .u8 0, .int .i64 0, .int .i64 0, .int .i64 0, .string ⟨#[]⟩], .int .i64 eI]) ∧ Kr rb w4 w' ∧ ∃ p', RS w0 rb l w' p' E.1 n' (d + 1) := by
          rw [heI]
          exact cW
        have HE := Lib.hid heI
        clear heI
        go_wp2_with fail
        refine cW.mono ?_; rintro en w5 ⟨rfl, k5, p5, s5⟩
        obtain ⟨⟨q0, q1, q2, q3, q4⟩, qf⟩ := MkAt.cells (HM4.out.kr hne7 k5)
        have HK5 := Lib.hid k5
        have HS5 := Lib.hid s5
        clear cW k5 s5
        go_wp2_with fail
        go_ret
        exact ⟨_, HCH.out _ _ (Rd.P_l' (.cut HR4.out)), (HKl4.out.trans (.of_kr HK5.out)).lex h7w _ _ _ _ _, acc ++ [y], p5, E.1, n', Rd.fe E, by rw [HE.out]; rfl, ((HL4.out.kr HK5.out).lex rfl).less (fun _ h => h.elim), hac9.out, HS5.out.lex hw07.out hne7.symm _ _ _ _ _, rfl, fe_pos E, rfl⟩
      obtain ⟨k3, hk3⟩ : ∃ L : Int, L = ((m3.k : Nat) : Int) := ⟨_, rfl⟩
      obtain ⟨a3, ha3⟩ : ∃ L : Int, L = ((m3.a : Nat) : Int) := ⟨_, rfl⟩
      obtain ⟨b3, hb3⟩ : ∃ L : Int, L = ((m3.b : Nat) : Int) := ⟨_, rfl⟩
      have cW : Calls Tryz.prog 65 #[.pointer (some ⟨rb, 0, none⟩)] w4 fun en w' => en = .returned (.tuple #[.agg #[.int .u8 k3, .int .i64 a3, .int .i64 b3, .int .i64 m3.n, .string (S m3.t)], .int .i64 0]) ∧ Kr rb w4 w' ∧ RS w0 rb l w' m3.b m3.a n' (d + 1) ∧ TS l m3.b ms4 E := by
        rw [hk3, ha3, hb3]
        exact cW
      have HK3 := Lib.hid hk3
      clear hk3 ha3 hb3
      go_wp2_with fail
      refine cW.mono ?_; rintro en w5 ⟨rfl, k5, s5, t5⟩
      have M5 := HM4.out.kr hne7 k5
      have M6 := M5.set5 (.int .u8 k3) (.int .i64 a3) (.int .i64 b3) (.int .i64 m3.n) (.string (S m3.t))
      obtain ⟨⟨q0, q1, q2, q3, q4⟩, qf⟩ := MkAt.cells M5
      obtain ⟨⟨z0, z1, z2, z3, z4⟩, zf⟩ := MkAt.cells M6
      have HS6 := Lib.hid (s5.lex hw07.out hne7.symm (.int .u8 k3) (.int .i64 a3) (.int .i64 b3) (.int .i64 m3.n) (.string (S m3.t)))
      have HL6 := Lib.hid ((HL4.out.kr k5).lex (v0 := .int .u8 k3) (v1 := .int .i64 a3) (v2 := .int .i64 b3) (v3 := .int .i64 m3.n) (v4 := .string (S m3.t)) rfl)
      have HK6 := Lib.hid ((HKl4.out.trans (.of_kr k5)).lex h7w (.int .u8 k3) (.int .i64 a3) (.int .i64 b3) (.int .i64 m3.n) (.string (S m3.t)))
      have HT5 := Lib.hid t5
      have HM6 := Lib.hid M6
      clear cW k5 s5 t5 M5 M6
      by_cases h4 : k3 = 4
      · subst h4
        go_wp2_with fail
        go_ret
        exact ⟨_, HCH.out _ _ (Rd.P_l' (.last HR4.out (by have := HK3.out; omega))), HK6.out, acc ++ [y], m3.b, m3.a, n', 0, rfl, HL6.out.less (fun _ h => h.elim), hac9.out, HS6.out, rfl, rfl, rfl, HT5.out⟩
      by_cases h5 : k3 = 5
      · subst h5
        have hm5 : Hid (m3.k = 5) := by have := HK3.out; show m3.k = 5; omega
        obtain ⟨W6, hW6⟩ : ∃ W, W = ((((w5.setCell ⟨b7, 0, none⟩ (.int .u8 5)).setCell ⟨b7, 1, none⟩ (.int .i64 a3)).setCell ⟨b7, 2, none⟩ (.int .i64 b3)).setCell ⟨b7, 3, none⟩ (.int .i64 m3.n)).setCell ⟨b7, 4, none⟩ (.string (S m3.t)) := ⟨_, rfl⟩
        rw [← hW6] at HS6 HL6 HK6 HM6
        have cW := within_any HS6.out HT5.out
        have HMT5 := Lib.hid (HT5.out.ok HS6.out.pos)
        rcases ms4 with _ | ⟨m5, ms6⟩
        · obtain ⟨eI, heI⟩ : ∃ L : Int, L = (Rd.fe E : Int) := ⟨_, rfl⟩
          have hb : (eI != 0) = true := bne_iff_ne.2 (by have := fe_pos E; omega)
          have cW : Calls Tryz.prog 65 #[.pointer (some ⟨rb, 0, none⟩)] W6 fun en w' => en = .returned (.tuple #[.agg #[.int .u8 0, .int .i64 0, .int .i64 0, .int .i64 0, .string ⟨#[]⟩], .int .i64 eI]) ∧ Kr rb W6 w' ∧ ∃ p', RS w0 rb l w' p' E.1 n' (d + 1) := by
            rw [heI]
            exact cW
          have HE := Lib.hid heI
          clear heI
          go_wp2_with fail
          rw [← hW6]
          clear hW6 q0 q1 q2 q3 q4 qf z0 z1 z2 z3 z4 zf
          refine cW.mono ?_; rintro en w7 ⟨rfl, k7, p7, s7⟩
          obtain ⟨⟨q0, q1, q2, q3, q4⟩, qf⟩ := MkAt.cells (HM6.out.kr hne7 k7)
          have HK7 := Lib.hid k7
          have HS7 := Lib.hid s7
          clear cW k7 s7
          go_wp2_with fail
          go_ret
          exact ⟨_, HCH.out _ _ (Rd.P_l' (.next (Rd.P_more HR4.out (Nat.le_max_left f4 2)) hm5.out (Rd.P_more (g := max f4 2) (Rd.P_l' (.item (Rd.P_v' (.short _ _)))) (Nat.le_max_right f4 2)))), (HK6.out.trans (.of_kr HK7.out)).lex h7w _ _ _ _ _, acc ++ [y], p7, E.1, n', Rd.fe E, by rw [HE.out]; rfl, ((HL6.out.kr HK7.out).lex rfl).less (fun _ h => h.elim), hac9.out, HS7.out.lex hw07.out hne7.symm _ _ _ _ _, rfl, fe_pos E, rfl⟩
        · obtain ⟨k5, hk5⟩ : ∃ L : Int, L = ((m5.k : Nat) : Int) := ⟨_, rfl⟩
          obtain ⟨a5, ha5⟩ : ∃ L : Int, L = ((m5.a : Nat) : Int) := ⟨_, rfl⟩
          obtain ⟨b5, hb5⟩ : ∃ L : Int, L = ((m5.b : Nat) : Int) := ⟨_, rfl⟩
          have cW : Calls Tryz.prog 65 #[.pointer (some ⟨rb, 0, none⟩)] W6 fun en w' => en = .returned (.tuple #[.agg #[.int .u8 k5, .int .i64 a5, .int .i64 b5, .int .i64 m5.n, .string (S m5.t)], .int .i64 0]) ∧ Kr rb W6 w' ∧ RS w0 rb l w' m5.b m5.a n' (d + 1) ∧ TS l m5.b ms6 E := by
            rw [hk5, ha5, hb5]
            exact cW
          have HK5 := Lib.hid hk5
          have HA5 := Lib.hid ha5
          have HB5 := Lib.hid hb5
          clear hk5 ha5 hb5
          go_wp2_with fail
          rw [← hW6]
          clear hW6 q0 q1 q2 q3 q4 qf z0 z1 z2 z3 z4 zf
          refine cW.mono ?_; rintro en w7 ⟨rfl, k7, s7, t7⟩
          have M7 := HM6.out.kr hne7 k7
          obtain ⟨⟨q0, q1, q2, q3, q4⟩, qf⟩ := MkAt.cells M7
          have M8 := M7.set5 (.int .u8 k5) (.int .i64 a5) (.int .i64 b5) (.int .i64 m5.n) (.string (S m5.t))
          have S8 := s7.lex hw07.out hne7.symm (.int .u8 k5) (.int .i64 a5) (.int .i64 b5) (.int .i64 m5.n) (.string (S m5.t))
          have L8 := (HL6.out.kr k7).lex (v0 := .int .u8 k5) (v1 := .int .i64 a5) (v2 := .int .i64 b5) (v3 := .int .i64 m5.n) (v4 := .string (S m5.t)) rfl
          have K8 := (HK6.out.trans (.of_kr k7)).lex h7w (.int .u8 k5) (.int .i64 a5) (.int .i64 b5) (.int .i64 m5.n) (.string (S m5.t))
          obtain ⟨W8, hW8⟩ : ∃ W, W = ((((w7.setCell ⟨b7, 0, none⟩ (.int .u8 k5)).setCell ⟨b7, 1, none⟩ (.int .i64 a5)).setCell ⟨b7, 2, none⟩ (.int .i64 b5)).setCell ⟨b7, 3, none⟩ (.int .i64 m5.n)).setCell ⟨b7, 4, none⟩ (.string (S m5.t)) := ⟨_, rfl⟩
          rw [← hW8] at M8 S8 L8 K8
          have hsh : Hid (tsl l (nxt rb W8) < tsl l (nxt rb wr)) := by
            rw [Hid, HMES.out, nxt_rs S8, tsl_eq t7]
            have := HPL.out
            simp only [List.length_cons] at this
            omega
          have HI8 : Hid (PIL w0 w rb ob b7 l E K d (RL E d (m :: ms) n) W8) := by
            refine ⟨m5, ms6, m5.b, n', acc ++ [y], ?_, S8, t7, L8, K8, ?_, hn8.out, hac8.out, HMT5.out m5 List.mem_cons_self, fun f r h => HCH.out _ _ (Rd.P_l' (.next (Rd.P_more HR4.out (Nat.le_max_left f4 f)) hm5.out (Rd.P_more h (Nat.le_max_right f4 f))))⟩
            · rw [← HK5.out, ← HA5.out, ← HB5.out]
              exact M8
            · have h1 := HPL.out
              have h2 := HLM.out
              simp only [List.length_cons] at h1 h2 ⊢
              omega
          clear cW k7 s7 t7 M7 M8 S8 L8 K8
          go_wp2_with fail
          rw [← hW8]
          clear hW8 q0 q1 q2 q3 q4 qf
          go_roundw
          case rel => exact ⟨rfl, HI8.out⟩
          case measure => exact hsh.out
      · have hb4 : (k3 == 4) = false := beq_eq_false_iff_ne.2 h4
        have hb5 : (k3 != 5) = true := bne_iff_ne.2 h5
        have hh : Hid (m3.k ≠ 4 ∧ m3.k ≠ 5) := by have := HK3.out; exact ⟨by omega, by omega⟩
        clear h4 h5
        go_wp2_with fail
        go_ret
        exact ⟨_, HCH.out _ _ (Rd.P_l' (.form HR4.out hh.out.1 hh.out.2)), HK6.out, acc ++ [y], m3.b, m3.a, n', 3, rfl, HL6.out.less (fun _ h => h.elim), hac9.out, HS6.out, rfl, by decide, rfl⟩
    · have hb : (eI != 0) = true := bne_iff_ne.2 he
      have he0 : e ≠ 0 := by omega
      have HE := Lib.hid heI
      clear heI he
      obtain ⟨pl, h4e, hpl⟩ : ∃ pl, r4 = .bad pl e ∧ pl' = pl := by
        cases r4 with
        | ok x ms' n4 => exact absurd HRM.out.1 he0
        | bad pl er => exact ⟨pl, by rw [HRM.out.1], HRM.out.2.2⟩
      subst h4e
      go_wp2_with fail
      go_ret
      exact ⟨_, HCH.out _ _ (Rd.P_l' (.item HR4.out)), HKl4.out, acc ++ [y], p', pl', n', e, by rw [HE.out]; rfl, HL4.out.less (fun _ h => h.elim), by rw [List.length_append, List.length_singleton]; omega, HS4.out, rfl, he0, hpl⟩
end

section
open Go.RowKit

/-- the list, as it is told -/
theorem LI.hf {rb ob B : Nat} {X : Nat → Prop} {w : World} {acc : List JV} (h : LI rb ob X w acc) (hB : B ≤ ob) (hl : acc.length ≤ maxLen) :
    ∃ a m ca, VAt ob w (.int .u8 4) (.int .i64 0) (.string ⟨#[]⟩) (.slice none 0 0) (.slice a m ca) ∧ HF B w (.agg #[.int .u8 4, .int .i64 0, .string ⟨#[]⟩, .slice none 0 0, .slice a m ca]) (.mk 4 0 [] [] acc) := by
  obtain ⟨⟨xv, cs, h1, h2, h3, _⟩, _⟩ := h
  have h3' := HCSp.stay (Q := fun b => B ≤ b) (fun b hb _ => ⟨by have := hb.1; omega, rfl⟩) _ _ h3
  rcases own_cells h2 with ⟨e1, e2⟩ | ⟨g, cap, e1, e2, e3, _, e4, e5⟩
  · rw [e1] at h1
    refine ⟨_, _, _, h1, [.int .u8 4, .int .i64 0, .string ⟨#[]⟩, .slice none 0 0, .slice none 0 0], rfl, ?_⟩
    unfold HCp
    exact ⟨none, none, 0, 0, by rw [e2]; rfl, ⟨by omega, by omega, Nat.zero_le _, Nat.zero_le _, hl, fun x h => by simp at h⟩, .inl rfl, .inl (List.length_eq_zero_iff.1 e2)⟩
  · rw [e1] at h1
    refine ⟨_, _, _, h1, [.int .u8 4, .int .i64 0, .string ⟨#[]⟩, .slice none 0 0, .slice (some ⟨g, 0, none⟩) acc.length cap], rfl, ?_⟩
    unfold HCp
    exact ⟨none, _, 0, cap, rfl, ⟨by omega, by omega, Nat.zero_le _, Nat.zero_le _, hl, fun x h => by simp at h⟩, .inl rfl, .inr ⟨g, 0, rfl, by omega, HIp.of_cells e5 h3' fun j c hj => by rw [Nat.zero_add]; exact e4 j c hj⟩⟩
theorem HF.stay {B B' : Nat} {w w' : World} {u : Value} {x : JV} (h : HF B w u x) (hs : ∀ b, B ≤ b → b < w.heap.size → B' ≤ b ∧ w'.heap[b]? = w.heap[b]?) : HF B' w' u x := by
  obtain ⟨cs, e, h⟩ := h
  exact ⟨cs, e, HCp.stay (fun b hb hl => hs b hb hl) _ _ h⟩
/-- what list and object tell -/
def NRes (w0 : World) (rb : Nat) (l : List UInt8) (E : Nat × Nat) (d : Nat) (w : World) (r : Rd.Res) (en : Ending) (w' : World) : Prop :=
  Kr rb w w' ∧ ∃ (u : Value) (y : JV) (p' pl' n' e : Nat), en = .returned (.tuple #[u, .int .i64 (e : Int)]) ∧ HF w.heap.size w' u y ∧ RS w0 rb l w' p' pl' n' (d + 1) ∧ RM l E p' pl' n' e y r
theorem Kr.of_kl {rb ob : Nat} {w W w' : World} (h : Below w.heap.size w W) (hob : w.heap.size ≤ ob) (k : Kl rb ob W w') : Kr rb w w' :=
  ⟨k.os.trans h.os, k.tape.trans h.tape, k.output.trans h.output, Nat.le_trans h.size k.size, fun b hb hn => (k.low b (by omega) hn (Nat.lt_of_lt_of_le hb h.size)).trans (h.block b hb)⟩
set_option maxHeartbeats 2000000 in
set_option maxRecDepth 5000 in
theorem list_any {w0 w : World} {rb : Nat} {l : List UInt8} {E : Nat × Nat} {K : Nat} (hF : FromOK w0 rb l E K) {ms : List Lm.Mark} {p pl n d : Nat} (hlen : ms.length ≤ K) (hS : RS w0 rb l w p pl n (d + 1)) (hT : TS l p ms E) (hn : n ≤ 8192) (hd : d + 1 ≤ 12) :
    Calls Tryz.prog 82 #[.pointer (some ⟨rb, 0, none⟩)] w fun en w' => ∃ r, RL E d ms n r ∧ NRes w0 rb l E d w r en w' := by
  obtain ⟨b0, hb0⟩ : ∃ b, b = w.heap.size := ⟨_, rfl⟩
  obtain ⟨W1, hW1⟩ : ∃ W, W = w.alloc (.cells #[.pointer (some ⟨rb, 0, none⟩)] 84) := ⟨_, rfl⟩
  obtain ⟨W2, hW2⟩ : ∃ W, W = W1.alloc (.cells V5 26) := ⟨_, rfl⟩
  obtain ⟨W3, hW3⟩ : ∃ W, W = W2.alloc (.cells #[.int .u8 4, .int .i64 0, .string ⟨#[]⟩, .slice none 0 0, .slice none 0 0] 26) := ⟨_, rfl⟩
  have s1 : W1.heap.size = b0 + 1 := by rw [hW1, hb0]; simp
  have s2 : W2.heap.size = b0 + 2 := by rw [hW2]; simp [s1]
  have s3 : W3.heap.size = b0 + 3 := by rw [hW3]; simp [s2]
  have g1 : Below w.heap.size w W1 := by rw [hW1]; exact (Below.refl _ _).alloc (Nat.le_refl _) _
  have g2 : Below w.heap.size w W2 := by rw [hW2]; exact g1.alloc (by rw [s1]; omega) _
  have g3 : Below w.heap.size w W3 := by rw [hW3]; exact g2.alloc (by rw [s2]; omega) _
  have q2 : Below (b0 + 1) W1 W2 := by rw [hW2, ← s1]; exact (Below.refl _ _).alloc (Nat.le_refl _) _
  have q3 : Below (b0 + 1) W1 W3 := by rw [hW3]; exact q2.alloc (by rw [s2]; omega) _
  have P1 : PB b0 rb W1 := by rw [hW1, hb0]; exact heap_alloc_new ..
  have P3 : PB b0 rb W3 := (q3.block b0 (by omega)).trans P1
  have q23 : Below (b0 + 2) W2 W3 := by rw [hW3, ← s2]; exact (Below.refl _ _).alloc (Nat.le_refl _) _
  have V2 : VAt (b0 + 1) W2 (.int .u8 0) (.int .i64 0) (.string ⟨#[]⟩) (.slice none 0 0) (.slice none 0 0) := by rw [hW2, ← s1]; exact heap_alloc_new ..
  have V2' : VAt (b0 + 1) W3 (.int .u8 0) (.int .i64 0) (.string ⟨#[]⟩) (.slice none 0 0) (.slice none 0 0) := (q23.block (b0 + 1) (by omega)).trans V2
  have V3 : VAt (b0 + 2) W3 (.int .u8 4) (.int .i64 0) (.string ⟨#[]⟩) (.slice none 0 0) (.slice none 0 0) := by rw [hW3, ← s2]; exact VAt.new ..
  have hrb : rb < b0 := by have := hS.lt; omega
  have L3 : LI rb (b0 + 2) (fun _ => False) W3 [] := ⟨⟨.slice none 0 0, [], V3, World.ownsRow_nil ..,  HCSp.nil _ _, fun _ h => h.elim⟩, by omega⟩
  have hw0 : Hid (w0.heap.size ≤ b0) := by rw [hb0]; exact hS.below.size
  have cP := parts_list hF hlen (hS.grow g3) hT hn hd L3 P3 (by omega)
  have HV2 := Lib.hid V2'
  have HG3 := Lib.hid g3
  have HB0 := Lib.hid hb0
  have HS3 := Lib.hid s3
  have pc1 := P1.cell
  have pc3 := P3.cell
  clear g1 g2 g3 q2 q3 P1 P3 q23 V2 V2' V3 L3 hS hT hF hlen s1 s2 s3
  rw [show V5 = #[.int .u8 0, .int .i64 0, .string ⟨#[]⟩, .slice none 0 0, .slice none 0 0] from rfl] at hW2
  go_enter Tryz.func82, Tryz.ntmps82
  go_wp2_with fail
  rw [← hW1, ← hW2, ← hW3, ← hb0, show b0 + 1 + 1 = b0 + 2 from rfl]
  clear hW1 hW2 hW3 pc1 pc3 hb0
  refine cP.mono ?_; rintro en w4 ⟨r, hR, k4, acc, p', pl', n', e, rfl, hL, hacc, s4, hrm⟩
  obtain ⟨xa, xm, xc, hV, hHF⟩ := hL.hf (B := b0 + 2) (Nat.le_refl _) (by unfold maxLen; omega)
  have v4 : VAt (b0 + 1) w4 (.int .u8 0) (.int .i64 0) (.string ⟨#[]⟩) (.slice none 0 0) (.slice none 0 0) := (k4.low (b0 + 1) (by omega) (by omega) (by rw [HS3.out]; omega)).trans HV2.out
  have HKr := Lib.hid (Kr.of_kl HG3.out (by rw [← HB0.out]; omega) k4)
  have HR := Lib.hid hR
  have HH := Lib.hid hHF
  have HS4 := Lib.hid s4
  have HRM := Lib.hid hrm
  have HV4 := Lib.hid v4
  obtain ⟨⟨q0, q1, q2, q3, q4⟩, qf⟩ := VAt.cells hV
  obtain ⟨⟨y0, y1, y2, y3, y4⟩, yf⟩ := VAt.cells v4
  clear cP hR k4 hL hacc s4 hrm hHF hV v4
  go_wp2_with fail
  refine bodyPost_ret (results_val (fn := Tryz.f82) (t := 2) (u := 3) rfl _ _ rfl (HV4.out.set5 _ _ _ _ _) rfl) rfl ?_
  have hk : w.heap.size ≤ b0 + 1 := by rw [← HB0.out]; omega
  refine ⟨r, HR.out, ((((HKr.out.put hk _ _).put hk _ _).put hk _ _).put hk _ _).put hk _ _, _, _, p', pl', n', e, rfl, ?_, HS4.out.lex (by have := hw0.out; omega) (by omega) _ _ _ _ _, HRM.out⟩
  exact HH.out.stay fun b hb _ => ⟨by omega, mk5_other w4 (b0 + 1) b (by omega) _ _ _ _ _⟩
end

section
open Go.RowKit

theorem RS.deep {w0 w : World} {rb : Nat} {l : List UInt8} {p pl n d : Nat} (h : RS w0 rb l w p pl n d) (q : Nat) : RS w0 rb l (w.setCell ⟨rb, 4, none⟩ (.int .i64 (q : Int))) p pl n q :=
  ⟨h.tab, h.below.setCell (p := ⟨rb, 4, none⟩) h.at0 _, h.at0, heap_setCell_same w rb 4 _ _ _ h.at', h.len, h.pos⟩
theorem RS.count {w0 w : World} {rb : Nat} {l : List UInt8} {p pl n d : Nat} (h : RS w0 rb l w p pl n d) (q : Nat) : RS w0 rb l (w.setCell ⟨rb, 3, none⟩ (.int .i64 (q : Int))) p pl q d :=
  ⟨h.tab, h.below.setCell (p := ⟨rb, 3, none⟩) h.at0 _, h.at0, heap_setCell_same w rb 3 _ _ _ h.at', h.len, h.pos⟩
theorem HF.zero (B : Nat) (w : World) : HF B w (.agg #[.int .u8 0, .int .i64 0, .string ⟨#[]⟩, .slice none 0 0, .slice none 0 0]) (.mk 0 0 [] [] []) :=
  ⟨_, rfl, HCp.bare _ _ 0 0 [] (by omega) (by omega) (Nat.zero_le _)⟩
theorem HF.open' {B : Nat} {w : World} {u : Value} {x : JV} (h : HF B w u x) : ∃ (kI nI : Int) (t : ByteArray) (a b : Option Addr) (i j ca cb : Nat), u = .agg #[.int .u8 kI, .int .i64 nI, .string t, .slice a i ca, .slice b j cb] := by
  obtain ⟨cs, rfl, h⟩ := h
  obtain ⟨a, b, ca, cb, rfl, _⟩ := h.one
  exact ⟨_, _, _, _, _, _, _, _, _, rfl⟩
set_option maxHeartbeats 2000000 in
set_option maxRecDepth 5000 in
theorem nested_any {w0 w : World} {rb F : Nat} {l : List UInt8} {E : Nat × Nat} {Q : Rd.Res → Prop} {p pl n d : Nat} (hS : RS w0 rb l w p pl n d) (hd : d ≤ 12) (hF : F = 82 ∨ F = 83)
    (hN : d < 12 → ∀ W, RS w0 rb l W p pl n (d + 1) → Calls Tryz.prog F #[.pointer (some ⟨rb, 0, none⟩)] W fun en w' => ∃ r, Q r ∧ NRes w0 rb l E d W r en w') :
    Calls Tryz.prog 81 #[.pointer (some ⟨rb, 0, none⟩), .func (.func F) #[.pointer (some ⟨rb, 0, none⟩)] #[]] w fun en w' => ∃ r, ((d = 12 ∧ r = .bad pl 8) ∨ (d < 12 ∧ Q r)) ∧ FRes w0 rb l E d w r en w' := by
  obtain ⟨b0, hb0⟩ : ∃ b, b = w.heap.size := ⟨_, rfl⟩
  obtain ⟨W1, hW1⟩ : ∃ W, W = w.alloc (.cells #[.int .u8 0, .int .i64 0, .string ⟨#[]⟩, .slice none 0 0, .slice none 0 0] 26) := ⟨_, rfl⟩
  have g1 : Below w.heap.size w W1 := by rw [hW1]; exact (Below.refl _ _).alloc (Nat.le_refl _) _
  have V1 : VAt b0 W1 (.int .u8 0) (.int .i64 0) (.string ⟨#[]⟩) (.slice none 0 0) (.slice none 0 0) := by rw [hW1, hb0]; exact VAt.new ..
  have S1 := hS.grow g1
  have hrb : rb < b0 := by have := hS.lt; omega
  have hw0 : Hid (w0.heap.size ≤ b0) := by rw [hb0]; exact hS.below.size
  obtain ⟨⟨r0, r1, r2, r3, r4⟩, rf⟩ := row5_cells S1.at'
  have s1 : Hid (W1.heap.size = b0 + 1) := by rw [hW1, hb0]; simp [Hid]
  obtain ⟨dI, hdI⟩ : ∃ z : Int, z = (d : Int) := ⟨_, rfl⟩
  rw [← hdI] at r4
  have HD := Lib.hid hdI
  have HS1 := Lib.hid S1
  have HG1 := Lib.hid g1
  have HB0 := Lib.hid hb0
  have HV1 := Lib.hid V1
  have HN := Lib.hid hN
  obtain ⟨⟨q0, q1, q2, q3, q4⟩, qf⟩ := VAt.cells V1
  clear hdI S1 g1 V1 hN hS r0 r1 r2 r3
  by_cases h12 : dI = 12
  · subst h12
    clear hF
    have hd12 : Hid (d = 12) := by have := HD.out; show d = 12; omega
    rw [hW1] at r4 rf q0 q1 q2 q3 q4 qf
    rw [hb0] at q0 q1 q2 q3 q4 qf
    go_enter Tryz.func81, Tryz.ntmps81
    go_wp2_with fail
    rw [← hW1, ← hb0]
    refine bodyPost_ret (results_val (fn := Tryz.f81) (t := 4) (u := 5) rfl _ _ rfl HV1.out rfl) rfl ?_
    exact ⟨_, .inl ⟨hd12.out, rfl⟩, Kr.of_below HG1.out, _, .mk 0 0 [] [] [], p, pl, n, 8, rfl, HF.zero _ _, HS1.out, rfl, by decide, rfl⟩
  · have h12b : (dI == 12) = false := beq_eq_false_iff_ne.2 h12
    have hlt : Hid (d < 12) := by have := HD.out; show d < 12; omega
    obtain ⟨eI, heI⟩ : ∃ z : Int, z = ((d + 1 : Nat) : Int) := ⟨_, rfl⟩
    have hw1 : wrap64 (dI + 1) = eI := by
      have := HD.out
      have := hlt.out
      unfold wrap64
      omega
    obtain ⟨W2, hW2⟩ : ∃ W, W = W1.setCell ⟨rb, 4, none⟩ (.int .i64 eI) := ⟨_, rfl⟩
    have S2 : RS w0 rb l W2 p pl n (d + 1) := by rw [hW2, heI]; exact HS1.out.deep _
    have cN := HN.out hlt.out W2 S2
    have V2 : VAt b0 W2 (.int .u8 0) (.int .i64 0) (.string ⟨#[]⟩) (.slice none 0 0) (.slice none 0 0) := by rw [hW2]; exact (heap_setCell_other W1 ⟨rb, 4, none⟩ b0 _ (by show b0 ≠ rb; omega)).trans HV1.out
    have k2 : Kr rb w W2 := by rw [hW2]; exact (Kr.of_below HG1.out).set 4 _
    have HK2 := Lib.hid k2
    have HV2 := Lib.hid V2
    have HE := Lib.hid heI
    clear S2 V2 k2 heI h12 hb0
    rcases hF with rfl | rfl
    all_goals
      rw [hW1] at r4 rf
      go_enter Tryz.func81, Tryz.ntmps81
      go_wp2_with fail
      rw [← hW1, ← hW2, ← HB0.out]
      refine cN.mono ?_; rintro en w3 ⟨r, hQ, k3, u, y, p', pl', n', e, rfl, hu, s3, hrm⟩
      obtain ⟨kI, nI, t, a, b, i, j, ca, cb, rfl⟩ := hu.open'
      obtain ⟨W4, hW4⟩ : ∃ W, W = w3.alloc (.cells #[.int .u8 kI, .int .i64 nI, .string t, .slice a i ca, .slice b j cb] 26) := ⟨_, rfl⟩
      have g4 : Below w3.heap.size w3 W4 := by rw [hW4]; exact (Below.refl _ _).alloc (Nat.le_refl _) _
      have S4 := s3.grow g4
      have HK4 := Lib.hid ((HK2.out.trans k3).trans (Kr.of_below g4))
      have HQ := Lib.hid hQ
      have HRM := Lib.hid hrm
      have HS4 := Lib.hid S4
      have hw2 : wrap64 (eI - 1) = dI := by
        have := HE.out
        have := HD.out
        have := hlt.out
        unfold wrap64
        omega
      obtain ⟨b6, hb6⟩ : ∃ z, z = w3.heap.size := ⟨_, rfl⟩
      have V6 : VAt b6 W4 (.int .u8 kI) (.int .i64 nI) (.string t) (.slice a i ca) (.slice b j cb) := by rw [hW4, hb6]; exact VAt.new ..
      have h06 : b0 + 1 ≤ b6 := by rw [hb6]; have := k3.size; have := HK2.out.size; have := HV2.out; have h := (Array.getElem?_eq_some_iff.1 HV2.out).1; omega
      have V4 : VAt b0 W4 (.int .u8 0) (.int .i64 0) (.string ⟨#[]⟩) (.slice none 0 0) (.slice none 0 0) := (g4.block b0 (by omega)).trans ((k3.block b0 (Array.getElem?_eq_some_iff.1 HV2.out).1 (by omega)).trans HV2.out)
      obtain ⟨W5, hW5⟩ : ∃ W, W = W4.setCell ⟨rb, 4, none⟩ (.int .i64 dI) := ⟨_, rfl⟩
      have S5 : RS w0 rb l W5 p' pl' n' d := by rw [hW5, HD.out]; exact S4.deep _
      have V7 : VAt b6 W5 (.int .u8 kI) (.int .i64 nI) (.string t) (.slice a i ca) (.slice b j cb) := by rw [hW5]; exact (heap_setCell_other W4 ⟨rb, 4, none⟩ b6 _ (by show b6 ≠ rb; omega)).trans V6
      have V5' : VAt b0 W5 (.int .u8 0) (.int .i64 0) (.string ⟨#[]⟩) (.slice none 0 0) (.slice none 0 0) := by rw [hW5]; exact (heap_setCell_other W4 ⟨rb, 4, none⟩ b0 _ (by show b0 ≠ rb; omega)).trans V4
      have HF5 : Hid (HF (b0 + 1) W5 (.agg #[.int .u8 kI, .int .i64 nI, .string t, .slice a i ca, .slice b j cb]) y) := by
        refine hu.stay fun q hq hl => ⟨?_, ?_⟩
        · have := (Array.getElem?_eq_some_iff.1 HV2.out).1; omega
        · have := (Array.getElem?_eq_some_iff.1 HV2.out).1
          rw [hW5]
          exact (heap_setCell_other W4 ⟨rb, 4, none⟩ q _ (by show q ≠ rb; omega)).trans (g4.block q hl)
      have HS5 := Lib.hid S5
      have HV5 := Lib.hid V5'
      have HK5 : Hid (Kr rb w W5) := by rw [hW5]; exact HK4.out.set 4 _
      obtain ⟨⟨r0, r1, r2, r3, r4⟩, rf⟩ := row5_cells S4.at'
      rw [← HE.out] at r4
      obtain ⟨⟨q0, q1, q2, q3, q4⟩, qf⟩ := VAt.cells V5'
      obtain ⟨⟨y0, y1, y2, y3, y4⟩, yf⟩ := VAt.cells V7
      clear cN hQ k3 hu s3 hrm g4 S4 V6 V4 S5 V7 V5' r0 r1 r2 r3 hW1 hW2 hw1 h12b
      rw [hW4] at r4 rf
      rw [hW5, hW4] at q0 q1 q2 q3 q4 qf y0 y1 y2 y3 y4 yf
      rw [hb6] at y0 y1 y2 y3 y4 yf
      go_wp2_with fail
      rw [← hW4, ← hW5]
      refine bodyPost_ret (results_val (fn := Tryz.f81) (t := 4) (u := 5) rfl _ _ rfl (HV5.out.set5 _ _ _ _ _) rfl) rfl ?_
      have hk : w.heap.size ≤ b0 := by rw [← HB0.out]; exact Nat.le_refl _
      have hk0 : w0.heap.size ≤ b0 := hw0.out
      exact ⟨r, .inr ⟨hlt.out, HQ.out⟩, ((((HK5.out.put hk _ _).put hk _ _).put hk _ _).put hk _ _).put hk _ _, _, y, p', pl', n', e, rfl, HF5.out.stay (fun b hb _ => ⟨by omega, mk5_other W5 b0 b (by omega) _ _ _ _ _⟩), HS5.out.lex hk0 (by omega) _ _ _ _ _, HRM.out⟩
end

section
open Go.RowKit

theorem VAt.kr {b rb : Nat} {w w' : World} {c0 c1 c2 c3 c4 : Value} (h : VAt b w c0 c1 c2 c3 c4) (hne : b ≠ rb) (k : Kr rb w w') : VAt b w' c0 c1 c2 c3 c4 := (k.block _ (Array.getElem?_eq_some_iff.1 h).1 hne).trans h
theorem Kr.five {rb b : Nat} {w w' : World} (h : Kr rb w w') (hb : w.heap.size ≤ b) (v0 v1 v2 v3 v4 : Value) : Kr rb w (((((w'.setCell ⟨b, 0, none⟩ v0).setCell ⟨b, 1, none⟩ v1).setCell ⟨b, 2, none⟩ v2).setCell ⟨b, 3, none⟩ v3).setCell ⟨b, 4, none⟩ v4) := h.lex hb _ _ _ _ _
set_option maxHeartbeats 2000000 in
set_option maxRecDepth 5000 in
theorem rvalue_any {w0 w : World} {rb : Nat} {l : List UInt8} {E : Nat × Nat} {K : Nat} (hF : FromOK w0 rb l E K) {ms : List Lm.Mark} {p pl n d : Nat} (hlen : ms.length ≤ K) (hS : RS w0 rb l w p pl n d) (hT : TS l p ms E) (hn : n ≤ 8192) (hd : d ≤ 12) :
    Calls Tryz.prog 50 #[.pointer (some ⟨rb, 0, none⟩)] w fun en w' => ∃ f r, Rd.P E f .v ms n d = some r ∧ FRes w0 rb l E d w r en w' := by
  obtain ⟨b0, hb0⟩ : ∃ b, b = w.heap.size := ⟨_, rfl⟩
  obtain ⟨W1, hW1⟩ : ∃ W, W = w.alloc (.cells #[.int .u8 0, .int .i64 0, .string ⟨#[]⟩, .slice none 0 0, .slice none 0 0] 26) := ⟨_, rfl⟩
  have g1 : Below w.heap.size w W1 := by rw [hW1]; exact (Below.refl _ _).alloc (Nat.le_refl _) _
  have V1 : VAt b0 W1 (.int .u8 0) (.int .i64 0) (.string ⟨#[]⟩) (.slice none 0 0) (.slice none 0 0) := by rw [hW1, hb0]; exact VAt.new ..
  have S1 := hS.grow g1
  have hrb : rb < b0 := by have := hS.lt; omega
  have hw0 : Hid (w0.heap.size ≤ b0) := by rw [hb0]; exact hS.below.size
  have hne : b0 ≠ rb := by omega
  have cW := within_any S1 hT
  have HG1 := Lib.hid g1
  have HB0 := Lib.hid hb0
  have HV1 := Lib.hid V1
  have HFF := Lib.hid hF
  have HLEN := Lib.hid hlen
  have HMT := Lib.hid (hT.ok S1.pos)
  clear S1 g1 V1 hS hF hlen hT
  rcases ms with _ | ⟨m, ms⟩
  · obtain ⟨eI, heI⟩ : ∃ L : Int, L = (Rd.fe E : Int) := ⟨_, rfl⟩
    have hb : (eI != 0) = true := bne_iff_ne.2 (by have := fe_pos E; omega)
    have cW : Calls Tryz.prog 65 #[.pointer (some ⟨rb, 0, none⟩)] W1 fun en w' => en = .returned (.tuple #[.agg #[.int .u8 0, .int .i64 0, .int .i64 0, .int .i64 0, .string ⟨#[]⟩], .int .i64 eI]) ∧ Kr rb W1 w' ∧ ∃ p', RS w0 rb l w' p' E.1 n d := by
      rw [heI]
      exact cW
    have HE := Lib.hid heI
    clear heI
    go_enter Tryz.func50, Tryz.ntmps50
    go_wp2_with fail
    rw [← hW1, ← hb0]
    clear hW1 hb0
    refine cW.mono ?_; rintro en w2 ⟨rfl, k2, p', s2⟩
    obtain ⟨W3, hW3⟩ : ∃ W, W = w2.alloc (.cells #[.int .u8 0, .int .i64 0, .int .i64 0, .int .i64 0, .string ⟨#[]⟩] 85) := ⟨_, rfl⟩
    have b3 : Below w2.heap.size w2 W3 := by rw [hW3]; exact (Below.refl _ _).alloc (Nat.le_refl _) _
    have V3 := (HV1.out.kr hne k2).kr hne (Kr.of_below b3)
    have HV3 := Lib.hid V3
    have HK := Lib.hid (((Kr.of_below HG1.out).trans k2).trans (Kr.of_below b3))
    have HS3 := Lib.hid (s2.grow b3)
    obtain ⟨⟨q0, q1, q2, q3, q4⟩, qf⟩ := VAt.cells V3
    rw [hW3] at q0 q1 q2 q3 q4 qf
    clear cW k2 s2 b3 V3
    go_wp2_with fail
    rw [← hW3]
    refine bodyPost_ret (results_val (fn := Tryz.f50) (t := 2) (u := 3) rfl _ _ rfl (HV3.out.set5 _ _ _ _ _) rfl) rfl ?_
    exact ⟨1, _, Rd.P_v' (.short _ _), HK.out.five (by rw [← HB0.out]; omega) _ _ _ _ _, _, .mk 0 0 [] [] [], p', E.1, n, Rd.fe E, by rw [HE.out]; rfl, HF.zero _ _, HS3.out.lex hw0.out (by omega) _ _ _ _ _, rfl, fe_pos E, rfl⟩
  · obtain ⟨kI, hkI⟩ : ∃ L : Int, L = ((m.k : Nat) : Int) := ⟨_, rfl⟩
    obtain ⟨aI, haI⟩ : ∃ L : Int, L = ((m.a : Nat) : Int) := ⟨_, rfl⟩
    obtain ⟨bI, hbI⟩ : ∃ L : Int, L = ((m.b : Nat) : Int) := ⟨_, rfl⟩
    have cW : Calls Tryz.prog 65 #[.pointer (some ⟨rb, 0, none⟩)] W1 fun en w' => en = .returned (.tuple #[.agg #[.int .u8 kI, .int .i64 aI, .int .i64 bI, .int .i64 m.n, .string (S m.t)], .int .i64 0]) ∧ Kr rb W1 w' ∧ RS w0 rb l w' m.b m.a n d ∧ TS l m.b ms E := by
      rw [hkI, haI, hbI]
      exact cW
    have HKI := Lib.hid hkI
    have HAI := Lib.hid haI
    have HBI := Lib.hid hbI
    clear hkI haI hbI
    go_enter Tryz.func50, Tryz.ntmps50
    go_wp2_with fail
    rw [← hW1, ← hb0]
    clear hW1 hb0
    refine cW.mono ?_; rintro en w2 ⟨rfl, k2, s2, t2⟩
    obtain ⟨W3, hW3⟩ : ∃ W, W = w2.alloc (.cells #[.int .u8 kI, .int .i64 aI, .int .i64 bI, .int .i64 m.n, .string (S m.t)] 85) := ⟨_, rfl⟩
    have b3 : Below w2.heap.size w2 W3 := by rw [hW3]; exact (Below.refl _ _).alloc (Nat.le_refl _) _
    have M3 : MkAt w2.heap.size W3 (.int .u8 kI) (.int .i64 aI) (.int .i64 bI) (.int .i64 m.n) (.string (S m.t)) := by rw [hW3]; exact MkAt.new ..
    have V3 := (HV1.out.kr hne k2).kr hne (Kr.of_below b3)
    have HV3 := Lib.hid V3
    have HK := Lib.hid (((Kr.of_below HG1.out).trans k2).trans (Kr.of_below b3))
    have S3 := s2.grow b3
    have cF := HFF.out m ms W3 m.b n d kI aI bI HLEN.out S3 t2 (HMT.out m List.mem_cons_self) hn hd HKI.out HAI.out HBI.out
    obtain ⟨⟨y0, y1, y2, y3, y4⟩, yf⟩ := MkAt.cells M3
    rw [hW3] at y0 y1 y2 y3 y4 yf
    clear cW k2 s2 t2 b3 V3 M3 S3
    go_wp2_with fail
    rw [← hW3]
    clear hW3 y0 y1 y2 y3 y4 yf
    refine cF.mono ?_; rintro en w4 ⟨f, r, hP, k4, u, y, p', pl', n', e, rfl, hu, s4, hr⟩
    obtain ⟨uk, un, ut, ua, ub, ui, uj, uca, ucb, rfl⟩ := hu.open'
    have V4 := HV3.out.kr hne k4
    have HV4 := Lib.hid V4
    obtain ⟨⟨q0, q1, q2, q3, q4⟩, qf⟩ := VAt.cells V4
    have h3 : b0 < W3.heap.size := (Array.getElem?_eq_some_iff.1 HV3.out).1
    have HH := Lib.hid hu
    have HK4 := Lib.hid (HK.out.trans k4)
    have HS4 := Lib.hid s4
    have HR := Lib.hid hr
    have HP := Lib.hid hP
    clear cF hP k4 hu s4 hr V4
    go_wp2_with fail
    refine bodyPost_ret (results_val (fn := Tryz.f50) (t := 2) (u := 3) rfl _ _ rfl (HV4.out.set5 _ _ _ _ _) rfl) rfl ?_
    exact ⟨f, r, HP.out, HK4.out.five (by rw [← HB0.out]; omega) _ _ _ _ _, _, y, p', pl', n', e, rfl, HH.out.stay (fun b hb _ => ⟨by rw [← HB0.out]; omega, mk5_other w4 b0 b (by omega) _ _ _ _ _⟩), HS4.out.lex hw0.out (by omega) _ _ _ _ _, HR.out⟩
end

section
open Go.RowKit Go.Maps

/-- a value's cells, held as they are -/
def RV (v : Value) : Option (DataW Value × List MemPlace) := some (.held v, [])
def ME : List (List UInt8) → List Value → List (Lit × DataW Value)
  | n :: ns, v :: vs => (.string n, .held v) :: ME ns vs
  | _, _ => []
def insV (l : List UInt8) (y : Value) : List (List UInt8) → List Value → List Value
  | x :: xs, z :: zs => if Jn.lt x l = true then z :: insV l y xs zs else y :: z :: zs
  | _, zs => y :: zs
theorem insV_len {l : List UInt8} {y : Value} : ∀ (ns : List (List UInt8)) (vs : List Value), ns.length = vs.length → (insV l y ns vs).length = vs.length + 1
  | [], [], _ => rfl
  | x :: xs, z :: zs, h => by
    rw [insV]
    split
    · rw [List.length_cons, insV_len xs zs (by simpa using h), List.length_cons]
    · rfl
theorem before_lt : ∀ x y : List UInt8, bytesBefore x y = Jn.lt x y
  | [], [] => rfl
  | [], _ :: _ => rfl
  | _ :: _, [] => rfl
  | a :: x, b :: y => by
    unfold Jn.lt
    rw [bytesBefore, Op.bytesLess, before_lt x y]
    rfl
theorem lt_asymm {x y : List UInt8} (h : Jn.lt x y = true) : Jn.lt y x = false := by
  by_cases h2 : Jn.lt y x = true
  · have := Rd.lt_tr h h2
    rw [Jn.lt_irrefl] at this
    cases this
  · simpa using h2
theorem ME_insert {l : List UInt8} {v : Value} : ∀ (ns : List (List UInt8)) (vs : List Value), ns.length = vs.length → l ∉ ns → DataW.insert (.string l, .held v) (ME ns vs) = ME (Rd.insN l ns) (insV l v ns vs)
  | [], [], _, _ => rfl
  | x :: xs, z :: zs, h, hn => by
    rw [List.mem_cons, not_or] at hn
    rw [ME, DataW.insert, Rd.insN, insV]
    show (if bytesBefore l x = true then _ else _) = _
    rw [before_lt]
    by_cases hlt : Jn.lt x l = true
    · rw [if_pos hlt, if_pos hlt, if_neg (by rw [lt_asymm hlt]; simp), ME, ME_insert xs zs (by simpa using h) hn.2]
    · rw [if_neg hlt, if_neg hlt, if_pos (Rd.lt_or hlt (fun e => hn.1 e.symm)), ME, ME]
theorem ME_filter {l : List UInt8} : ∀ (ns : List (List UInt8)) (vs : List Value), l ∉ ns → (ME ns vs).filter (fun p => !p.1.sameKey (.string l)) = ME ns vs
  | [], _, _ => by unfold ME; rfl
  | _ :: _, [], _ => by unfold ME; rfl
  | x :: xs, z :: zs, hn => by
    rw [List.mem_cons, not_or] at hn
    rw [ME, List.filter_cons, ME_filter xs zs hn.2]
    have : (Lit.string x).sameKey (.string l) = false := beq_eq_false_iff_ne.2 (fun e => hn.1 e.symm)
    rw [this]
    rfl
theorem ME_put {l : List UInt8} {v : Value} {ns : List (List UInt8)} {vs : List Value} (h : ns.length = vs.length) (hn : l ∉ ns) : (DataW.map (ME ns vs)).put (.string l) (.held v) = .map (ME (Rd.insN l ns) (insV l v ns vs)) := by
  unfold DataW.put
  rw [← ME_insert ns vs h hn]
  show DataW.map _ = _
  rw [ME_filter ns vs hn]
theorem ME_has {l : List UInt8} : ∀ (ns : List (List UInt8)) (vs : List Value), ns.length = vs.length → Maps.has (.map (ME ns vs)) (.string l) = decide (l ∈ ns)
  | [], [], _ => by simp [Maps.has, ME]
  | x :: xs, z :: zs, h => by
    have ih := ME_has (l := l) xs zs (by simpa using h)
    unfold Maps.has at ih ⊢
    simp only at ih ⊢
    rw [ME, List.any_cons, ih]
    by_cases e : x = l
    · subst e
      simp [Lit.sameKey]
    · have : (Lit.string x).sameKey (.string l) = false := beq_eq_false_iff_ne.2 e
      simp only [this, Bool.false_or, List.mem_cons]
      have he : ¬ l = x := fun e' => e e'.symm
      simp [he]
theorem ME_at {l : List UInt8} {zd : DataW Value} : ∀ (ns : List (List UInt8)) (vs : List Value) (i : Nat) (v : Value), ns.length = vs.length → ns.Nodup → ns[i]? = some l → vs[i]? = some v → (DataW.map (ME ns vs)).atKey (.string l) zd = .held v
  | [], _, i, v, _, _, h, _ => by simp at h
  | x :: xs, [], _, _, h, _, _, _ => by simp at h
  | x :: xs, z :: zs, 0, v, h, hd, h1, h2 => by
    simp at h1 h2
    subst h1 h2
    unfold DataW.atKey
    simp only [ME, List.find?_cons]
    have : (Lit.string x).sameKey (.string x) = true := beq_self_eq_true _
    rw [this]
  | x :: xs, z :: zs, i + 1, v, h, hd, h1, h2 => by
    obtain ⟨d1, d2⟩ := List.nodup_cons.1 hd
    have ih := ME_at (zd := zd) xs zs i v (by simpa using h) d2 (by simpa using h1) (by simpa using h2)
    unfold DataW.atKey at ih ⊢
    simp only [ME, List.find?_cons] at ih ⊢
    have hx : x ≠ l := fun e => d1 (e ▸ List.mem_of_getElem? (by simpa using h1))
    have : (Lit.string x).sameKey (.string l) = false := beq_eq_false_iff_ne.2 hx
    rw [this]
    exact ih
theorem ME_keys : ∀ (ns : List (List UInt8)) (vs : List Value), ns.length = vs.length → strKeys (.map (ME ns vs)) = ns
  | [], [], _ => rfl
  | x :: xs, z :: zs, h => by
    have ih := ME_keys xs zs (by simpa using h)
    unfold strKeys at ih ⊢
    simp only at ih ⊢
    rw [ME, List.map_cons, ih]
    rfl
theorem ME_size (ns : List (List UInt8)) (vs : List Value) (h : ns.length = vs.length) : Maps.size (.map (ME ns vs)) = ns.length := by
  have := congrArg List.length (ME_keys ns vs h)
  unfold strKeys at this
  rw [List.length_map] at this
  exact this
theorem rise_le {x y : List UInt8} (h : Jn.lt x y = true) : leB x y = true := by
  unfold Jn.lt at h
  rw [bytesLess_eq] at h
  exact decide_eq_true (List.le_of_lt (of_decide_eq_true h))
theorem rise_nodup {ns : List (List UInt8)} (h : Rd.Rise ns) : ns.Nodup := h.imp fun h e => by subst e; rw [Jn.lt_irrefl] at h; cases h
theorem sort_rise {ns ss : List (List UInt8)} (h : Rd.Rise ns) (hp : ss.Perm ns) : ss.mergeSort (fun x y => decide (x ≤ y)) = ns :=
  (mergeSort_of_perm hp).trans (List.mergeSort_of_pairwise (h.imp rise_le))
/-- a value's cells, with its blocks -/
def HFp (P : Nat → Prop) (w : World) (u : Value) (x : JV) : Prop := ∃ cs, u = .agg (cs : List Value).toArray ∧ HCp P w cs x
def VS (P : Nat → Prop) (w : World) : List Value → List JV → Prop
  | [], [] => True
  | v :: vs, x :: xs => HFp P w v x ∧ VS P w vs xs
  | _, _ => False
theorem VS.len {P : Nat → Prop} {w : World} : ∀ {vs : List Value} {xs : List JV}, VS P w vs xs → vs.length = xs.length
  | [], [], _ => rfl
  | _ :: _, _ :: _, h => congrArg (· + 1) (VS.len h.2)
theorem HFp.stay {P Q : Nat → Prop} {w w' : World} {u : Value} {x : JV} (hs : Stay P Q w w') (h : HFp P w u x) : HFp Q w' u x := by
  obtain ⟨cs, e, h⟩ := h
  exact ⟨cs, e, HCp.stay hs _ _ h⟩
theorem VS.stay {P Q : Nat → Prop} {w w' : World} (hs : Stay P Q w w') : ∀ {vs : List Value} {xs : List JV}, VS P w vs xs → VS Q w' vs xs
  | [], [], _ => trivial
  | _ :: _, _ :: _, h => ⟨h.1.stay hs, VS.stay hs h.2⟩
theorem VS.ins {P : Nat → Prop} {w : World} {l : List UInt8} {u : Value} {x : JV} (hx : HFp P w u x) : ∀ {ns : List (List UInt8)} {vs : List Value} {xs : List JV}, ns.length = vs.length → VS P w vs xs → VS P w (insV l u ns vs) (Rd.insI l x ns xs)
  | [], [], [], _, _ => ⟨hx, trivial⟩
  | n :: ns, v :: vs, y :: xs, hl, h => by
    rw [insV, Rd.insI]
    split
    · exact ⟨h.1, VS.ins hx (by simpa using hl) h.2⟩
    · exact ⟨hx, h⟩
theorem VS.at' {P : Nat → Prop} {w : World} : ∀ {vs : List Value} {xs : List JV} {i : Nat} {x : JV}, VS P w vs xs → xs[i]? = some x → ∃ v, vs[i]? = some v ∧ HFp P w v x
  | [], [], i, x, _, hx => by simp at hx
  | v :: vs, y :: xs, 0, x, h, hx => by
    simp at hx
    subst hx
    exact ⟨v, rfl, h.1⟩
  | v :: vs, y :: xs, i + 1, x, h, hx => by
    obtain ⟨v', h1, h2⟩ := VS.at' h.2 (i := i) (x := x) (by simpa using hx)
    exact ⟨v', by simpa using h1, h2⟩
theorem members_keyed : Keyed Tryz.prog 9 := string_keyed Tryz.underlying9
theorem key_S {l : List UInt8} (h : l.length ≤ maxLen) : Go.keyOf Tryz.prog 9 (.string (S l)) = some (.string l) := by
  have hs : (S l).size = l.length := S_size l
  simp [Go.keyOf, mapKey, Tryz.underlying9, hs, h]
  exact S_data l
end

section
open Go.RowKit Go.Maps

/-- the map of members in block mb, apart from the blocks X -/
structure LO (rb mb : Nat) (X : Nat → Prop) (w : World) (ns : List (List UInt8)) (is : List JV) : Prop where
  row : ∃ vs, w.ownsMap Tryz.prog 9 RV mb ns.length (.map (ME ns vs)) ∧ VS (fun b => mb + 1 ≤ b ∧ ¬ X b) w vs is ∧ ns.length = vs.length
  rise : Rd.Rise ns
  lt : rb < mb
  apart : ∀ b, X b → b ≠ mb
theorem LO.len {rb mb : Nat} {X : Nat → Prop} {w : World} {ns : List (List UInt8)} {is : List JV} (h : LO rb mb X w ns is) : ns.length = is.length := by
  obtain ⟨vs, _, h2, h3⟩ := h.row
  rw [h3, h2.len]
theorem LO.size {rb mb : Nat} {X : Nat → Prop} {w : World} {ns : List (List UInt8)} {is : List JV} (h : LO rb mb X w ns is) : mb < w.heap.size := by
  obtain ⟨vs, h1, _⟩ := h.row
  exact h1.lt
/-- only the reader's block and the map's have turned -/
structure Km (rb mb : Nat) (w w' : World) : Prop where
  os : w'.os = w.os
  tape : w'.tape = w.tape
  output : w'.output = w.output
  size : w.heap.size ≤ w'.heap.size
  block : ∀ k, k < w.heap.size → k ≠ rb → k ≠ mb → w'.heap[k]? = w.heap[k]?
theorem Km.refl (rb mb : Nat) (w : World) : Km rb mb w w := ⟨rfl, rfl, rfl, Nat.le_refl _, fun _ _ _ _ => rfl⟩
theorem Km.trans {rb mb : Nat} {a b c : World} (h : Km rb mb a b) (g : Km rb mb b c) : Km rb mb a c :=
  ⟨g.os.trans h.os, g.tape.trans h.tape, g.output.trans h.output, Nat.le_trans h.size g.size, fun k h1 h2 h3 => (g.block k (Nat.lt_of_lt_of_le h1 h.size) h2 h3).trans (h.block k h1 h2 h3)⟩
theorem Km.of_kr {rb mb : Nat} {w w' : World} (h : Kr rb w w') : Km rb mb w w' := ⟨h.os, h.tape, h.output, h.size, fun k h1 h2 _ => h.block k h1 h2⟩
theorem Km.of_below {rb mb : Nat} {w w' : World} (h : Below w.heap.size w w') : Km rb mb w w' := Km.of_kr (Kr.of_below h)
theorem Km.put {rb mb b : Nat} {w w' : World} (h : Km rb mb w w') (hb : w.heap.size ≤ b) (o : Nat) (v : Value) : Km rb mb w (w'.setCell ⟨b, o, none⟩ v) :=
  ⟨h.os, h.tape, h.output, by simpa using h.size, fun k h1 h2 h3 => (heap_setCell_other w' ⟨b, o, none⟩ k _ (by show k ≠ b; omega)).trans (h.block k h1 h2 h3)⟩
theorem Km.lex {rb mb b : Nat} {w w' : World} (h : Km rb mb w w') (hb : w.heap.size ≤ b) (v0 v1 v2 v3 v4 : Value) : Km rb mb w (((((w'.setCell ⟨b, 0, none⟩ v0).setCell ⟨b, 1, none⟩ v1).setCell ⟨b, 2, none⟩ v2).setCell ⟨b, 3, none⟩ v3).setCell ⟨b, 4, none⟩ v4) :=
  ((((h.put hb 0 v0).put hb 1 v1).put hb 2 v2).put hb 3 v3).put hb 4 v4
theorem owns_stay {w w' : World} {b n : Nat} {D : DataW Value} (h : w.ownsMap Tryz.prog 9 RV b n D) (hb : w'.heap[b]? = w.heap[b]?) : w'.ownsMap Tryz.prog 9 RV b n D := by
  obtain ⟨es, clock, h1, h2, h3, h4⟩ := h
  exact ⟨es, clock, hb.trans h1, h2, h3, h4⟩
theorem LO.kr {rb mb : Nat} {X : Nat → Prop} {w w' : World} {ns : List (List UInt8)} {is : List JV} (h : LO rb mb X w ns is) (k : Kr rb w w') : LO rb mb X w' ns is := by
  obtain ⟨⟨vs, h1, h2, h3⟩, h4, h5, h6⟩ := h
  exact ⟨⟨vs, owns_stay h1 (k.block mb h1.lt (by omega)), VS.stay (fun b hb hl => ⟨hb, k.block b hl (by have := hb.1; omega)⟩) h2, h3⟩, h4, h5, h6⟩
theorem LO.less {rb mb : Nat} {X Y : Nat → Prop} {w : World} {ns : List (List UInt8)} {is : List JV} (h : LO rb mb X w ns is) (hY : ∀ b, Y b → X b) : LO rb mb Y w ns is := by
  obtain ⟨⟨vs, h1, h2, h3⟩, h4, h5, h6⟩ := h
  exact ⟨⟨vs, h1, VS.stay (fun b hb _ => ⟨⟨hb.1, fun h => hb.2 (hY b h)⟩, rfl⟩) h2, h3⟩, h4, h5, fun b hb => h6 b (hY b hb)⟩
theorem LO.put {rb mb b o : Nat} {X : Nat → Prop} {w : World} {v : Value} {ns : List (List UInt8)} {is : List JV} (h : LO rb mb X w ns is) (hb : X b) : LO rb mb X (w.setCell ⟨b, o, none⟩ v) ns is := by
  obtain ⟨⟨vs, h1, h2, h3⟩, h4, h5, h6⟩ := h
  have hs : ∀ k, k ≠ b → (w.setCell ⟨b, o, none⟩ v).heap[k]? = w.heap[k]? := fun k hk => heap_setCell_other w ⟨b, o, none⟩ k _ hk
  exact ⟨⟨vs, owns_stay h1 (hs mb (h6 b hb).symm), VS.stay (fun k hk _ => ⟨hk, hs k (fun h => hk.2 (h ▸ hb))⟩) h2, h3⟩, h4, h5, h6⟩
theorem LO.lex {rb mb b : Nat} {X : Nat → Prop} {w : World} {v0 v1 v2 v3 v4 : Value} {ns : List (List UInt8)} {is : List JV} (h : LO rb mb X w ns is) (hb : X b) : LO rb mb X (((((w.setCell ⟨b, 0, none⟩ v0).setCell ⟨b, 1, none⟩ v1).setCell ⟨b, 2, none⟩ v2).setCell ⟨b, 3, none⟩ v3).setCell ⟨b, 4, none⟩ v4) ns is :=
  ((((h.put hb).put hb).put hb).put hb).put hb
/-- a block that is another's is set apart -/
theorem LO.apart' {rb mb b : Nat} {w : World} (h : LO rb mb (fun _ => False) w [] []) (hb : b ≠ mb) : LO rb mb (fun k => k = b) w [] [] := by
  obtain ⟨⟨vs, h1, h2, h3⟩, h4, h5, h6⟩ := h
  obtain rfl : vs = [] := List.eq_nil_of_length_eq_zero h3.symm
  exact ⟨⟨[], h1, trivial, h3⟩, h4, h5, fun k hk => by rw [hk]; exact hb⟩
/-- a member more -/
theorem LO.more {rb mb B : Nat} {X : Nat → Prop} {w w' : World} {ns : List (List UInt8)} {is : List JV} {l : List UInt8} {u : Value} {x : JV} (h : LO rb mb X w ns is) (hn : l ∉ ns) (hu : HF B w u x) (hB : mb + 1 ≤ B) (hX : ∀ b, X b → b < B) {vs : List Value} (hvs : VS (fun b => mb + 1 ≤ b ∧ ¬ X b) w vs is) (hl : ns.length = vs.length)
    (g1 : w'.ownsMap Tryz.prog 9 RV mb (ns.length + 1) ((DataW.map (ME ns vs)).put (.string l) (.held u))) (g2 : ∀ k, k ≠ mb → w'.heap[k]? = w.heap[k]?) : LO rb mb X w' (Rd.insN l ns) (Rd.insI l x ns is) := by
  refine ⟨⟨insV l u ns vs, ?_, ?_, ?_⟩, Rd.insN_rise h.rise hn, h.lt, h.apart⟩
  · rw [Rd.insN_len, ← ME_put hl hn]
    exact g1
  · refine VS.stay (P := fun b => mb + 1 ≤ b ∧ ¬ X b) (fun b hb _ => ⟨hb, g2 b (by have := hb.1; omega)⟩) (VS.ins ?_ hl hvs)
    obtain ⟨cs, e, hu⟩ := hu
    exact ⟨cs, e, HCp.stay (fun b hb _ => ⟨⟨by omega, fun hx => by have := hX b hx; omega⟩, rfl⟩) _ _ hu⟩
  · rw [Rd.insN_len, insV_len ns vs hl, hl]
theorem turned_other {w w' : World} {b : Nat} (h : w.mapTurned w' b) : w'.os = w.os ∧ w'.tape = w.tape ∧ w'.output = w.output ∧ w'.heap.size = w.heap.size ∧ ∀ k, k ≠ b → w'.heap[k]? = w.heap[k]? := by
  obtain ⟨es, clock, es', clock', hb, rfl⟩ := h
  exact ⟨rfl, rfl, rfl, by simp [Go.ChangeMaps.setBlock], fun k hk => Go.ChangeMaps.heap_setBlock_other hb _ hk⟩
theorem zero_val (w : World) : (zeroValue 26).run Tryz.prog w = .ok (.agg #[.int .u8 0, .int .i64 0, .string ⟨#[]⟩, .slice none 0 0, .slice none 0 0]) w := by kernel_rfl
theorem HFp.open' {P : Nat → Prop} {w : World} {u : Value} {x : JV} (h : HFp P w u x) : ∃ (kI nI : Int) (t : ByteArray) (a b : Option Addr) (i j ca cb : Nat), u = .agg #[.int .u8 kI, .int .i64 nI, .string t, .slice a i ca, .slice b j cb] := by
  obtain ⟨cs, rfl, h⟩ := h
  obtain ⟨a, b, ca, cb, rfl, _⟩ := h.one
  exact ⟨_, _, _, _, _, _, _, _, _, rfl⟩
theorem LO.look {rb mb : Nat} {X : Nat → Prop} {w : World} {ns : List (List UInt8)} {is : List JV} (h : LO rb mb X w ns is) {l : List UInt8} (hl : l.length ≤ maxLen) : ∃ (kI nI : Int) (t : ByteArray) (a b : Option Addr) (i j ca cb : Nat),
    (Instr.lookup 125 (.map (some mb)) (.string (S l)) true).run Tryz.prog w = .ok (.tuple #[.agg #[.int .u8 kI, .int .i64 nI, .string t, .slice a i ca, .slice b j cb], .bool (decide (l ∈ ns))]) w := by
  obtain ⟨⟨vs, h1, h2, h3⟩, h4, h5, h6⟩ := h
  obtain ⟨v, ps, hr, hv⟩ := h1.look_ok members_keyed Tryz.underlying125 (zero_val w) (zd := .held _) (zp := []) rfl (key_S hl)
  rw [ME_has ns vs h3] at hr
  have hv' : DataW.atKey (.map (ME ns vs)) (.string l) (.held (.agg #[.int .u8 0, .int .i64 0, .string ⟨#[]⟩, .slice none 0 0, .slice none 0 0])) = .held v := by
    simp only [RV, Option.some.injEq, Prod.mk.injEq] at hv
    exact hv.1.symm
  by_cases hm : l ∈ ns
  · obtain ⟨i, hi, e⟩ := List.getElem_of_mem hm
    obtain ⟨x, hx⟩ : ∃ x, is[i]? = some x := ⟨_, List.getElem?_eq_getElem (by rw [← h2.len, ← h3]; exact hi)⟩
    obtain ⟨u, hu, hu2⟩ := h2.at' hx
    rw [ME_at ns vs i u h3 (rise_nodup h4) (by rw [List.getElem?_eq_getElem hi, e]) hu] at hv'
    simp only [DataW.held.injEq] at hv'
    subst hv'
    obtain ⟨kI, nI, t, a, b, i, j, ca, cb, rfl⟩ := hu2.open'
    exact ⟨_, _, _, _, _, _, _, _, _, hr⟩
  · have h0 : DataW.atKey (.map (ME ns vs)) (.string l) (.held (.agg #[.int .u8 0, .int .i64 0, .string ⟨#[]⟩, .slice none 0 0, .slice none 0 0])) = .held (.agg #[.int .u8 0, .int .i64 0, .string ⟨#[]⟩, .slice none 0 0, .slice none 0 0]) := by
      have h7 : (ME ns vs).find? (fun p => p.1.sameKey (.string l)) = none := by
        have h8 := ME_has (l := l) ns vs h3
        unfold Maps.has at h8
        simp only [hm, decide_false] at h8
        rw [List.find?_eq_none]
        exact fun p hp => by have := List.any_eq_false.1 h8 p hp; simpa using this
      unfold DataW.atKey
      simp only [h7]
    rw [h0] at hv'
    simp only [DataW.held.injEq] at hv'
    subst hv'
    exact ⟨_, _, _, _, _, _, _, _, _, hr⟩
theorem LO.store {rb mb B : Nat} {X : Nat → Prop} {w : World} {ns : List (List UInt8)} {is : List JV} (h : LO rb mb X w ns is) {l : List UInt8} (hl : l.length ≤ maxLen) (hn : l ∉ ns) (h7 : ns.length ≤ 70000) {u : Value} {x : JV} (hu : HF B w u x) (hB : mb + 1 ≤ B) (hX : ∀ b, X b → b < B) :
    ∃ w', (Instr.mapUpdate 125 (.map (some mb)) (.string (S l)) u).run Tryz.prog w = .ok () w' ∧ LO rb mb X w' (Rd.insN l ns) (Rd.insI l x ns is) ∧ w'.os = w.os ∧ w'.tape = w.tape ∧ w'.output = w.output ∧ w'.heap.size = w.heap.size ∧ ∀ k, k ≠ mb → w'.heap[k]? = w.heap[k]? := by
  obtain ⟨vs, h1, h2, h3⟩ := h.row
  obtain ⟨w', hr, g1, g2⟩ := h1.store members_keyed Tryz.underlying125 (by unfold maxLen; omega) (key_S hl) (val := u) (d := .held u) (ps := []) rfl
  have g3 := turned_other g2
  exact ⟨w', hr, h.more hn hu hB hX h2 h3 g1 g3.2.2.2.2, g3⟩
end

section
open Go.RowKit Go.Maps

/-- what member tells, behind the mark m -/
def MemRes (w0 : World) (rb mb : Nat) (X : Nat → Prop) (l : List UInt8) (E : Nat × Nat) (d : Nat) (w : World) (m : Lm.Mark) (ms : List Lm.Mark) (n : Nat) (ns : List (List UInt8)) (is : List JV) (en : Ending) (w' : World) : Prop :=
  Km rb mb w w' ∧ ∃ (ns' : List (List UInt8)) (is' : List JV) (p' pl' n' e : Nat), en = .returned (.int .i64 (e : Int)) ∧ LO rb mb X w' ns' is' ∧ RS w0 rb l w' p' pl' n' (d + 1) ∧ is'.length ≤ is.length + 1 ∧
    ((e = 0 ∧ ∃ (c : Lm.Mark) (ms2 : List Lm.Mark) (x : JV) (ms3 : List Lm.Mark) (f : Nat), m.k = 10 ∧ m.t ∉ ns ∧ ms = c :: ms2 ∧ c.k = 6 ∧ Rd.P E f .v ms2 n (d + 1) = some (.ok x ms3 n') ∧ ns' = Rd.insN m.t ns ∧ is' = Rd.insI m.t x ns is ∧ TS l p' ms3 E) ∨
     (e ≠ 0 ∧ ∃ f, Rd.P E f (.o ns is) (m :: ms) n d = some (.bad pl' e)))
set_option maxHeartbeats 4000000 in
set_option maxRecDepth 5000 in
theorem member_any {w0 w : World} {rb mb : Nat} {X : Nat → Prop} {l : List UInt8} {E : Nat × Nat} {K : Nat} (hF : FromOK w0 rb l E K) {m : Lm.Mark} {ms : List Lm.Mark} {p n d : Nat} {ns : List (List UInt8)} {is : List JV} (hlen : (m :: ms).length ≤ K) (hS : RS w0 rb l w p m.a n (d + 1)) (hT : TS l p ms E) (hm : MOk m) (hn : n ≤ 8192) (hd : d + 1 ≤ 12)
    (hL : LO rb mb X w ns is) (hX : ∀ b, X b → b < w.heap.size) (hi : is.length ≤ 60000) {kI aI bI : Int} (hk : kI = (m.k : Int)) :
    Calls Tryz.prog 102 #[.pointer (some ⟨rb, 0, none⟩), .agg #[.int .u8 kI, .int .i64 aI, .int .i64 bI, .int .i64 m.n, .string (S m.t)], .map (some mb)] w fun en w' => MemRes w0 rb mb X l E d w m ms n ns is en w' := by
  obtain ⟨W1, hW1⟩ : ∃ W, W = w.alloc (.cells #[.int .u8 kI, .int .i64 aI, .int .i64 bI, .int .i64 m.n, .string (S m.t)] 85) := ⟨_, rfl⟩
  have g1 : Below w.heap.size w W1 := by rw [hW1]; exact (Below.refl _ _).alloc (Nat.le_refl _) _
  have HG1 := Lib.hid g1
  have HS1 := Lib.hid (hS.grow g1)
  have HL1 := Lib.hid (hL.kr (Kr.of_below g1))
  have HL := Lib.hid hL
  have HK := Lib.hid hk
  have HM := Lib.hid hm
  have HT := Lib.hid hT
  have HFF := Lib.hid hF
  have HLEN := Lib.hid hlen
  have HX := Lib.hid hX
  have hrbm := hL.lt
  have hmb := hL.size
  have hnl : ns.length ≤ 60000 := by rw [hL.len]; exact hi
  have hml : m.t.length ≤ maxLen := by have := hm.2.2.1; unfold maxLen; omega
  have hlk := HL1.out.look hml
  clear g1 hS hL hm hT hF hlen hX
  by_cases h10 : kI = 10
  case neg =>
    have hb : (kI != 10) = true := bne_iff_ne.2 h10
    have hm10 : Hid (m.k ≠ 10) := by show m.k ≠ 10; omega
    clear h10 hk hlk
    go_enter Tryz.func102, Tryz.ntmps102
    go_wp2_with fail
    rw [← hW1]
    go_ret
    exact ⟨Km.of_below HG1.out, ns, is, p, m.a, n, 3, rfl, HL1.out, HS1.out, by omega, .inr ⟨by decide, 1, Rd.P_o' (f := 0) (.form hm10.out)⟩⟩
  subst h10
  have hm10 : Hid (m.k = 10) := by show m.k = 10; omega
  clear hk
  obtain ⟨zk, zn, zt, za, zb, zi, zj, zca, zcb, hlk⟩ := hlk
  obtain ⟨W2, hW2⟩ : ∃ W, W = W1.alloc (.cells #[.int .u8 zk, .int .i64 zn, .string zt, .slice za zi zca, .slice zb zj zcb] 26) := ⟨_, rfl⟩
  have g2 : Below w.heap.size w W2 := by rw [hW2]; exact HG1.out.alloc HG1.out.size _
  have g12 : Below W1.heap.size W1 W2 := by rw [hW2]; exact (Below.refl _ _).alloc (Nat.le_refl _) _
  have HG2 := Lib.hid g2
  have HS2 := Lib.hid (HS1.out.grow g12)
  have HL2 := Lib.hid (HL1.out.kr (Kr.of_below g12))
  clear g2 g12
  by_cases hin : m.t ∈ ns
  case pos =>
    rw [decide_eq_true hin] at hlk
    rw [hW1] at hlk
    have HIN := Lib.hid hin
    clear hin
    go_enter Tryz.func102, Tryz.ntmps102
    go_wp2_with fail
    rw [← hW1, ← hW2]
    go_ret
    exact ⟨Km.of_below HG2.out, ns, is, p, m.a, n, 7, rfl, HL2.out, HS2.out, by omega, .inr ⟨by decide, 1, Rd.P_o' (f := 0) (.twice hm10.out HIN.out)⟩⟩
  rw [decide_eq_false hin] at hlk
  rw [hW1] at hlk
  have HIN := Lib.hid hin
  have cS := skip_any HS2.out HT.out
  clear hin
  have HLEN2 : Hid (ms.length ≤ K) := by have := HLEN.out; show ms.length ≤ K; simp at this; omega
  clear HLEN
  rcases ms with _ | ⟨c, ms2⟩
  · obtain ⟨eI, heI⟩ : ∃ L : Int, L = (Rd.fe E : Int) := ⟨_, rfl⟩
    have hb : (eI != 0) = true := bne_iff_ne.2 (by have := fe_pos E; omega)
    have cS : Calls Tryz.prog 121 #[.pointer (some ⟨rb, 0, none⟩), .int .u8 6] W2 fun en w' => en = .returned (.int .i64 eI) ∧ Kr rb W2 w' ∧ ∃ p', RS w0 rb l w' p' E.1 n (d + 1) := by
      rw [heI]
      exact cS
    have HE := Lib.hid heI
    clear heI
    go_enter Tryz.func102, Tryz.ntmps102
    go_wp2_with fail
    rw [← hW1, ← hW2]
    clear hW1 hW2 hlk
    refine cS.mono ?_; rintro en w3 ⟨rfl, k3, p', s3⟩
    have HK3 := Lib.hid k3
    have HS3 := Lib.hid s3
    clear cS k3 s3
    go_wp2_with fail
    go_ret
    exact ⟨(Km.of_below HG2.out).trans (.of_kr HK3.out), ns, is, p', E.1, n, Rd.fe E, by rw [HE.out]; rfl, HL2.out.kr HK3.out, HS3.out, by omega, .inr ⟨fe_pos E, 1, Rd.P_o' (f := 0) (.cut1 hm10.out HIN.out)⟩⟩
  by_cases h6 : c.k = 6
  case neg =>
    have cS : Calls Tryz.prog 121 #[.pointer (some ⟨rb, 0, none⟩), .int .u8 6] W2 fun en w' => en = .returned (.int .i64 3) ∧ Kr rb W2 w' ∧ RS w0 rb l w' c.b c.a n (d + 1) ∧ TS l c.b ms2 E := by
      refine cS.mono fun en w' h => ?_
      obtain ⟨h1, h2⟩ := h
      rw [if_neg h6] at h1
      exact ⟨h1, h2⟩
    have H6 := Lib.hid h6
    clear h6
    go_enter Tryz.func102, Tryz.ntmps102
    go_wp2_with fail
    rw [← hW1, ← hW2]
    clear hW1 hW2 hlk
    refine cS.mono ?_; rintro en w3 ⟨rfl, k3, s3, t3⟩
    have HK3 := Lib.hid k3
    have HS3 := Lib.hid s3
    clear cS k3 s3 t3
    go_wp2_with fail
    go_ret
    exact ⟨(Km.of_below HG2.out).trans (.of_kr HK3.out), ns, is, c.b, c.a, n, 3, rfl, HL2.out.kr HK3.out, HS3.out, by omega, .inr ⟨by decide, 1, Rd.P_o' (f := 0) (.form1 hm10.out HIN.out H6.out)⟩⟩
  have cS : Calls Tryz.prog 121 #[.pointer (some ⟨rb, 0, none⟩), .int .u8 6] W2 fun en w' => en = .returned (.int .i64 0) ∧ Kr rb W2 w' ∧ RS w0 rb l w' c.b c.a n (d + 1) ∧ TS l c.b ms2 E := by
    refine cS.mono fun en w' h => ?_
    obtain ⟨h1, h2⟩ := h
    rw [if_pos h6] at h1
    exact ⟨h1, h2⟩
  have H6 := Lib.hid h6
  have HLEN3 : Hid (ms2.length ≤ K) := by have := HLEN2.out; show ms2.length ≤ K; simp at this; omega
  clear h6 HLEN2
  have M1 : MkAt w.heap.size W1 (.int .u8 10) (.int .i64 aI) (.int .i64 bI) (.int .i64 m.n) (.string (S m.t)) := by rw [hW1]; exact MkAt.new ..
  have hwrb : w.heap.size ≠ rb := by omega
  have HM2 := Lib.hid ((M1.kr hwrb (Kr.of_below (show Below W1.heap.size W1 W2 by rw [hW2]; exact (Below.refl _ _).alloc (Nat.le_refl _) _))))
  clear M1
  go_enter Tryz.func102, Tryz.ntmps102
  go_wp2_with fail
  rw [← hW1, ← hW2]
  clear hW1 hW2 hlk
  refine cS.mono ?_; rintro en w3 ⟨rfl, k3, s3, t3⟩
  have HK3 := Lib.hid ((Kr.of_below HG2.out).trans k3)
  have HL3 := Lib.hid (HL2.out.kr k3)
  have HM3 := Lib.hid (HM2.out.kr hwrb k3)
  have cV := rvalue_any HFF.out HLEN3.out s3 t3 hn hd
  clear cS k3 s3 t3
  go_wp2_with fail
  refine cV.mono ?_; rintro en w4 ⟨f, r, hP, k4, u, y, p', pl', n', e, rfl, hu, s4, hr⟩
  obtain ⟨uk, un, ut, ua, ub, ui, uj, uca, ucb, rfl⟩ := hu.open'
  obtain ⟨W5, hW5⟩ : ∃ W, W = w4.alloc (.cells #[.int .u8 uk, .int .i64 un, .string ut, .slice ua ui uca, .slice ub uj ucb] 26) := ⟨_, rfl⟩
  have g5 : Below w4.heap.size w4 W5 := by rw [hW5]; exact (Below.refl _ _).alloc (Nat.le_refl _) _
  have k5 : Kr rb w W5 := (HK3.out.trans k4).trans (Kr.of_below g5)
  have L5 := (HL3.out.kr k4).kr (Kr.of_below g5)
  have h3w := HK3.out.size
  obtain ⟨W6, hr6, L6, t1, t2, t3, t4, t5⟩ := L5.store hml HIN.out (by omega) (hu.stay (B' := w3.heap.size) fun b hb hl => ⟨hb, g5.block b hl⟩) (by omega) (fun b hb => by have := HX.out b hb; omega)
  have S5 := s4.grow g5
  have HL6 := Lib.hid L6
  have HK6 : Hid (Km rb mb w W6) := ⟨t1.trans k5.os, t2.trans k5.tape, t3.trans k5.output, by rw [t4]; exact k5.size, fun k h1 h2 h3 => (t5 k h3).trans (k5.block k h1 h2)⟩
  have HS6 : Hid (RS w0 rb l W6 p' pl' n' (d + 1)) := by
    have hb0 := S5.below
    have hat := S5.at0
    refine S5.other (t5 rb (by omega)) ⟨t1.trans hb0.os, t2.trans hb0.tape, t3.trans hb0.output, by rw [t4]; exact hb0.size, fun k hk => (t5 k (by omega)).trans (hb0.block k hk)⟩
  have M5 := (HM3.out.kr hwrb k4).kr hwrb (Kr.of_below g5)
  obtain ⟨⟨y0, y1, y2, y3, y4⟩, yf⟩ := MkAt.cells M5
  have HP := Lib.hid hP
  have HR := Lib.hid hr
  have HIS : Hid ((Rd.insI m.t y ns is).length ≤ is.length + 1) := by rw [Hid, Rd.insI_len ns is HL.out.len]; exact Nat.le_refl _
  clear cV hP k4 hu s4 hr g5 k5 L5 L6 t1 t2 t3 t4 t5 S5 M5 h3w
  rw [hW5] at hr6 y0 y1 y2 y3 y4 yf
  go_wp2_with fail
  go_ret
  refine ⟨HK6.out, _, _, p', pl', n', e, rfl, HL6.out, HS6.out, HIS.out, ?_⟩
  have hR := HR.out
  cases r with
  | ok x ms' n4 =>
    obtain ⟨h1, h2, h3, h4⟩ := hR
    subst h1 h2 h3
    exact .inl ⟨rfl, c, ms2, y, ms', f, hm10.out, HIN.out, rfl, H6.out, HP.out, rfl, rfl, h4⟩
  | bad pl er =>
    obtain ⟨h1, h2, h3⟩ := hR
    subst h1 h3
    exact .inr ⟨h2, f + 1, Rd.P_o' (.item hm10.out HIN.out H6.out HP.out)⟩
end

section
open Go.RowKit Go.Maps

/-- the map in a box of its own -/
def CB (cb mb : Nat) (w : World) : Prop := w.heap[cb]? = some (.cells #[.map (some mb)] 125 (0, 0))
theorem CB.cell {cb mb : Nat} {w : World} (h : CB cb mb w) : w.cell? ⟨cb, 0, none⟩ = some (.map (some mb)) := (cell_of_row w cb 0 _ _ _ h).trans rfl
theorem PB.km {b0 rb mb : Nat} {w w' : World} (h : PB b0 rb w) (hne : b0 ≠ rb) (hn2 : b0 ≠ mb) (k : Km rb mb w w') : PB b0 rb w' := (k.block b0 (Array.getElem?_eq_some_iff.1 h).1 hne hn2).trans h
theorem CB.km {cb rb mb : Nat} {w w' : World} (h : CB cb mb w) (hne : cb ≠ rb) (hn2 : cb ≠ mb) (k : Km rb mb w w') : CB cb mb w' := (k.block cb (Array.getElem?_eq_some_iff.1 h).1 hne hn2).trans h
theorem MkAt.km {b rb mb : Nat} {w w' : World} {c0 c1 c2 c3 c4 : Value} (h : MkAt b w c0 c1 c2 c3 c4) (hne : b ≠ rb) (hn2 : b ≠ mb) (k : Km rb mb w w') : MkAt b w' c0 c1 c2 c3 c4 := (k.block b (Array.getElem?_eq_some_iff.1 h).1 hne hn2).trans h
set_option maxHeartbeats 2000000 in
set_option maxRecDepth 5000 in
theorem obj1_any {w0 w : World} {rb mb b0 cb : Nat} {X : Nat → Prop} {l : List UInt8} {E : Nat × Nat} {K : Nat} (hF : FromOK w0 rb l E K) {m : Lm.Mark} {ms : List Lm.Mark} {p n d : Nat} {ns : List (List UInt8)} {is : List JV} (hlen : (m :: ms).length ≤ K) (hS : RS w0 rb l w p m.a n (d + 1)) (hT : TS l p ms E) (hm : MOk m) (hn : n ≤ 8192) (hd : d + 1 ≤ 12)
    (hL : LO rb mb X w ns is) (hX : ∀ b, X b → b < w.heap.size) (hi : is.length ≤ 60000) (hP : PB b0 rb w) (hC : CB cb mb w) {kI aI bI : Int} (hk : kI = (m.k : Int)) :
    Calls Tryz.prog 101 #[.agg #[.int .u8 kI, .int .i64 aI, .int .i64 bI, .int .i64 m.n, .string (S m.t)], .pointer (some ⟨b0, 0, none⟩), .pointer (some ⟨cb, 0, none⟩)] w fun en w' => MemRes w0 rb mb X l E d w m ms n ns is en w' := by
  obtain ⟨W1, hW1⟩ : ∃ W, W = w.alloc (.cells #[.int .u8 kI, .int .i64 aI, .int .i64 bI, .int .i64 m.n, .string (S m.t)] 85) := ⟨_, rfl⟩
  have g1 : Below w.heap.size w W1 := by rw [hW1]; exact (Below.refl _ _).alloc (Nat.le_refl _) _
  have P1 : PB b0 rb W1 := (g1.block b0 (Array.getElem?_eq_some_iff.1 hP).1).trans hP
  have C1 : CB cb mb W1 := (g1.block cb (Array.getElem?_eq_some_iff.1 hC).1).trans hC
  have p1 := P1.cell
  have c1 := C1.cell
  have cM := member_any (aI := aI) (bI := bI) hF hlen (hS.grow g1) hT hm hn hd (hL.kr (Kr.of_below g1)) (fun b hb => Nat.lt_of_lt_of_le (hX b hb) g1.size) hi hk
  have HG1 := Lib.hid g1
  rw [hW1] at p1 c1
  clear g1 P1 C1 hF hlen hS hT hm hL hX hi hP hC hk
  go_enter Tryz.func101, Tryz.ntmps101
  go_wp2_with fail
  rw [← hW1]
  clear hW1 p1 c1
  refine cM.mono ?_; rintro en w2 ⟨k2, ns', is', p', pl', n', e, rfl, h1, h2, h3, h4⟩
  have HK := Lib.hid k2
  have H1 := Lib.hid h1
  have H2 := Lib.hid h2
  have H3 := Lib.hid h3
  have H4 := Lib.hid h4
  clear cM k2 h1 h2 h3 h4
  go_wp2_with fail
  go_ret
  exact ⟨(Km.of_below HG1.out).trans HK.out, ns', is', p', pl', n', e, rfl, H1.out, H2.out, H3.out, H4.out⟩
/-- what parts tells of an object -/
def PResO (w0 : World) (rb mb : Nat) (l : List UInt8) (E : Nat × Nat) (d : Nat) (w : World) (r : Rd.Res) (en : Ending) (w' : World) : Prop :=
  Km rb mb w w' ∧ ∃ (ns : List (List UInt8)) (is : List JV) (p' pl' n' e : Nat), en = .returned (.int .i64 (e : Int)) ∧ LO rb mb (fun _ => False) w' ns is ∧ is.length ≤ 8193 ∧ RS w0 rb l w' p' pl' n' d ∧ RM l E p' pl' n' e (.mk 5 0 [] ns is) r
/-- what the rest of an object comes to, behind its first bracket -/
def RO (E : Nat × Nat) (d : Nat) (ms : List Lm.Mark) (n : Nat) (r : Rd.Res) : Prop := (ms = [] ∧ r = .bad E.1 (Rd.fe E)) ∨ (∃ m1 ms2, ms = m1 :: ms2 ∧ m1.k = 2 ∧ r = .ok (.mk 5 0 [] [] []) ms2 n) ∨
  ∃ m1 ms2 f, ms = m1 :: ms2 ∧ m1.k ≠ 2 ∧ Rd.P E f (.o [] []) (m1 :: ms2) n d = some r
/-- what stands at the head of the loop -/
def PIO (w0 w : World) (rb mb b7 : Nat) (l : List UInt8) (E : Nat × Nat) (K d : Nat) (Q : Rd.Res → Prop) (wr : World) : Prop := ∃ (m' : Lm.Mark) (ms1 : List Lm.Mark) (p1 n1 : Nat) (ns : List (List UInt8)) (is : List JV), MkAt b7 wr (.int .u8 (m'.k : Int)) (.int .i64 (m'.a : Int)) (.int .i64 (m'.b : Int)) (.int .i64 m'.n) (.string (S m'.t)) ∧ RS w0 rb l wr p1 m'.a n1 (d + 1) ∧ TS l p1 ms1 E ∧ LO rb mb (fun k => k = b7) wr ns is ∧
  Km rb mb w wr ∧ (m' :: ms1).length ≤ K ∧ n1 ≤ 8192 ∧ is.length ≤ n1 ∧ MOk m' ∧ ∀ f r, Rd.P E f (.o ns is) (m' :: ms1) n1 d = some r → Q r
set_option maxHeartbeats 4000000 in
set_option maxRecDepth 5000 in
theorem parts_obj {w0 w : World} {rb mb b0 cb : Nat} {l : List UInt8} {E : Nat × Nat} {K : Nat} (hF : FromOK w0 rb l E K) {ms : List Lm.Mark} {p pl n d : Nat} (hlen : ms.length ≤ K) (hS : RS w0 rb l w p pl n (d + 1)) (hT : TS l p ms E) (hn : n ≤ 8192) (hd : d + 1 ≤ 12)
    (hL : LO rb mb (fun _ => False) w [] []) (hP : PB b0 rb w) (hC : CB cb mb w) (hb0 : b0 ≠ rb) (hb1 : b0 ≠ mb) (hb2 : cb ≠ rb) (hb3 : cb ≠ mb) :
    Calls Tryz.prog 99 #[.pointer (some ⟨rb, 0, none⟩), .int .u8 2, .func (.func 101) #[] #[.pointer (some ⟨b0, 0, none⟩), .pointer (some ⟨cb, 0, none⟩)]] w fun en w' => ∃ r, RO E d ms n r ∧ PResO w0 rb mb l E (d + 1) w r en w' := by
  have cW := within_any hS hT
  have HF := Lib.hid hF
  have HS := Lib.hid hS
  have HL := Lib.hid hL
  have HP := Lib.hid hP
  have HC := Lib.hid hC
  have HLEN := Lib.hid hlen
  have HMT := Lib.hid (hT.ok hS.pos)
  have hw0 : Hid (w0.heap.size ≤ w.heap.size) := hS.below.size
  clear hF hS hL hP hC hT hlen
  rcases ms with _ | ⟨m, ms⟩
  · obtain ⟨eI, heI⟩ : ∃ L : Int, L = (Rd.fe E : Int) := ⟨_, rfl⟩
    have hb : (eI != 0) = true := bne_iff_ne.2 (by have := fe_pos E; omega)
    have cW : Calls Tryz.prog 65 #[.pointer (some ⟨rb, 0, none⟩)] w fun en w' => en = .returned (.tuple #[.agg #[.int .u8 0, .int .i64 0, .int .i64 0, .int .i64 0, .string ⟨#[]⟩], .int .i64 eI]) ∧ Kr rb w w' ∧ ∃ p', RS w0 rb l w' p' E.1 n (d + 1) := by
      rw [heI]
      exact cW
    have HE := Lib.hid heI
    clear heI
    go_enter Tryz.func99, Tryz.ntmps99
    go_wp2_with fail
    refine cW.mono ?_; rintro en w2 ⟨rfl, k2, p', s2⟩
    have b3 : Below w2.heap.size w2 (w2.alloc (.cells #[.int .u8 0, .int .i64 0, .int .i64 0, .int .i64 0, .string ⟨#[]⟩] 85)) := (Below.refl _ _).alloc (Nat.le_refl _) _
    have HK := Lib.hid (k2.trans (Kr.of_below b3))
    have HS2 := Lib.hid (s2.grow b3)
    clear cW k2 s2 b3
    go_wp2_with fail
    go_ret
    exact ⟨_, .inl ⟨rfl, rfl⟩, .of_kr HK.out, [], [], p', E.1, n, Rd.fe E, by rw [HE.out]; rfl, HL.out.kr HK.out, Nat.zero_le _, HS2.out, rfl, fe_pos E, rfl⟩
  obtain ⟨kI, hkI⟩ : ∃ L : Int, L = ((m.k : Nat) : Int) := ⟨_, rfl⟩
  obtain ⟨aI, haI⟩ : ∃ L : Int, L = ((m.a : Nat) : Int) := ⟨_, rfl⟩
  obtain ⟨bI, hbI⟩ : ∃ L : Int, L = ((m.b : Nat) : Int) := ⟨_, rfl⟩
  have cW : Calls Tryz.prog 65 #[.pointer (some ⟨rb, 0, none⟩)] w fun en w' => en = .returned (.tuple #[.agg #[.int .u8 kI, .int .i64 aI, .int .i64 bI, .int .i64 m.n, .string (S m.t)], .int .i64 0]) ∧ Kr rb w w' ∧ RS w0 rb l w' m.b m.a n (d + 1) ∧ TS l m.b ms E := by
    rw [hkI, haI, hbI]
    exact cW
  have HKI := Lib.hid hkI
  have HAI := Lib.hid haI
  have HBI := Lib.hid hbI
  clear hkI haI hbI
  by_cases h4 : kI = 2
  · subst h4
    have hm : Hid (m.k = 2) := by have := HKI.out; show m.k = 2; omega
    go_enter Tryz.func99, Tryz.ntmps99
    go_wp2_with fail
    refine cW.mono ?_; rintro en w2 ⟨rfl, k2, s2, t2⟩
    have b3 : Below w2.heap.size w2 (w2.alloc (.cells #[.int .u8 2, .int .i64 aI, .int .i64 bI, .int .i64 m.n, .string (S m.t)] 85)) := (Below.refl _ _).alloc (Nat.le_refl _) _
    have HK := Lib.hid (k2.trans (Kr.of_below b3))
    have HS2 := Lib.hid (s2.grow b3)
    have HT2 := Lib.hid t2
    clear cW k2 s2 b3 t2
    go_wp2_with fail
    go_ret
    exact ⟨_, .inr (.inl ⟨m, ms, rfl, hm.out, rfl⟩), .of_kr HK.out, [], [], m.b, m.a, n, 0, rfl, HL.out.kr HK.out, Nat.zero_le _, HS2.out, rfl, rfl, rfl, HT2.out⟩
  have hb4 : (kI == 2) = false := beq_eq_false_iff_ne.2 h4
  have hm4 : Hid (m.k ≠ 2) := by have := HKI.out; show m.k ≠ 2; omega
  clear h4
  go_enter Tryz.func99, Tryz.ntmps99
  go_wp2_with fail
  refine cW.mono ?_; rintro en w2 ⟨rfl, k2, s2, t2⟩
  obtain ⟨b7, hb7⟩ : ∃ b, b = w2.heap.size := ⟨_, rfl⟩
  obtain ⟨W3, hW3⟩ : ∃ W, W = w2.alloc (.cells #[.int .u8 kI, .int .i64 aI, .int .i64 bI, .int .i64 m.n, .string (S m.t)] 85) := ⟨_, rfl⟩
  have b3 : Below w2.heap.size w2 W3 := by rw [hW3]; exact (Below.refl _ _).alloc (Nat.le_refl _) _
  have M3 : MkAt b7 W3 (.int .u8 kI) (.int .i64 aI) (.int .i64 bI) (.int .i64 m.n) (.string (S m.t)) := by rw [hW3, hb7]; exact MkAt.new ..
  have HK := Lib.hid (k2.trans (Kr.of_below b3))
  have hne7 : b7 ≠ rb := by have := s2.lt; omega
  have hne8 : b7 ≠ mb := by have := (HL.out.kr k2).size; omega
  have h7w : w.heap.size ≤ b7 := by rw [hb7]; exact k2.size
  have hw07 : Hid (w0.heap.size ≤ b7) := Nat.le_trans hw0.out h7w
  have HI0 : Hid (PIO w0 w rb mb b7 l E K d (RO E d (m :: ms) n) W3) := by
    refine ⟨m, ms, m.b, n, [], [], ?_, s2.grow b3, t2, (HL.out.kr HK.out).apart' hne8, .of_kr HK.out, HLEN.out, hn, Nat.zero_le _, HMT.out m List.mem_cons_self, fun f r h => .inr (.inr ⟨m, ms, f, rfl, hm4.out, h⟩)⟩
    rw [← HKI.out, ← HAI.out, ← HBI.out]
    exact M3
  obtain ⟨⟨y0, y1, y2, y3, y4⟩, yf⟩ := MkAt.cells M3
  rw [hW3, hb7] at y0 y1 y2 y3 y4
  clear cW k2 s2 t2 b3 M3
  go_wp2_with fail
  rw [← hW3, ← hb7]
  clear hb7 hb4 hW3 y0 y1 y2 y3 y4 yf
  go_loopw [8] (fun ev wr => ev = .int .i64 0 ∧ PIO w0 w rb mb b7 l E K d (RO E d (m :: ms) n) wr) (fun _ wr => tsl l (nxt rb wr))
  case atStart => exact ⟨rfl, HI0.out⟩
  case round =>
    clear HI0
    obtain ⟨rfl, m', ms1, p1, n1, ns, is, hM, hSr, hTr, hLr, hKr, hlen1, hn1, hacc, hmk, hch⟩ := hrel
    have HMES : Hid (tsl l (nxt rb wr) = ms1.length) := by rw [Hid, nxt_rs hSr, tsl_eq hTr]
    obtain ⟨kI, hk⟩ : ∃ L : Int, L = (m'.k : Int) := ⟨_, rfl⟩
    obtain ⟨aI, ha⟩ : ∃ L : Int, L = (m'.a : Int) := ⟨_, rfl⟩
    obtain ⟨bI, hb⟩ : ∃ L : Int, L = (m'.b : Int) := ⟨_, rfl⟩
    have hPr : PB b0 rb wr := HP.out.km hb0 hb1 hKr
    have hCr : CB cb mb wr := HC.out.km hb2 hb3 hKr
    have hlenr : Hid (ns.length = is.length) := hLr.len
    have h7r : b7 < wr.heap.size := (Array.getElem?_eq_some_iff.1 hM).1
    have cP := obj1_any (aI := aI) (bI := bI) HF.out hlen1 hSr hTr hmk hn1 hd hLr (fun b e => by rw [e]; exact h7r) (by omega) hPr hCr hk
    rw [← hk, ← ha, ← hb] at hM
    obtain ⟨⟨y0, y1, y2, y3, y4⟩, yf⟩ := MkAt.cells hM
    have HM := Lib.hid hM
    have HKr := Lib.hid hKr
    have HCH := Lib.hid hch
    have HLM := Lib.hid hlen1
    clear hSr hTr hLr hPr hCr hKr hM hch hk ha hb hlen1 h7r
    go_wp2_with fail
    refine cP.mono ?_; rintro en w4 ⟨kl4, ns4, is4, p', pl', n', e, rfl, hL4, s4, hi4, hrm⟩
    have HM4 := Lib.hid (HM.out.km hne7 hne8 kl4)
    have HKl4 := Lib.hid (HKr.out.trans kl4)
    have HL4 := Lib.hid hL4
    have HS4 := Lib.hid s4
    have HI4 := Lib.hid hi4
    have HRM := Lib.hid hrm
    clear cP y0 y1 y2 y3 y4 yf kl4 hL4 s4 hi4 hrm
    obtain ⟨eI, heI⟩ : ∃ L : Int, L = (e : Int) := ⟨_, rfl⟩
    rw [← heI]
    by_cases he : eI = 0
    · subst he
      obtain rfl : e = 0 := by omega
      clear heI
      obtain ⟨_, c, ms2, y, ms', f4, h10, hnot, hms1, h6, hR4, hns, his, hT4⟩ := HRM.out.resolve_right fun h => h.1 rfl
      have HV := Lib.hid (⟨h10, hnot, h6, hR4⟩ : m'.k = 10 ∧ m'.t ∉ ns ∧ c.k = 6 ∧ Rd.P E f4 .v ms2 n1 (d + 1) = some (.ok y ms' n'))
      subst hms1 hns his
      have hgr := Rd.P_grow _ _ _ _ _ _ _ _ hR4
      have hpl : ms'.length + 1 < (c :: ms2).length := by have := Rd.P_len hR4; rw [List.length_cons]; omega
      have hn8 : Hid (n' ≤ 8192) := hgr.2
      have hac8 : Hid ((Rd.insI m'.t y ns is).length ≤ n') := by rw [Hid, Rd.insI_len ns is hlenr.out]; omega
      have hac9 : Hid ((Rd.insI m'.t y ns is).length ≤ 8193) := by have := hac8.out; have := hn8.out; show (Rd.insI m'.t y ns is).length ≤ 8193; omega
      have cW := within_any HS4.out hT4
      have HMT4 := Lib.hid (hT4.ok HS4.out.pos)
      have HPL := Lib.hid hpl
      clear hT4 hgr hpl HRM h10 hnot h6 hR4
      rcases ms' with _ | ⟨m3, ms4⟩
      · -- no mark more
        obtain ⟨eI, heI⟩ : ∃ L : Int, L = (Rd.fe E : Int) := ⟨_, rfl⟩
        have hb : (eI != 0) = true := bne_iff_ne.2 (by have := fe_pos E; omega)
        have cW : Calls Tryz.prog 65 #[.pointer (some ⟨rb, 0, none⟩)] w4 fun en w' => en = .returned (.tuple #[.agg #[.int .u8 0, .int .i64 0, .int .i64 0, .int .i64 0, .string ⟨#[]⟩], .int .i64 eI]) ∧ Kr rb w4 w' ∧ ∃ p', RS w0 rb l w' p' E.1 n' (d + 1) := by
          rw [heI]
          exact cW
        have HE := Lib.hid heI
        clear heI
        go_wp2_with fail
        refine cW.mono ?_; rintro en w5 ⟨rfl, k5, p5, s5⟩
        obtain ⟨⟨q0, q1, q2, q3, q4⟩, qf⟩ := MkAt.cells (HM4.out.kr hne7 k5)
        have HK5 := Lib.hid k5
        have HS5 := Lib.hid s5
        clear cW k5 s5
        go_wp2_with fail
        go_ret
        exact ⟨_, HCH.out _ _ (Rd.P_o' (.cut HV.out.1 HV.out.2.1 HV.out.2.2.1 HV.out.2.2.2)), (HKl4.out.trans (.of_kr HK5.out)).lex h7w _ _ _ _ _, Rd.insN m'.t ns, Rd.insI m'.t y ns is, p5, E.1, n', Rd.fe E, by rw [HE.out]; rfl, ((HL4.out.kr HK5.out).lex rfl).less (fun _ h => h.elim), hac9.out, HS5.out.lex hw07.out hne7.symm _ _ _ _ _, rfl, fe_pos E, rfl⟩
      obtain ⟨k3, hk3⟩ : ∃ L : Int, L = ((m3.k : Nat) : Int) := ⟨_, rfl⟩
      obtain ⟨a3, ha3⟩ : ∃ L : Int, L = ((m3.a : Nat) : Int) := ⟨_, rfl⟩
      obtain ⟨b3, hb3⟩ : ∃ L : Int, L = ((m3.b : Nat) : Int) := ⟨_, rfl⟩
      have cW : Calls Tryz.prog 65 #[.pointer (some ⟨rb, 0, none⟩)] w4 fun en w' => en = .returned (.tuple #[.agg #[.int .u8 k3, .int .i64 a3, .int .i64 b3, .int .i64 m3.n, .string (S m3.t)], .int .i64 0]) ∧ Kr rb w4 w' ∧ RS w0 rb l w' m3.b m3.a n' (d + 1) ∧ TS l m3.b ms4 E := by
        rw [hk3, ha3, hb3]
        exact cW
      have HK3 := Lib.hid hk3
      clear hk3 ha3 hb3
      go_wp2_with fail
      refine cW.mono ?_; rintro en w5 ⟨rfl, k5, s5, t5⟩
      have M5 := HM4.out.kr hne7 k5
      have M6 := M5.set5 (.int .u8 k3) (.int .i64 a3) (.int .i64 b3) (.int .i64 m3.n) (.string (S m3.t))
      obtain ⟨⟨q0, q1, q2, q3, q4⟩, qf⟩ := MkAt.cells M5
      obtain ⟨⟨z0, z1, z2, z3, z4⟩, zf⟩ := MkAt.cells M6
      have HS6 := Lib.hid (s5.lex hw07.out hne7.symm (.int .u8 k3) (.int .i64 a3) (.int .i64 b3) (.int .i64 m3.n) (.string (S m3.t)))
      have HL6 := Lib.hid ((HL4.out.kr k5).lex (v0 := .int .u8 k3) (v1 := .int .i64 a3) (v2 := .int .i64 b3) (v3 := .int .i64 m3.n) (v4 := .string (S m3.t)) rfl)
      have HK6 := Lib.hid ((HKl4.out.trans (.of_kr k5)).lex h7w (.int .u8 k3) (.int .i64 a3) (.int .i64 b3) (.int .i64 m3.n) (.string (S m3.t)))
      have HT5 := Lib.hid t5
      have HM6 := Lib.hid M6
      clear cW k5 s5 t5 M5 M6
      by_cases h4 : k3 = 2
      · subst h4
        go_wp2_with fail
        go_ret
        exact ⟨_, HCH.out _ _ (Rd.P_o' (.last HV.out.1 HV.out.2.1 HV.out.2.2.1 HV.out.2.2.2 (by have := HK3.out; omega))), HK6.out, Rd.insN m'.t ns, Rd.insI m'.t y ns is, m3.b, m3.a, n', 0, rfl, HL6.out.less (fun _ h => h.elim), hac9.out, HS6.out, rfl, rfl, rfl, HT5.out⟩
      by_cases h5 : k3 = 5
      · subst h5
        have hm5 : Hid (m3.k = 5) := by have := HK3.out; show m3.k = 5; omega
        obtain ⟨W6, hW6⟩ : ∃ W, W = ((((w5.setCell ⟨b7, 0, none⟩ (.int .u8 5)).setCell ⟨b7, 1, none⟩ (.int .i64 a3)).setCell ⟨b7, 2, none⟩ (.int .i64 b3)).setCell ⟨b7, 3, none⟩ (.int .i64 m3.n)).setCell ⟨b7, 4, none⟩ (.string (S m3.t)) := ⟨_, rfl⟩
        rw [← hW6] at HS6 HL6 HK6 HM6
        have cW := within_any HS6.out HT5.out
        have HMT5 := Lib.hid (HT5.out.ok HS6.out.pos)
        rcases ms4 with _ | ⟨m5, ms6⟩
        · obtain ⟨eI, heI⟩ : ∃ L : Int, L = (Rd.fe E : Int) := ⟨_, rfl⟩
          have hb : (eI != 0) = true := bne_iff_ne.2 (by have := fe_pos E; omega)
          have cW : Calls Tryz.prog 65 #[.pointer (some ⟨rb, 0, none⟩)] W6 fun en w' => en = .returned (.tuple #[.agg #[.int .u8 0, .int .i64 0, .int .i64 0, .int .i64 0, .string ⟨#[]⟩], .int .i64 eI]) ∧ Kr rb W6 w' ∧ ∃ p', RS w0 rb l w' p' E.1 n' (d + 1) := by
            rw [heI]
            exact cW
          have HE := Lib.hid heI
          clear heI
          go_wp2_with fail
          rw [← hW6]
          clear hW6 q0 q1 q2 q3 q4 qf z0 z1 z2 z3 z4 zf
          refine cW.mono ?_; rintro en w7 ⟨rfl, k7, p7, s7⟩
          obtain ⟨⟨q0, q1, q2, q3, q4⟩, qf⟩ := MkAt.cells (HM6.out.kr hne7 k7)
          have HK7 := Lib.hid k7
          have HS7 := Lib.hid s7
          clear cW k7 s7
          go_wp2_with fail
          go_ret
          exact ⟨_, HCH.out _ _ (Rd.P_o' (.next HV.out.1 HV.out.2.1 HV.out.2.2.1 (Rd.P_more HV.out.2.2.2 (Nat.le_max_left f4 2)) hm5.out (Rd.P_more (g := max f4 2) (Rd.P_o' (f := 0) (.short _ _)) (by omega)))), (HK6.out.trans (.of_kr HK7.out)).lex h7w _ _ _ _ _, Rd.insN m'.t ns, Rd.insI m'.t y ns is, p7, E.1, n', Rd.fe E, by rw [HE.out]; rfl, ((HL6.out.kr HK7.out).lex rfl).less (fun _ h => h.elim), hac9.out, HS7.out.lex hw07.out hne7.symm _ _ _ _ _, rfl, fe_pos E, rfl⟩
        · obtain ⟨k5, hk5⟩ : ∃ L : Int, L = ((m5.k : Nat) : Int) := ⟨_, rfl⟩
          obtain ⟨a5, ha5⟩ : ∃ L : Int, L = ((m5.a : Nat) : Int) := ⟨_, rfl⟩
          obtain ⟨b5, hb5⟩ : ∃ L : Int, L = ((m5.b : Nat) : Int) := ⟨_, rfl⟩
          have cW : Calls Tryz.prog 65 #[.pointer (some ⟨rb, 0, none⟩)] W6 fun en w' => en = .returned (.tuple #[.agg #[.int .u8 k5, .int .i64 a5, .int .i64 b5, .int .i64 m5.n, .string (S m5.t)], .int .i64 0]) ∧ Kr rb W6 w' ∧ RS w0 rb l w' m5.b m5.a n' (d + 1) ∧ TS l m5.b ms6 E := by
            rw [hk5, ha5, hb5]
            exact cW
          have HK5 := Lib.hid hk5
          have HA5 := Lib.hid ha5
          have HB5 := Lib.hid hb5
          clear hk5 ha5 hb5
          go_wp2_with fail
          rw [← hW6]
          clear hW6 q0 q1 q2 q3 q4 qf z0 z1 z2 z3 z4 zf
          refine cW.mono ?_; rintro en w7 ⟨rfl, k7, s7, t7⟩
          have M7 := HM6.out.kr hne7 k7
          obtain ⟨⟨q0, q1, q2, q3, q4⟩, qf⟩ := MkAt.cells M7
          have M8 := M7.set5 (.int .u8 k5) (.int .i64 a5) (.int .i64 b5) (.int .i64 m5.n) (.string (S m5.t))
          have S8 := s7.lex hw07.out hne7.symm (.int .u8 k5) (.int .i64 a5) (.int .i64 b5) (.int .i64 m5.n) (.string (S m5.t))
          have L8 := (HL6.out.kr k7).lex (v0 := .int .u8 k5) (v1 := .int .i64 a5) (v2 := .int .i64 b5) (v3 := .int .i64 m5.n) (v4 := .string (S m5.t)) rfl
          have K8 := (HK6.out.trans (.of_kr k7)).lex h7w (.int .u8 k5) (.int .i64 a5) (.int .i64 b5) (.int .i64 m5.n) (.string (S m5.t))
          obtain ⟨W8, hW8⟩ : ∃ W, W = ((((w7.setCell ⟨b7, 0, none⟩ (.int .u8 k5)).setCell ⟨b7, 1, none⟩ (.int .i64 a5)).setCell ⟨b7, 2, none⟩ (.int .i64 b5)).setCell ⟨b7, 3, none⟩ (.int .i64 m5.n)).setCell ⟨b7, 4, none⟩ (.string (S m5.t)) := ⟨_, rfl⟩
          rw [← hW8] at M8 S8 L8 K8
          have hsh : Hid (tsl l (nxt rb W8) < tsl l (nxt rb wr)) := by
            rw [Hid, HMES.out, nxt_rs S8, tsl_eq t7]
            have := HPL.out
            simp only [List.length_cons] at this ⊢
            omega
          have HI8 : Hid (PIO w0 w rb mb b7 l E K d (RO E d (m :: ms) n) W8) := by
            refine ⟨m5, ms6, m5.b, n', Rd.insN m'.t ns, Rd.insI m'.t y ns is, ?_, S8, t7, L8, K8, ?_, hn8.out, hac8.out, HMT5.out m5 List.mem_cons_self, fun f r h => HCH.out _ _ (Rd.P_o' (.next HV.out.1 HV.out.2.1 HV.out.2.2.1 (Rd.P_more HV.out.2.2.2 (Nat.le_max_left f4 f)) hm5.out (Rd.P_more h (Nat.le_max_right f4 f))))⟩
            · rw [← HK5.out, ← HA5.out, ← HB5.out]
              exact M8
            · have h1 := HPL.out
              have h2 := HLM.out
              simp only [List.length_cons] at h1 h2 ⊢
              omega
          clear cW k7 s7 t7 M7 M8 S8 L8 K8
          go_wp2_with fail
          rw [← hW8]
          clear hW8 q0 q1 q2 q3 q4 qf
          go_roundw
          case rel => exact ⟨rfl, HI8.out⟩
          case measure => exact hsh.out
      · have hb4 : (k3 == 2) = false := beq_eq_false_iff_ne.2 h4
        have hb5 : (k3 != 5) = true := bne_iff_ne.2 h5
        have hh : Hid (m3.k ≠ 2 ∧ m3.k ≠ 5) := by have := HK3.out; exact ⟨by omega, by omega⟩
        clear h4 h5
        go_wp2_with fail
        go_ret
        exact ⟨_, HCH.out _ _ (Rd.P_o' (.form3 HV.out.1 HV.out.2.1 HV.out.2.2.1 HV.out.2.2.2 hh.out.1 hh.out.2)), HK6.out, Rd.insN m'.t ns, Rd.insI m'.t y ns is, m3.b, m3.a, n', 3, rfl, HL6.out.less (fun _ h => h.elim), hac9.out, HS6.out, rfl, by decide, rfl⟩
    · have hb : (eI != 0) = true := bne_iff_ne.2 he
      have he0 : e ≠ 0 := by omega
      have HE := Lib.hid heI
      clear heI he
      obtain ⟨_, fo, hfo⟩ := HRM.out.resolve_left fun h => he0 h.1
      have HFO := Lib.hid hfo
      clear hfo HRM
      go_wp2_with fail
      go_ret
      exact ⟨_, HCH.out _ _ HFO.out, HKl4.out, ns4, is4, p', pl', n', e, by rw [HE.out]; rfl, HL4.out.less (fun _ h => h.elim), by have := HI4.out; omega, HS4.out, rfl, he0, rfl⟩
end

section
open Go.RowKit
namespace Rd

/-- the bytes of the marks' texts -/
def TT : List Lm.Mark → Nat
  | [] => 0
  | m :: ms => m.t.length + TT ms
theorem insN_wn {l : List UInt8} : ∀ ns : List (List UInt8), JV.wn (insN l ns) = 2 + l.length + JV.wn ns
  | [] => rfl
  | x :: xs => by
    rw [insN]
    split
    · rw [JV.wn, insN_wn xs, JV.wn]; omega
    · rw [JV.wn]
theorem insI_wts {l : List UInt8} {y : JV} : ∀ (ns : List (List UInt8)) (is : List JV), ns.length = is.length → JV.wts (insI l y ns is) = JV.wts is + y.wt
  | [], [], _ => by simp [insI, JV.wts]
  | x :: xs, z :: zs, h => by
    rw [insI]
    split
    · rw [JV.wts, insI_wts xs zs (by simpa using h), JV.wts]; omega
    · rw [JV.wts, JV.wts]; omega
theorem atom_wt (m : Lm.Mark) : (atom m).wt ≤ 4 + m.t.length := by
  unfold atom
  split
  · simp [JV.wt, JV.wn, JV.wts]
  · split
    · simp [JV.wt, JV.wn, JV.wts]
    · split
      · simp [JV.wt, JV.wn, JV.wts]
      · simp [JV.wt, JV.wn, JV.wts]
def WB : St → JV → Nat → Nat → List Lm.Mark → List Lm.Mark → Prop
  | .v, x, n, n', ms, r => x.wt + 6 * n + TT r + 2 ≤ 6 * n' + TT ms
  | .l acc, x, n, n', ms, r => x.wt + 6 * n + TT r ≤ 4 + JV.wts acc + 6 * n' + TT ms
  | .o ns is, x, n, n', ms, r => ns.length = is.length → x.wt + 6 * n + TT r ≤ 4 + JV.wn ns + JV.wts is + 6 * n' + TT ms
theorem P_wt {E : Nat × Nat} : ∀ (f : Nat) (s : St) (ms : List Lm.Mark) (n d : Nat) (x : JV) (r : List Lm.Mark) (n' : Nat), P E f s ms n d = some (.ok x r n') → WB s x n n' ms r
  | 0, _, _, _, _, _, _, _, h => by cases h
  | f + 1, .v, ms, n, d, x, r, n', h => by
    have ih := P_wt (E := E) f
    have hw := P_v h
    cases hw with
    | @atom m _ _ _ h hn hk =>
      have := atom_wt m
      show _ + _ + _ + 2 ≤ _
      rw [TT]
      omega
    | nolist h hn hd h1 => simp only [WB, TT, JV.wt, JV.wn, JV.wts, List.length_nil]; omega
    | list h hn hd h1 hr =>
      have := ih _ _ _ _ _ _ _ hr
      simp only [WB, TT, JV.wts] at this ⊢
      omega
    | noobj h hn hd h1 => simp only [WB, TT, JV.wt, JV.wn, JV.wts, List.length_nil]; omega
    | obj h hn hd h1 hr =>
      have := ih _ _ _ _ _ _ _ hr rfl
      simp only [TT, JV.wts, JV.wn] at this
      simp only [WB, TT]
      omega
  | f + 1, .l acc, ms, n, d, x, r, n', h => by
    have ih := P_wt (E := E) f
    have hw := P_l h
    cases hw with
    | last hv =>
      have := ih _ _ _ _ _ _ _ hv
      simp only [WB, TT, JV.wt, JV.wn, JV.wts_snoc, List.length_nil] at this ⊢
      omega
    | next hv h1 hr =>
      have h1 := ih _ _ _ _ _ _ _ hv
      have h2 := ih _ _ _ _ _ _ _ hr
      simp only [WB, TT, JV.wts_snoc] at h1 h2 ⊢
      omega
  | f + 1, .o ns is, ms, n, d, x, r, n', h => by
    have ih := P_wt (E := E) f
    have hw := P_o h
    intro hl
    cases hw with
    | last _ _ _ hv =>
      have := ih _ _ _ _ _ _ _ hv
      simp only [WB, TT, JV.wt, insN_wn, insI_wts ns is hl, List.length_nil] at this ⊢
      omega
    | next _ _ _ hv h1 hr =>
      have h1 := ih _ _ _ _ _ _ _ hv
      have h2 := ih _ _ _ _ _ _ _ hr (by rw [insN_len, insI_len ns is hl, hl])
      simp only [WB, TT, insN_wn, insI_wts ns is hl] at h1 h2 ⊢
      omega
end Rd
theorem tok_t {u : List UInt8} {m : Lm.Mark} (h : Lm.tok u = (m, 0)) : m.t.length ≤ m.b := by
  cases u with
  | nil =>
    rw [Lm.tok] at h
    simp only [Prod.mk.injEq, and_true] at h
    rw [← h]
    exact Nat.zero_le _
  | cons c r =>
    rw [Lm.tok] at h
    by_cases h1 : Lm.punct c ≠ 0
    · rw [if_pos h1] at h
      simp only [Prod.mk.injEq, and_true] at h
      rw [← h]
      exact Nat.zero_le _
    rw [if_neg h1] at h
    by_cases h2 : c = 34
    · rw [if_pos h2] at h
      obtain ⟨v, k, e, hx⟩ : ∃ v k e, Qm.RDF r 0 = (v, k, e) := ⟨_, _, _, rfl⟩
      rw [hx] at h
      by_cases he : e = 0
      · subst he
        rw [if_pos rfl] at h
        simp only [Prod.mk.injEq, and_true] at h
        obtain ⟨_, _, _, _, g5, _⟩ := Qm.RDF_within (r.length + 1) r 0 v k (by omega) (by omega) hx
        rw [← h]
        show v.length ≤ 1 + k
        omega
      · rw [if_neg he] at h
        simp only [Prod.mk.injEq] at h
        exact absurd h.2 he
    rw [if_neg h2] at h
    by_cases h3 : Lm.numb c = true
    · rw [if_pos h3] at h
      unfold Lm.tokN at h
      split at h
      · split at h
        · simp only [Prod.mk.injEq, and_true] at h
          rw [← h]
          exact Nat.zero_le _
        · simp at h
      · simp at h
    rw [if_neg h3] at h
    split at h
    · simp only [Prod.mk.injEq, and_true] at h
      rw [← h]
      exact Nat.zero_le _
    · split at h
      · simp only [Prod.mk.injEq, and_true] at h
        rw [← h]
        exact Nat.zero_le _
      · simp at h
theorem mark_t {l : List UInt8} {p : Nat} {m : Lm.Mark} (hp : p ≤ l.length) (h : Lm.mark l p = (m, 0)) : m.t.length + p ≤ m.b := by
  rw [Lm.mark_tok l p hp] at h
  obtain ⟨m0, e, hx⟩ : ∃ m0 e, Lm.tok (l.drop p) = (m0, e) := ⟨_, _, rfl⟩
  rw [hx] at h
  by_cases he : e = 0
  · subst he
    rw [Lm.put_ok] at h
    simp only [Prod.mk.injEq, and_true] at h
    have := tok_t hx
    rw [← h]
    show m0.t.length + p ≤ p + m0.b
    omega
  · rw [Lm.put_no _ _ he] at h
    simp only [Prod.mk.injEq] at h
    exact absurd h.2 he
/-- the texts' bytes are among the text's -/
theorem TS.tt {l : List UInt8} {p : Nat} {ms : List Lm.Mark} {E : Nat × Nat} (h : TS l p ms E) : p ≤ l.length → Rd.TT ms + p ≤ l.length := by
  induction h with
  | stop => intro hp; simpa [Rd.TT] using hp
  | bad => intro hp; simpa [Rd.TT] using hp
  | @more p m ms E h hk hs ih =>
    intro hp
    have hs := Lm.skip_le hp
    have hg := Lm.skip_ge l p
    have ht := mark_t hs h
    have hb : m.b ≤ l.length := by
      rcases Lm.mark_ways l (Lm.skip l p) hs with ⟨h1, _⟩ | ⟨h1, _⟩ | ⟨_, _, _, _, _, h1⟩
      · rw [h] at h1; exact absurd rfl h1
      · rw [h] at h1; simp only [Prod.mk.injEq, and_true] at h1; rw [h1] at hk; exact absurd rfl hk
      · rw [h] at h1; exact h1
    have := ih hb
    rw [Rd.TT]
    omega
/-- what is read has no more than so much -/
theorem read_wt {l : List UInt8} {ms : List Lm.Mark} {E : Nat × Nat} {f : Nat} {x : JV} {r : List Lm.Mark} {n' : Nat} (hT : TS l 0 ms E) (hP : Rd.P E f .v ms 0 0 = some (.ok x r n')) (hl : l.length ≤ 20000) : x.wt ≤ 90000 := by
  have h1 : x.wt + 6 * 0 + Rd.TT r + 2 ≤ 6 * n' + Rd.TT ms := Rd.P_wt _ _ _ _ _ _ _ _ hP
  have h2 := (Rd.P_grow _ _ _ _ _ _ _ _ hP).2
  have h3 := hT.tt (Nat.zero_le _)
  omega
end
end Go.Proofs.YtpifbmcgadjhbaaGreatDoor
