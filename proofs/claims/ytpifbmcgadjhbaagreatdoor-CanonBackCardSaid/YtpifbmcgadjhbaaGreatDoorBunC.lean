/-
  ValRefGet, ValRow, RegApp, ValRefWo, ValOwn: one text.
-/
import Derived.Test.YtpifbmcgadjhbaaGreatDoorValRefCnt
import Derived.Test.YtpifbmcgadjhbaaGreatDoorUtfFirst
import Derived.Laws.AppendOwn
import Derived.Test.YtpifbmcgadjhbaaGreatDoorRegInv
import Derived.Deep.MidRow
import Derived.Great.BuildSlice
import Derived.Lib.OwnKind
import Derived.Deep.AppendLies
namespace Go.Proofs.YtpifbmcgadjhbaaGreatDoor
section
open Go.RowKit

namespace JV
def zero : JV := .mk 0 0 [] [] []
/-- where a name stands first (their number, if nowhere) -/
def find : List (List UInt8) → List UInt8 → Nat
  | [], _ => 0
  | n :: ns, l => if n = l then 0 else find ns l + 1
theorem find_at : ∀ {ns : List (List UInt8)} {l : List UInt8} {i : Nat}, ns[i]? = some l → (∀ (j : Nat) n, j < i → ns[j]? = some n → n ≠ l) → find ns l = i
  | [], l, i, h, _ => by simp at h
  | n :: ns, l, 0, h, _ => by
    obtain rfl : n = l := by simpa using h
    exact if_pos rfl
  | n :: ns, l, i + 1, h, hn => by
    have := find_at (ns := ns) (l := l) (i := i) (by simpa using h) fun j x hj hx => hn (j + 1) x (by omega) (by simpa using hx)
    rw [find, if_neg (hn 0 n (by omega) rfl), this]
theorem find_no : ∀ {ns : List (List UInt8)} {l : List UInt8}, (∀ (j : Nat) n, ns[j]? = some n → n ≠ l) → find ns l = ns.length
  | [], l, _ => rfl
  | n :: ns, l, hn => by
    rw [find, if_neg (hn 0 n rfl), find_no fun j x hx => hn (j + 1) x (by simpa using hx), List.length_cons]
/-- what Get gives -/
def get (x : JV) (l : List UInt8) : JV × Bool :=
  if x.k = 5 then if find x.ns l < x.ns.length then match x.is[find x.ns l]? with | some y => (y, true) | none => (zero, false) else (zero, false) else (zero, false)
end JV
theorem HV.zero (w : World) : HV w (.agg #[.int .u8 0, .int .i64 0, .string ⟨#[]⟩, .slice none 0 0, .slice none 0 0]) JV.zero := by
  refine ⟨_, rfl, ?_⟩
  unfold JV.zero HC
  exact ⟨none, none, 0, 0, rfl, ⟨by omega, by omega, Nat.zero_le _, Nat.zero_le _, Nat.zero_le _, fun x h => by simp at h⟩, fun i x h => by simp at h, .inl rfl⟩
theorem value_size : (Tryz.prog.info? 26).map (·.size) = some 5 := by kernel_rfl
theorem results_val {fn : Func} {t u : Tmp} (h : fn.results = #[.cell t 26, .tmp u]) (tmps : Array Value) (w : World) {b : Nat} {m : Array Value} {fr : Nat × Nat}
    (ht : tmps.getD t undef = .pointer (some ⟨b, 0, none⟩)) (hg : w.heap[b]? = some (.cells m 26 fr)) (hm : m.size = 5) :
    (results fn tmps).run Tryz.prog w = .ok (.tuple #[.agg m, tmps.getD u undef]) w := by
  have hl := run_loadVar_row (P := Tryz.prog) w b 26 26 m fr _ hg Tryz.underlying26 rfl (by rw [hm]; exact value_size)
  have ht' : tmps[t]?.getD undef = .pointer (some ⟨b, 0, none⟩) := by rw [← Array.getD_eq_getD_getElem?]; exact ht
  simp [results, h, ht', asAddr, hl]
theorem VAt.set5 {b : Nat} {w : World} {a0 a1 a2 a3 a4 : Value} (h : VAt b w a0 a1 a2 a3 a4) (v0 v1 v2 v3 v4 : Value) : (((((w.setCell ⟨b, 0, none⟩ v0).setCell ⟨b, 1, none⟩ v1).setCell ⟨b, 2, none⟩ v2).setCell ⟨b, 3, none⟩ v3).setCell ⟨b, 4, none⟩ v4).heap[b]? = some (.cells #[v0, v1, v2, v3, v4] 26 (0, 0)) := by
  have h0 := heap_setCell_same w b 0 _ _ v0 h
  have h1 := heap_setCell_same _ b 1 _ _ v1 h0
  have h2 := heap_setCell_same _ b 2 _ _ v2 h1
  have h3 := heap_setCell_same _ b 3 _ _ v3 h2
  exact heap_setCell_same _ b 4 _ _ v4 h3
theorem below_val {b B : Nat} {w0 w : World} (h : Below B w0 w) (hb : B ≤ b) (v0 v1 v2 v3 v4 : Value) : Below B w0 (((((w.setCell ⟨b, 0, none⟩ v0).setCell ⟨b, 1, none⟩ v1).setCell ⟨b, 2, none⟩ v2).setCell ⟨b, 3, none⟩ v3).setCell ⟨b, 4, none⟩ v4) :=
  ((((h.setCell (p := ⟨b, 0, none⟩) hb _).setCell (p := ⟨b, 1, none⟩) hb _).setCell (p := ⟨b, 2, none⟩) hb _).setCell (p := ⟨b, 3, none⟩) hb _).setCell (p := ⟨b, 4, none⟩) hb _
end

section
section
open Go.RowKit

theorem results_one {fn : Func} {t : Tmp} (h : fn.results = #[.cell t 26]) (tmps : Array Value) (w : World) {b : Nat} {m : Array Value} {fr : Nat × Nat}
    (ht : tmps.getD t undef = .pointer (some ⟨b, 0, none⟩)) (hg : w.heap[b]? = some (.cells m 26 fr)) (hm : m.size = 5) :
    (results fn tmps).run Tryz.prog w = .ok (.agg m) w := by
  have hl := run_loadVar_row (P := Tryz.prog) w b 26 26 m fr _ hg Tryz.underlying26 rfl (by rw [hm]; exact value_size)
  have ht' : tmps[t]?.getD undef = .pointer (some ⟨b, 0, none⟩) := by rw [← Array.getD_eq_getD_getElem?]; exact ht
  simp [results, h, ht', asAddr, hl]
/-- a value of whose slices it is known where they lie -/
theorem HV.of (w : World) (k : Nat) (n : Int) (t : List UInt8) (ns : List (List UInt8)) (is : List JV) (a b : Option Addr) (ca cb : Nat) (hB : JB k n t ns is.length) (hN : NS w a ns) (hI : is = [] ∨ ∃ blk off, b = some ⟨blk, off, none⟩ ∧ HI w blk off is) :
    HV w (.agg #[.int .u8 (k : Int), .int .i64 n, .string (S t), .slice a ns.length ca, .slice b is.length cb]) (.mk k n t ns is) := by
  refine ⟨_, rfl, ?_⟩
  unfold HC
  exact ⟨a, b, ca, cb, rfl, hB, hN, hI⟩
theorem NS.nil (w : World) (a : Option Addr) : NS w a [] := fun i x h => by simp at h
namespace JV
def num (n : Int) : JV := .mk 2 n [] [] []
def text (t : List UInt8) : JV := .mk 3 0 t [] []
def yes : JV := .mk 1 1 [] [] []
def list (is : List JV) : JV := .mk 4 0 [] [] is
def obj (ns : List (List UInt8)) (is : List JV) : JV := .mk 5 0 [] ns is
end JV
end

section
open Go.RowKit

/-- cs are the cells of the values -/
def HCS (w : World) : List Value → List JV → Prop
  | cs, [] => cs = []
  | cs, x :: xs => ∃ c0 c1 c2 c3 c4 r, cs = c0 :: c1 :: c2 :: c3 :: c4 :: r ∧ HC w [c0, c1, c2, c3, c4] x ∧ HCS w r xs
theorem HCS.below {w w' : World} (hb : Below w.heap.size w w') : ∀ (xs : List JV) (cs : List Value), HCS w cs xs → HCS w' cs xs
  | [], _, h => h
  | x :: xs, _, ⟨c0, c1, c2, c3, c4, r, h1, h2, h3⟩ => ⟨c0, c1, c2, c3, c4, r, h1, HC.below hb x _ h2, HCS.below hb xs r h3⟩
theorem HCS.len {w : World} : ∀ {xs : List JV} {cs : List Value}, HCS w cs xs → cs.length = xs.length * 5
  | [], _, h => by rw [show _ = [] from h]; rfl
  | x :: xs, _, ⟨c0, c1, c2, c3, c4, r, h1, _, h3⟩ => by
    rw [h1]
    simp only [List.length_cons, HCS.len h3]
    omega
theorem HCS.nil (w : World) : HCS w [] [] := rfl
theorem HCS.snoc {w : World} {x : JV} {c0 c1 c2 c3 c4 : Value} (hx : HC w [c0, c1, c2, c3, c4] x) : ∀ {xs : List JV} {cs : List Value}, HCS w cs xs → HCS w (cs ++ [c0, c1, c2, c3, c4]) (xs ++ [x])
  | [], _, h => by
    rw [show _ = [] from h]
    exact ⟨c0, c1, c2, c3, c4, [], rfl, hx, rfl⟩
  | y :: ys, _, ⟨d0, d1, d2, d3, d4, r, h1, h2, h3⟩ => by
    rw [h1]
    exact ⟨d0, d1, d2, d3, d4, r ++ [c0, c1, c2, c3, c4], rfl, h2, HCS.snoc hx h3⟩
theorem HCS.one {w : World} {x : JV} {c0 c1 c2 c3 c4 : Value} (hx : HC w [c0, c1, c2, c3, c4] x) : HCS w [c0, c1, c2, c3, c4] [x] := HCS.snoc hx (HCS.nil w)
/-- cells that lie in a row are the values that lie there -/
theorem HI.of_cells {w : World} {blk : Nat} : ∀ {xs : List JV} {cs : List Value} {off : Nat}, HCS w cs xs → (∀ j c, cs[j]? = some c → w.cell? ⟨blk, off + j, none⟩ = some c) → HI w blk off xs
  | [], _, _, _, _ => by unfold HI; trivial
  | x :: xs, _, off, ⟨c0, c1, c2, c3, c4, r, h1, h2, h3⟩, h => by
    subst h1
    unfold HI
    refine ⟨⟨c0, c1, c2, c3, c4, h 0 c0 rfl, h 1 c1 rfl, h 2 c2 rfl, h 3 c3 rfl, h 4 c4 rfl, h2⟩, HI.of_cells h3 fun j c hj => ?_⟩
    have := h (j + 5) c (by simpa using hj)
    rw [show off + (j + 5) = off + 5 + j by omega] at this
    exact this
/-- the cells of names -/
def NC (ns : List (List UInt8)) : List Value := ns.map fun l => .string (S l)
theorem NC_snoc (ns : List (List UInt8)) (l : List UInt8) : NC (ns ++ [l]) = NC ns ++ [.string (S l)] := by simp [NC]
theorem NS.of_cells {w : World} {blk off : Nat} {ns : List (List UInt8)} (h : ∀ j c, (NC ns)[j]? = some c → w.cell? ⟨blk, off + j, none⟩ = some c) : NS w (some ⟨blk, off, none⟩) ns := fun i x hx =>
  ⟨blk, off, rfl, h i _ (by simp [NC, hx])⟩
/-- a row of the call's own, of names -/
theorem NS.of_own {w : World} {B : Nat} {e : TypeId} {v : Value} {ns : List (List UInt8)} (h : w.ownsRow B e 1 v ns.length (NC ns)) : ∃ a ca, v = .slice a ns.length ca ∧ NS w a ns := by
  obtain ⟨hc, hv⟩ := id h
  rcases ns with _ | ⟨n, ns⟩
  · rcases hv with ⟨rfl, _⟩ | ⟨g, cap, _, rfl, _⟩
    · exact ⟨none, 0, rfl, NS.nil _ _⟩
    · exact ⟨_, cap, rfl, NS.nil _ _⟩
  · rcases hv with ⟨_, h0⟩ | ⟨g, cap, _, rfl, _⟩
    · simp at h0
    · refine ⟨_, cap, rfl, NS.of_cells fun j c hj => ?_⟩
      have := h.cells (g := g) rfl j c hj
      rw [Nat.zero_add]
      rw [show ((⟨g, 0, none⟩ : Addr).add j) = ⟨g, j, none⟩ by simp [Addr.add]; omega] at this
      exact this
/-- a row of the call's own, of values -/
theorem HI.of_own {w : World} {B : Nat} {e : TypeId} {v : Value} {is : List JV} {cs : List Value} (h : w.ownsRow B e 5 v is.length cs) (hh : HCS w cs is) : ∃ b cb, v = .slice b is.length cb ∧ (is = [] ∨ ∃ blk off, b = some ⟨blk, off, none⟩ ∧ HI w blk off is) := by
  obtain ⟨hc, hv⟩ := id h
  rcases is with _ | ⟨n, ns⟩
  · rcases hv with ⟨rfl, _⟩ | ⟨g, cap, _, rfl, _⟩
    · exact ⟨none, 0, rfl, .inl rfl⟩
    · exact ⟨_, cap, rfl, .inl rfl⟩
  · rcases hv with ⟨_, h0⟩ | ⟨g, cap, _, rfl, _⟩
    · simp at h0
    · refine ⟨_, cap, rfl, .inr ⟨g, 0, rfl, HI.of_cells hh fun j c hj => ?_⟩⟩
      have := h.cells (g := g) rfl j c hj
      rw [Nat.zero_add]
      rw [show ((⟨g, 0, none⟩ : Addr).add j) = ⟨g, j, none⟩ by simp [Addr.add]; omega] at this
      exact this
/-- values on a block just laid -/
theorem HI.of_block {w : World} {b : Nat} {cs : List Value} {e : TypeId} {fr : Nat × Nat} {is : List JV} (hb : w.heap[b]? = some (.cells cs.toArray e fr)) (hh : HCS w cs is) : HI w b 0 is :=
  HI.of_cells hh fun j c hj => by
    rw [Nat.zero_add]
    rw [cell_of_row w b j _ _ _ hb]
    simpa using hj
theorem NS.of_block {w : World} {b : Nat} {e : TypeId} {fr : Nat × Nat} {ns : List (List UInt8)} (hb : w.heap[b]? = some (.cells (NC ns).toArray e fr)) : NS w (some ⟨b, 0, none⟩) ns :=
  NS.of_cells fun j c hj => by
    rw [Nat.zero_add]
    rw [cell_of_row w b j _ _ _ hb]
    simpa using hj
end
end

section
open Go.RowKit

/-- what an operation waits for has come up before it -/
def Closed (T : List (Option Tmp × Op × List Nat)) (listed : Array Bool) : Prop := ∀ k x, T[k]? = some x → listed.getD k false = true → ∀ n ∈ x.2.2, listed.getD n false = true
theorem Closed.set {T : List (Option Tmp × Op × List Nat)} {listed : Array Bool} {k : Nat} {x : Option Tmp × Op × List Nat} (h : Closed T listed) (hx : T[k]? = some x) (hd : ∀ n ∈ x.2.2, listed.getD n false = true) : Closed T (listed.setIfInBounds k true) := by
  have mono (j : Nat) (hj : listed.getD j false = true) : (listed.setIfInBounds k true).getD j false = true := by
    by_cases e : j = k
    · subst e
      by_cases hl : j < listed.size
      · exact getD_set_self hl
      · simp [hl] at hj
    · rw [getD_set_other e]; exact hj
  intro j y hy hj n hn
  by_cases e : j = k
  · subst e
    rw [hx] at hy
    obtain rfl : x = y := by simpa using hy
    exact mono n (hd n hn)
  · rw [getD_set_other e] at hj
    exact mono n (h j y hy hj n hn)
theorem Closed.zero (T : List (Option Tmp × Op × List Nat)) (n : Nat) : Closed T (Array.replicate n false) := fun k x _ h => by
  simp [Array.getElem?_replicate] at h
  split at h <;> simp at h
theorem not_of_unlisted {l : Array Bool} {j : Nat} (h1 : l.getD j true = false) (h2 : l.getD j false = true) : False := by
  by_cases hl : j < l.size
  · simp [hl] at h1 h2
    rw [h1] at h2; cases h2
  · simp [hl] at h2
/-- the operations of 'x.F = append(x.F, y.F[i])' -/
def TApp (s ot vt it fi : Nat) (S E tV : TypeId) : List (Option Tmp × Op × List Nat) :=
  [(some s, .fieldAddr tV (.tmp ot) fi, []), (some (s + 1), .load S (.tmp s), [0]), (some (s + 2), .fieldAddr tV (.tmp vt) fi, []), (some (s + 3), .load S (.tmp (s + 2)), [2]),
  (some (s + 4), .move (.tmp it), []), (some (s + 5), .indexAddr S (.tmp (s + 3)) (.tmp (s + 4)), [3, 4]), (some (s + 6), .load E (.tmp (s + 5)), [5]),
  (some (s + 7), .buildSlice S 1 #[(0, .tmp (s + 6))], [6]),
  (some (s + 8), .call { callee := .builtin .append, args := #[.tmp (s + 1), .tmp (s + 7)], argTypes := #[S, S] }, [1, 7]),
  (some (s + 9), .fieldAddr tV (.tmp ot) fi, [0, 1, 2, 3, 4, 5, 6, 7, 8]),
  (none, .store S (.tmp (s + 9)) (.tmp (s + 8)), [9, 8, 8, 0, 1, 2, 3, 4, 5, 6, 7, 8])]
def VApp (fo vo fv vs vi px x bs v' : Value) : Nat → Option Value
  | 0 => some fo | 1 => some vo | 2 => some fv | 3 => some vs | 4 => some vi | 5 => some px | 6 => some x | 7 => some bs | 8 => some v' | 9 => some fo | _ => none
def pApp (s : Nat) : Nat → Bool := fun i => decide (s ≤ i) && decide (i ≤ s + 9)
/-- where the world stands -/
def WApp (W1 W2 : World) (Post Fin : Value → World → Prop) (v' : Value) (listed : Array Bool) (w : World) : Prop :=
  (listed.getD 7 false = false → w = W1) ∧ (listed.getD 7 false = true → listed.getD 8 false = false → w = W2) ∧ (listed.getD 8 false = true → listed.getD 10 false = false → Post v' w) ∧ (listed.getD 10 false = true → Fin v' w)
theorem WApp.keep {W1 W2 : World} {Post Fin : Value → World → Prop} {v' : Value} {listed : Array Bool} {w : World} (h : WApp W1 W2 Post Fin v' listed w) {k : Nat} (h7 : 7 ≠ k) (h8 : 8 ≠ k) (h10 : 10 ≠ k) : WApp W1 W2 Post Fin v' (listed.setIfInBounds k true) w := by
  unfold WApp at *
  rw [getD_set_other h7, getD_set_other h8, getD_set_other h10]
  exact h
section
variable {s ot vt it fi : Nat} {S E tV : TypeId} {listed : Array Bool}
theorem app_8 (h : Closed (TApp s ot vt it fi S E tV) listed) (h8 : listed.getD 8 false = true) : ∀ k, k < 8 → listed.getD k false = true := by
  have h1 := h 8 _ rfl h8 1 (by simp)
  have h7 := h 8 _ rfl h8 7 (by simp)
  have h0 := h 1 _ rfl h1 0 (by simp)
  have h6 := h 7 _ rfl h7 6 (by simp)
  have h5 := h 6 _ rfl h6 5 (by simp)
  have h3 := h 5 _ rfl h5 3 (by simp)
  have h4 := h 5 _ rfl h5 4 (by simp)
  have h2 := h 3 _ rfl h3 2 (by simp)
  intro k hk
  rcases k with _ | _ | _ | _ | _ | _ | _ | _ | k
  all_goals first | assumption | omega
theorem app_10 (h : Closed (TApp s ot vt it fi S E tV) listed) (h10 : listed.getD 10 false = true) : listed.getD 8 false = true := h 10 _ rfl h10 8 (by simp)
theorem app_not8 (h : Closed (TApp s ot vt it fi S E tV) listed) {k : Nat} (hk : k < 8) (hun : listed.getD k true = false) : listed.getD 8 false = false := by
  rcases e : listed.getD 8 false with _ | _
  · rfl
  · exact (not_of_unlisted hun (app_8 h e k hk)).elim
end
set_option maxRecDepth 100000 in
theorem wp_region_app {P : Program} {ops : Array Oper} {Q : Exit → Act → World → Prop} {A : Act} {id : Nat} {w1 : World} (s ot vt it fi : Nat) (S E tV : TypeId) (hm : P.follows .mixedOrders = true)
    (hkey : ops.toList.map keyOf = (TApp s ot vt it fi S E tV).map fun x => (x.1, x.2.1, true, x.2.2)) (hlow : (List.range ops.size).all (fun i => match ops[i]? with | some o => o.after.all (fun e => !Region.binds .any e || decide (e.on < i)) | none => true) = true)
    (hsz : s + 9 < A.tmps.size) (hot : ot < s) (hvt : vt < s) (hit : it < s)
    (po pv fo vo fv vs vi px x bs : Value) (eo : A.eval (.tmp ot) = po) (ev : A.eval (.tmp vt) = pv) (ei : A.eval (.tmp it) = vi)
    (W2 : World)
    (r0 : ∀ w, (Instr.fieldAt tV po fi).run P w = .ok fo w)
    (r2 : ∀ w, (Instr.fieldAt tV pv fi).run P w = .ok fv w)
    (r1 : ∀ w, w = w1.drew ∨ w = W2 → (Instr.loadAt S fo).run P w = .ok vo w)
    (r3 : ∀ w, w = w1.drew ∨ w = W2 → (Instr.loadAt S fv).run P w = .ok vs w)
    (r5 : ∀ (o : Oper) (a : Act) (K : Act → World → Prop) w, w = w1.drew ∨ w = W2 → o.op = .indexAddr S (.tmp (s + 3)) (.tmp (s + 4)) → a.eval (.tmp (s + 3)) = vs → a.eval (.tmp (s + 4)) = vi → K (a.put o.dst px) w → o.wp P a w K Q)
    (r6 : ∀ w, w = w1.drew ∨ w = W2 → (Instr.loadAt E px).run P w = .ok x w)
    (r7 : ∀ (o : Oper) (a : Act) (K : Act → World → Prop), o.op = .buildSlice S 1 #[(0, .tmp (s + 6))] → a.eval (.tmp (s + 6)) = x → K (a.put o.dst bs) W2 → o.wp P a w1.drew K Q)
    (Post Fin : Value → World → Prop)
    (r8 : ∀ (o : Oper) (a : Act) (K : Act → World → Prop), o.op = .call { callee := .builtin .append, args := #[.tmp (s + 1), .tmp (s + 7)], argTypes := #[S, S] } → a.eval (.tmp (s + 1)) = vo → a.eval (.tmp (s + 7)) = bs → (∀ v' w', Post v' w' → K (a.put o.dst v') w') → o.wp P a W2 K Q)
    (r10 : ∀ v' w', Post v' w' → ∃ w'', (Instr.storeAt S fo v').run P w' = .ok () w'' ∧ Fin v' w'')
    (fin : ∀ (f : Nat → Value) v' w', Fin v' w' → Q .normal (putR A (pApp s) f) w') : (Code.region id ops true).wp P Q A w1 := by
  refine wp_region_tab hm (TApp s ot vt it fi S E tV) hkey hlow (pApp s) (fun listed f w => listed.size = 11 ∧ Closed (TApp s ot vt it fi S E tV) listed ∧ ∃ v', Tbl s (VApp fo vo fv vs vi px x bs v') listed f ∧ WApp w1.drew W2 Post Fin v' listed w) ?_ ?_ ?_
  · exact ⟨rfl, Closed.zero _ _, .int .i64 0, Tbl.zero _ _ _ _, fun _ => rfl, fun h => (by simp [TApp] at h), fun h => (by simp [TApp] at h), fun h => (by simp [TApp] at h)⟩
  · intro listed f w i y hI hy hun hdep o hd hop
    obtain ⟨hs, hC, v', hT, hW⟩ := hI
    have hC' := hC.set hy hdep
    have PO (j : Nat) (hj : j < s) : (putR A (pApp s) f).eval (.tmp j) = A.eval (.tmp j) := putR_out _ _ _ j (by unfold pApp; simp; omega)
    have EV (k : Nat) (v : Value) (hk : k ≤ 9) (hl : listed.getD k false = true) (hv : VApp fo vo fv vs vi px x bs v' k = some v) : (putR A (pApp s) f).eval (.tmp (s + k)) = v :=
      (putR_in A (pApp s) f (s + k) (by unfold pApp; simp; omega) (by omega)).trans (hT k v hl hv)
    have fin1 (k : Nat) (v : Value) (hk : k ≤ 9) (hC' : Closed (TApp s ot vt it fi S E tV) (listed.setIfInBounds k true)) (hv : VApp fo vo fv vs vi px x bs v' k = some v) (ho : o.dst = some (s + k)) (w3 : World) (hW3 : WApp w1.drew W2 Post Fin v' (listed.setIfInBounds k true) w3) :
        ∃ f', (putR A (pApp s) f).put o.dst v = putR A (pApp s) f' ∧ (listed.setIfInBounds k true).size = 11 ∧ Closed (TApp s ot vt it fi S E tV) (listed.setIfInBounds k true) ∧ ∃ v', Tbl s (VApp fo vo fv vs vi px x bs v') (listed.setIfInBounds k true) f' ∧ WApp w1.drew W2 Post Fin v' (listed.setIfInBounds k true) w3 :=
      ⟨_, by rw [ho]; exact putR_put _ _ _ (s + k) _ (by unfold pApp; simp; omega), by simpa using hs, hC', v', hT.put hv, hW3⟩
    have AB (k : Nat) (hk : k < 8) (hu : listed.getD k true = false) : w = w1.drew ∨ w = W2 := by
      have h8 := app_not8 hC hk hu
      rcases e : listed.getD 7 false with _ | _
      · exact .inl (hW.1 e)
      · exact .inr (hW.2.1 e h8)
    rcases i with _ | _ | _ | _ | _ | _ | _ | _ | _ | _ | _ | i
    all_goals simp only [TApp, List.getElem?_cons_zero, List.getElem?_cons_succ, List.getElem?_nil, Option.some.injEq, reduceCtorEq] at hy
    all_goals subst hy
    · exact op_field hop ((PO ot hot).trans eo) (r0 w) (fin1 0 _ (by omega) hC' rfl hd w (hW.keep (by decide) (by decide) (by decide)))
    · exact op_load hop (EV 0 _ (by omega) (hdep 0 (by simp)) rfl) (r1 w (AB 1 (by omega) hun)) (fin1 1 _ (by omega) hC' rfl hd w (hW.keep (by decide) (by decide) (by decide)))
    · exact op_field hop ((PO vt hvt).trans ev) (r2 w) (fin1 2 _ (by omega) hC' rfl hd w (hW.keep (by decide) (by decide) (by decide)))
    · exact op_load hop (EV 2 _ (by omega) (hdep 2 (by simp)) rfl) (r3 w (AB 3 (by omega) hun)) (fin1 3 _ (by omega) hC' rfl hd w (hW.keep (by decide) (by decide) (by decide)))
    · exact op_move hop ((PO it hit).trans ei) (fin1 4 _ (by omega) hC' rfl hd w (hW.keep (by decide) (by decide) (by decide)))
    · exact r5 o _ _ w (AB 5 (by omega) hun) hop (EV 3 _ (by omega) (hdep 3 (by simp)) rfl) (EV 4 _ (by omega) (hdep 4 (by simp)) rfl) (fin1 5 _ (by omega) hC' rfl hd w (hW.keep (by decide) (by decide) (by decide)))
    · exact op_load hop (EV 5 _ (by omega) (hdep 5 (by simp)) rfl) (r6 w (AB 6 (by omega) hun)) (fin1 6 _ (by omega) hC' rfl hd w (hW.keep (by decide) (by decide) (by decide)))
    · have h7 : listed.getD 7 false = false := by
        rcases e : listed.getD 7 false with _ | _
        · rfl
        · exact (not_of_unlisted hun e).elim
      have h8 := app_not8 hC (k := 7) (by omega) hun
      obtain rfl := hW.1 h7
      refine r7 o _ _ hop (EV 6 _ (by omega) (hdep 6 (by simp)) rfl) (fin1 7 _ (by omega) hC' rfl hd W2 ⟨fun h => ?_, fun _ _ => rfl, fun h => ?_, fun h => ?_⟩)
      · rw [getD_set_self (by omega)] at h; cases h
      · rw [getD_set_other (by decide), h8] at h; cases h
      · rw [getD_set_other (by decide)] at h
        rw [app_10 hC h] at h8; cases h8
    · have h7 := hdep 7 (by simp)
      have h8 : listed.getD 8 false = false := by
        rcases e : listed.getD 8 false with _ | _
        · rfl
        · exact (not_of_unlisted hun e).elim
      obtain rfl := hW.2.1 h7 h8
      refine r8 o _ _ hop (EV 1 _ (by omega) (hdep 1 (by simp)) rfl) (EV 7 _ (by omega) h7 rfl) fun v2 w' hp => ?_
      have hT2 : Tbl s (VApp fo vo fv vs vi px x bs v2) listed f := fun k v hl hv => hT k v hl (by
        rcases k with _ | _ | _ | _ | _ | _ | _ | _ | _ | _ | k
        all_goals first | exact hv | (rw [h8] at hl; cases hl))
      refine ⟨_, by rw [hd]; exact putR_put _ _ _ (s + 8) _ (by unfold pApp; simp), by simpa using hs, hC', v2, hT2.put rfl, fun h => ?_, fun _ h => ?_, fun _ _ => hp, fun h => ?_⟩
      · rw [getD_set_other (by decide), h7] at h; cases h
      · rw [getD_set_self (by omega)] at h; cases h
      · rw [getD_set_other (by decide)] at h
        rw [app_10 hC h] at h8; cases h8
    · exact op_field hop ((PO ot hot).trans eo) (r0 w) (fin1 9 _ (by omega) hC' rfl hd w (hW.keep (by decide) (by decide) (by decide)))
    · have h8 := hdep 8 (by simp)
      have h10 : listed.getD 10 false = false := by
        rcases e : listed.getD 10 false with _ | _
        · rfl
        · exact (not_of_unlisted hun e).elim
      obtain ⟨w'', hr, hf⟩ := r10 v' w (hW.2.2.1 h8 h10)
      refine op_store hop (EV 9 _ (by omega) (hdep 9 (by simp)) rfl) (EV 8 _ (by omega) h8 rfl) hd hr ⟨f, rfl, by simpa using hs, hC', v', hT.skip rfl, fun h => ?_, fun _ h => ?_, fun _ h => ?_, fun _ => hf⟩
      · rw [getD_set_other (by decide), hdep 7 (by simp)] at h; cases h
      · rw [getD_set_other (by decide), h8] at h; cases h
      · rw [getD_set_self (by omega)] at h; cases h
  · intro listed f w hI hall
    obtain ⟨hs, hC, v', hT, hW⟩ := hI
    exact fin f v' w (hW.2.2.2 (hall 10 (by show 10 < 11; omega)))
end

section
section
open Go.RowKit

theorem ld_one {t : TypeId} (hagg : ∀ w, (isAgg t).run Tryz.prog w = .ok false w) (w : World) {a : Addr} {c : Value} (h : w.cell? a = some c) : (Instr.loadAt t (.pointer (some a))).run Tryz.prog w = .ok c w := by
  simp [Instr.loadAt, Instr.sureAddr, loadVar, hagg, h]
theorem agg_names (w : World) : (isAgg 23).run Tryz.prog w = .ok false w := by kernel_rfl
theorem agg_items (w : World) : (isAgg 24).run Tryz.prog w = .ok false w := by kernel_rfl
theorem agg_str (w : World) : (isAgg 9).run Tryz.prog w = .ok false w := by kernel_rfl
theorem fld3 (b : Nat) (w : World) : (Instr.fieldAt 26 (.pointer (some ⟨b, 0, none⟩)) 3).run Tryz.prog w = .ok (.pointer (some ⟨b, 3, none⟩)) w := by kernel_rfl
theorem fld4 (b : Nat) (w : World) : (Instr.fieldAt 26 (.pointer (some ⟨b, 0, none⟩)) 4).run Tryz.prog w = .ok (.pointer (some ⟨b, 4, none⟩)) w := by kernel_rfl
theorem st_slice {t : TypeId} (hs : (Tryz.prog.info? t).map (·.size) = some 1) (w : World) {a : Addr} {c : Value} {p : Option Addr} {l k : Nat} (h : w.cell? a = some c) (hf : w.frozen? a = false) :
    (Instr.storeAt t (.pointer (some a)) (.slice p l k)).run Tryz.prog w = .ok () (w.setCell a (.slice p l k)) := by
  cases hq : Tryz.prog.info? t with
  | none => simp [hq] at hs
  | some i =>
    have hs : i.size = 1 := by simpa [hq] using hs
    simp [Instr.storeAt, Instr.sureAddr, storeVar, sizeOf, typeInfo, hq, hs, Value.cells, storeCells, go_sem, stored, h, hf]
theorem ix_names (b o r c i : Nat) (w : World) (hi : i < r) : (Instr.indexAt 23 (.slice (some ⟨b, o, none⟩) r c) (.int .i64 (i : Int))).run Tryz.prog w = .ok (.pointer (some ⟨b, o + i, none⟩)) w := by
  have hu := Tryz.underlying23
  simp [Instr.indexAt, asIntOf, run_underlying hu, hi, Addr.add]
theorem ix_items (b o r c i : Nat) (w : World) (hi : i < r) : (Instr.indexAt 24 (.slice (some ⟨b, o, none⟩) r c) (.int .i64 (i : Int))).run Tryz.prog w = .ok (.pointer (some ⟨b, o + i * 5, none⟩)) w := by
  have hu := Tryz.underlying24
  simp [Instr.indexAt, asIntOf, run_underlying hu, hi, Addr.add]
/-- nothing that was there has turned, but for block ob and block g -/
structure Kb (ob : Nat) (g : Option Nat) (w w' : World) : Prop where
  os : w'.os = w.os
  tape : w'.tape = w.tape
  output : w'.output = w.output
  size : w.heap.size ≤ w'.heap.size
  block : ∀ k, k < w.heap.size → k ≠ ob → some k ≠ g → w'.heap[k]? = w.heap[k]?
theorem info_name : (Tryz.prog.info? 9).map (fun i => (i.zero, i.size, i.bytes)) = some (some (.string ⟨#[]⟩), 1, 16) := by kernel_rfl
theorem VAt.set3 {b : Nat} {w : World} {a0 a1 a2 a3 a4 : Value} (h : VAt b w a0 a1 a2 a3 a4) (v : Value) : VAt b (w.setCell ⟨b, 3, none⟩ v) a0 a1 a2 v a4 := heap_setCell_same w b 3 _ _ v h
theorem VAt.set4 {b : Nat} {w : World} {a0 a1 a2 a3 a4 : Value} (h : VAt b w a0 a1 a2 a3 a4) (v : Value) : VAt b (w.setCell ⟨b, 4, none⟩ v) a0 a1 a2 a3 v := heap_setCell_same w b 4 _ _ v h
theorem fill_str (t : ByteArray) : Instr.fill (fun i => some (i * 1, 1)) ((Array.range (1 * 1)).map ((Value.string ⟨#[]⟩).cells[· % (Value.string ⟨#[]⟩).cells.size]!)) [(0, .string t)] = some #[.string t] := by kernel_rfl
theorem below_drew (w : World) : Below w.heap.size w w.drew := ⟨rfl, rfl, rfl, Nat.le_refl _, fun _ _ => rfl⟩
set_option maxHeartbeats 1000000 in
theorem region_names {ops : Array Oper} {Q : Exit → Act → World → Prop} {A : Act} {id : Nat} {w1 : World} (s ot vt it : Nat)
    (hkey : ops.toList.map keyOf = (TApp s ot vt it 3 23 9 26).map fun x => (x.1, x.2.1, true, x.2.2)) (hlow : (List.range ops.size).all (fun i => match ops[i]? with | some o => o.after.all (fun e => !Region.binds .any e || decide (e.on < i)) | none => true) = true)
    (hsz : s + 9 < A.tmps.size) (hot : ot < s) (hvt : vt < s) (hit : it < s)
    {B ob vb : Nat} {a0 a1 a2 v a4 v0 v1 v2 v4 : Value} {nb no r c i n : Nat} {p : List UInt8} {xs : List Value}
    (eo : A.eval (.tmp ot) = .pointer (some ⟨ob, 0, none⟩)) (ev : A.eval (.tmp vt) = .pointer (some ⟨vb, 0, none⟩)) (ei : A.eval (.tmp it) = .int .i64 (i : Int))
    (hO : VAt ob w1 a0 a1 a2 v a4) (hV : VAt vb w1 v0 v1 v2 (.slice (some ⟨nb, no, none⟩) r c) v4) (hi : i < r) (hp : w1.cell? ⟨nb, no + i, none⟩ = some (.string (S p)))
    (hown : w1.ownsRow B 9 1 v n xs) (hB : B ≤ w1.heap.size) (hob : ob < B) (hn : n + 1 ≤ 90000)
    (fin : ∀ (f : Nat → Value) v' w', VAt ob w' a0 a1 a2 v' a4 → w'.ownsRow B 9 1 v' (n + 1) (xs ++ [.string (S p)]) → Kb ob v.ownBlock w1 w' → Q .normal (putR A (pApp s) f) w') :
    (Code.region id ops true).wp Tryz.prog Q A w1 := by
  obtain ⟨i0, hi0, hz0, hz1, hz2⟩ := info_parts info_name
  have b1 := below_drew w1
  have b2 : Below w1.heap.size w1 (w1.drew.alloc (.cells #[.string (S p)] 9)) := b1.alloc (Nat.le_refl _) _
  have hlt : ob < w1.heap.size := (Array.getElem?_eq_some_iff.1 hO).1
  have BE : ∀ w, w = w1.drew ∨ w = w1.drew.alloc (.cells #[.string (S p)] 9) → Below w1.heap.size w1 w := fun w h => by
    rcases h with rfl | rfl
    · exact b1
    · exact b2
  have hown2 : (w1.drew.alloc (.cells #[.string (S p)] 9)).ownsRow B 9 1 v n xs := (World.ownsRow.drew hown).alloc _
  have hrow : ∀ k, v.ownBlock = some k → B ≤ k := fun k e => (hown.lt k e).1
  refine wp_region_app s ot vt it 3 23 9 26 (by kernel_rfl) hkey hlow hsz hot hvt hit
    (.pointer (some ⟨ob, 0, none⟩)) (.pointer (some ⟨vb, 0, none⟩)) (.pointer (some ⟨ob, 3, none⟩)) v (.pointer (some ⟨vb, 3, none⟩)) (.slice (some ⟨nb, no, none⟩) r c) (.int .i64 (i : Int)) (.pointer (some ⟨nb, no + i, none⟩)) (.string (S p)) (.slice (some ⟨w1.heap.size, 0, none⟩) 1 1) eo ev ei
    (w1.drew.alloc (.cells #[.string (S p)] 9)) (fld3 ob) (fld3 vb) (fun w h => ?_) (fun w h => ?_) (fun o a K w _ ho h1 h2 hk => ?_) (fun w h => ?_) (fun o a K ho h1 hk => ?_)
    (fun v' w' => w'.ownsRow B 9 1 v' (n + 1) (xs ++ [.string (S p)]) ∧ (w1.drew.alloc (.cells #[.string (S p)] 9)).grownBy w' v.ownBlock)
    (fun v' w' => VAt ob w' a0 a1 a2 v' a4 ∧ w'.ownsRow B 9 1 v' (n + 1) (xs ++ [.string (S p)]) ∧ Kb ob v.ownBlock w1 w')
    (fun o a K ho h1 h2 hk => ?_) (fun v' w' ⟨h1, h2⟩ => ?_) (fun f v' w' ⟨h1, h2, h3⟩ => fin f v' w' h1 h2 h3)
  · exact ld_one agg_names w ((hO.below (BE w h)).cells.1.2.2.2.1)
  · exact ld_one agg_names w ((hV.below (BE w h)).cells.1.2.2.2.1)
  · exact wp_val (by simp [execOp, ho, h1, h2, ix_names nb no r c i w hi]) hk
  · exact ld_one agg_str w (((BE w h).cell (World.block_lt_of_cell? w1 _ hp)).trans hp)
  · refine wp_buildSlice 23 9 1 _ ho #[.string (S p)] i0 _ Tryz.underlying23 hi0 hz0 (by rw [hz1]; decide) (by rw [hz1]; decide) ?_ hk
    rw [hz1, show (#[(0, Operand.tmp (s + 6))].map fun x : Nat × Operand => (x.1, a.eval x.2)).toList = [(0, Value.string (S p))] by simp [h1]]
    exact fill_str (S p)
  · refine wp_append_own _ (.tmp (s + 1)) (.tmp (s + 7)) 23 ho B 9 i0 (.string ⟨#[]⟩) 1 16 Tryz.underlying23 hi0 hz0 hz1 hz2 rfl (by decide) v n xs h1 hown2 ⟨w1.heap.size, 0, none⟩ 1 1 [.string (S p)] h2 rfl ?_ (by simp [Value.oneCell']) (by unfold maxLen; omega) (by omega) (by simp; omega) fun v' w' g1 g2 _ => hk v' w' ⟨g1, g2⟩
    exact World.news_of_block (cs := #[.string (S p)]) (t := 9) (fr := (0, 0)) (heap_alloc_new w1.drew _)
  · have hO' : VAt ob w' a0 a1 a2 v a4 := (h2.block ob (Nat.lt_of_lt_of_le hlt b2.size) (fun e => by have := hrow ob e.symm; omega)).trans (hO.below b2)
    obtain ⟨⟨_, _, _, q3, _⟩, qf⟩ := hO'.cells
    obtain ⟨pp, ll, kk, rfl⟩ : ∃ pp ll kk, v' = .slice pp ll kk := by
      rcases h1.2 with ⟨rfl, _⟩ | ⟨g, cap, _, rfl, _⟩
      · exact ⟨_, _, _, rfl⟩
      · exact ⟨_, _, _, rfl⟩
    refine ⟨_, st_slice (by kernel_rfl) w' q3 (qf 3), hO'.set3 _, ownsRow_setCell_below h1 hob _, ?_⟩
    exact ⟨h2.os.trans b2.os, h2.tape.trans b2.tape, h2.output.trans b2.output, Nat.le_trans b2.size (by have := h2.size; simpa using this), fun k hk hne hg => by
      rw [← b2.block k hk, ← h2.block k (Nat.lt_of_lt_of_le hk b2.size) hg]
      exact heap_setCell_other w' ⟨ob, 3, none⟩ k _ hne⟩
end

section
open Go.RowKit

def V5 : Array Value := #[.int .u8 0, .int .i64 0, .string ⟨#[]⟩, .slice none 0 0, .slice none 0 0]
theorem info_val : (Tryz.prog.info? 26).map (fun i => (i.zero, i.size, i.bytes)) = some (some (.agg V5), 5, 80) := by kernel_rfl
theorem fill_val (c0 c1 c2 c3 c4 : Value) : Instr.fill (fun i => some (i * 5, 5)) ((Array.range (1 * 5)).map ((Value.agg V5).cells[· % (Value.agg V5).cells.size]!)) [(0, .agg #[c0, c1, c2, c3, c4])] = some #[c0, c1, c2, c3, c4] := by kernel_rfl
theorem ld_val (w : World) {b o : Nat} {c0 c1 c2 c3 c4 : Value} (h : w.rangeAt b o [c0, c1, c2, c3, c4]) : (Instr.loadAt 26 (.pointer (some ⟨b, o, none⟩))).run Tryz.prog w = .ok (.agg #[c0, c1, c2, c3, c4]) w :=
  run_loadAt_mid w b o 26 _ _ h Tryz.underlying26 rfl (by kernel_rfl)
set_option maxHeartbeats 1000000 in
theorem region_items {ops : Array Oper} {Q : Exit → Act → World → Prop} {A : Act} {id : Nat} {w1 : World} (s ot vt it : Nat)
    (hkey : ops.toList.map keyOf = (TApp s ot vt it 4 24 26 26).map fun x => (x.1, x.2.1, true, x.2.2)) (hlow : (List.range ops.size).all (fun i => match ops[i]? with | some o => o.after.all (fun e => !Region.binds .any e || decide (e.on < i)) | none => true) = true)
    (hsz : s + 9 < A.tmps.size) (hot : ot < s) (hvt : vt < s) (hit : it < s)
    {B ob vb : Nat} {a0 a1 a2 a3 v v0 v1 v2 v3 : Value} {nb no r c i n : Nat} {c0 c1 c2 c3 c4 : Value} {xs : List Value}
    (eo : A.eval (.tmp ot) = .pointer (some ⟨ob, 0, none⟩)) (ev : A.eval (.tmp vt) = .pointer (some ⟨vb, 0, none⟩)) (ei : A.eval (.tmp it) = .int .i64 (i : Int))
    (hO : VAt ob w1 a0 a1 a2 a3 v) (hV : VAt vb w1 v0 v1 v2 v3 (.slice (some ⟨nb, no, none⟩) r c)) (hi : i < r) (hp : w1.rangeAt nb (no + i * 5) [c0, c1, c2, c3, c4])
    (hone : ∀ u ∈ [c0, c1, c2, c3, c4], u.oneCell' = true)
    (hown : w1.ownsRow B 26 5 v n xs) (hB : B ≤ w1.heap.size) (hob : ob < B) (hn : n + 1 ≤ 90000)
    (fin : ∀ (f : Nat → Value) v' w', VAt ob w' a0 a1 a2 a3 v' → w'.ownsRow B 26 5 v' (n + 1) (xs ++ [c0, c1, c2, c3, c4]) → Kb ob v.ownBlock w1 w' → Q .normal (putR A (pApp s) f) w') :
    (Code.region id ops true).wp Tryz.prog Q A w1 := by
  obtain ⟨i0, hi0, hz0, hz1, hz2⟩ := info_parts info_val
  have b1 := below_drew w1
  have b2 : Below w1.heap.size w1 (w1.drew.alloc (.cells #[c0, c1, c2, c3, c4] 26)) := b1.alloc (Nat.le_refl _) _
  have hlt : ob < w1.heap.size := (Array.getElem?_eq_some_iff.1 hO).1
  have BE : ∀ w, w = w1.drew ∨ w = w1.drew.alloc (.cells #[c0, c1, c2, c3, c4] 26) → Below w1.heap.size w1 w := fun w h => by
    rcases h with rfl | rfl
    · exact b1
    · exact b2
  have hown2 : (w1.drew.alloc (.cells #[c0, c1, c2, c3, c4] 26)).ownsRow B 26 5 v n xs := (World.ownsRow.drew hown).alloc _
  have hrow : ∀ k, v.ownBlock = some k → B ≤ k := fun k e => (hown.lt k e).1
  refine wp_region_app s ot vt it 4 24 26 26 (by kernel_rfl) hkey hlow hsz hot hvt hit
    (.pointer (some ⟨ob, 0, none⟩)) (.pointer (some ⟨vb, 0, none⟩)) (.pointer (some ⟨ob, 4, none⟩)) v (.pointer (some ⟨vb, 4, none⟩)) (.slice (some ⟨nb, no, none⟩) r c) (.int .i64 (i : Int)) (.pointer (some ⟨nb, no + i * 5, none⟩)) (.agg #[c0, c1, c2, c3, c4]) (.slice (some ⟨w1.heap.size, 0, none⟩) 1 1) eo ev ei
    (w1.drew.alloc (.cells #[c0, c1, c2, c3, c4] 26)) (fld4 ob) (fld4 vb) (fun w h => ?_) (fun w h => ?_) (fun o a K w _ ho h1 h2 hk => ?_) (fun w h => ?_) (fun o a K ho h1 hk => ?_)
    (fun v' w' => w'.ownsRow B 26 5 v' (n + 1) (xs ++ [c0, c1, c2, c3, c4]) ∧ (w1.drew.alloc (.cells #[c0, c1, c2, c3, c4] 26)).grownBy w' v.ownBlock)
    (fun v' w' => VAt ob w' a0 a1 a2 a3 v' ∧ w'.ownsRow B 26 5 v' (n + 1) (xs ++ [c0, c1, c2, c3, c4]) ∧ Kb ob v.ownBlock w1 w')
    (fun o a K ho h1 h2 hk => ?_) (fun v' w' ⟨h1, h2⟩ => ?_) (fun f v' w' ⟨h1, h2, h3⟩ => fin f v' w' h1 h2 h3)
  · exact ld_one agg_items w ((hO.below (BE w h)).cells.1.2.2.2.2)
  · exact ld_one agg_items w ((hV.below (BE w h)).cells.1.2.2.2.2)
  · exact wp_val (by simp [execOp, ho, h1, h2, ix_items nb no r c i w hi]) hk
  · exact ld_val w fun j u hj => ((BE w h).cell (World.block_lt_of_cell? w1 _ (hp j u hj))).trans (hp j u hj)
  · refine wp_buildSlice 24 26 1 _ ho #[c0, c1, c2, c3, c4] i0 _ Tryz.underlying24 hi0 hz0 (by rw [hz1]; decide) (by rw [hz1]; decide) ?_ hk
    rw [hz1, show (#[(0, Operand.tmp (s + 6))].map fun x : Nat × Operand => (x.1, a.eval x.2)).toList = [(0, Value.agg #[c0, c1, c2, c3, c4])] by simp [h1]]
    exact fill_val c0 c1 c2 c3 c4
  · refine wp_append_own _ (.tmp (s + 1)) (.tmp (s + 7)) 24 ho B 26 i0 (.agg V5) 5 80 Tryz.underlying24 hi0 hz0 hz1 hz2 rfl (by decide) v n xs h1 hown2 ⟨w1.heap.size, 0, none⟩ 1 1 [c0, c1, c2, c3, c4] h2 rfl ?_ hone (by unfold maxLen; omega) (by omega) (by simp; omega) fun v' w' g1 g2 _ => hk v' w' ⟨g1, g2⟩
    exact World.news_of_block (cs := #[c0, c1, c2, c3, c4]) (t := 26) (fr := (0, 0)) (heap_alloc_new w1.drew _)
  · have hO' : VAt ob w' a0 a1 a2 a3 v := (h2.block ob (Nat.lt_of_lt_of_le hlt b2.size) (fun e => by have := hrow ob e.symm; omega)).trans (hO.below b2)
    obtain ⟨⟨_, _, _, _, q4⟩, qf⟩ := hO'.cells
    obtain ⟨pp, ll, kk, rfl⟩ : ∃ pp ll kk, v' = .slice pp ll kk := by
      rcases h1.2 with ⟨rfl, _⟩ | ⟨g, cap, _, rfl, _⟩
      · exact ⟨_, _, _, rfl⟩
      · exact ⟨_, _, _, rfl⟩
    refine ⟨_, st_slice (by kernel_rfl) w' q4 (qf 4), hO'.set4 _, ownsRow_setCell_below h1 hob _, ?_⟩
    exact ⟨h2.os.trans b2.os, h2.tape.trans b2.tape, h2.output.trans b2.output, Nat.le_trans b2.size (by have := h2.size; simpa using this), fun k hk hne hg => by
      rw [← b2.block k hk, ← h2.block k (Nat.lt_of_lt_of_le hk b2.size) hg]
      exact heap_setCell_other w' ⟨ob, 4, none⟩ k _ hne⟩
end

section
open Go.RowKit

namespace JV
/-- the names, and their Items, but for one name -/
def keep : List (List UInt8) → List JV → List UInt8 → List (List UInt8) × List JV
  | n :: ns, y :: ys, l => if n = l then keep ns ys l else (n :: (keep ns ys l).1, y :: (keep ns ys l).2)
  | _, _, _ => ([], [])
theorem keep_snoc (n : List UInt8) (y : JV) (l : List UInt8) : ∀ (ns : List (List UInt8)) (ys : List JV), ns.length = ys.length →
    keep (ns ++ [n]) (ys ++ [y]) l = if n = l then keep ns ys l else ((keep ns ys l).1 ++ [n], (keep ns ys l).2 ++ [y])
  | [], [], _ => by simp [keep]
  | m :: ns, z :: ys, h => by
    have := keep_snoc n y l ns ys (by simpa using h)
    rw [List.cons_append, List.cons_append, keep, keep, this]
    by_cases h1 : m = l
    · simp [h1]
    · by_cases h2 : n = l
      · simp [h1, h2]
      · simp [h1, h2]
theorem keep_len (l : List UInt8) : ∀ (ns : List (List UInt8)) (ys : List JV), (keep ns ys l).1.length = (keep ns ys l).2.length ∧ (keep ns ys l).1.length ≤ ns.length
  | [], ys => by cases ys <;> simp [keep]
  | n :: ns, [] => by simp [keep]
  | n :: ns, y :: ys => by
    have := keep_len l ns ys
    rw [keep]
    by_cases h : n = l
    · rw [if_pos h]; exact ⟨this.1, by rw [List.length_cons]; omega⟩
    · rw [if_neg h]; simp only [List.length_cons]; omega
theorem keep_mem (l : List UInt8) : ∀ (ns : List (List UInt8)) (ys : List JV) (x : List UInt8), x ∈ (keep ns ys l).1 → x ∈ ns
  | [], ys, x, h => by cases ys <;> simp [keep] at h
  | n :: ns, [], x, h => by simp [keep] at h
  | n :: ns, y :: ys, x, h => by
    rw [keep] at h
    by_cases h1 : n = l
    · rw [if_pos h1] at h; exact List.mem_cons_of_mem _ (keep_mem l ns ys x h)
    · rw [if_neg h1] at h
      rcases List.mem_cons.1 h with h2 | h2
      · rw [h2]; exact List.mem_cons_self
      · exact List.mem_cons_of_mem _ (keep_mem l ns ys x h2)
/-- what Without gives -/
def without (x : JV) (l : List UInt8) : JV × Bool :=
  if x.k = 5 ∧ x.ns.length = x.is.length then (.mk 5 x.n x.t (keep x.ns x.is l).1 (keep x.ns x.is l).2, decide ((keep x.ns x.is l).1.length < x.ns.length)) else (x, false)
end JV
/-- what the loop keeps: nothing of what came in has turned; the new value's block; its rows are the call's own -/
structure WoI (w wr : World) (x : JV) (l : List UInt8) (nI : Int) (t : List UInt8) (i : Nat) (v0 v1 v2 v3 v4 : Value) : Prop where
  below : Below w.heap.size w wr
  hv : VAt w.heap.size wr v0 v1 v2 v3 v4
  hr : VAt (w.heap.size + 1) wr (.int .u8 0) (.int .i64 0) (.string ⟨#[]⟩) (.slice none 0 0) (.slice none 0 0)
  size : w.heap.size + 3 ≤ wr.heap.size
  own : ∃ nv xv cs, VAt (w.heap.size + 2) wr (.int .u8 5) (.int .i64 nI) (.string (S t)) nv xv ∧ wr.ownsRow (w.heap.size + 3) 9 1 nv (JV.keep (x.ns.take i) (x.is.take i) l).1.length (NC (JV.keep (x.ns.take i) (x.is.take i) l).1) ∧
    wr.ownsRow (w.heap.size + 3) 26 5 xv (JV.keep (x.ns.take i) (x.is.take i) l).2.length cs ∧ HCS w cs (JV.keep (x.ns.take i) (x.is.take i) l).2
theorem Kb.below {ob : Nat} {g : Option Nat} {w w1 w2 : World} (h : Kb ob g w1 w2) (hb : Below w.heap.size w w1) (ho : w.heap.size ≤ ob) (hg : ∀ k, g = some k → w.heap.size ≤ k) : Below w.heap.size w w2 :=
  ⟨h.os.trans hb.os, h.tape.trans hb.tape, h.output.trans hb.output, Nat.le_trans hb.size h.size, fun k hk => (h.block k (Nat.lt_of_lt_of_le hk hb.size) (by omega) (fun e => by have := hg k e.symm; omega)).trans (hb.block k hk)⟩
theorem Kb.vat {ob b : Nat} {g : Option Nat} {w1 w2 : World} {a0 a1 a2 a3 a4 : Value} (h : Kb ob g w1 w2) (hv : VAt b w1 a0 a1 a2 a3 a4) (hb : b ≠ ob) (hg : some b ≠ g) : VAt b w2 a0 a1 a2 a3 a4 :=
  (h.block b (Array.getElem?_eq_some_iff.1 hv).1 hb hg).trans hv
/-- a row of the call's own is kept, if its block is another one -/
theorem Kb.own {ob : Nat} {g : Option Nat} {w1 w2 : World} {B : Nat} {e : TypeId} {sz : Nat} {v : Value} {n : Nat} {xs : List Value} (h : Kb ob g w1 w2) (ho : w1.ownsRow B e sz v n xs) (hb : ob < B) (hne : ∀ k, v.ownBlock = some k → some k ≠ g) : w2.ownsRow B e sz v n xs := by
  obtain ⟨h1, h2⟩ := id ho
  refine ⟨h1, ?_⟩
  rcases h2 with h2 | ⟨gg, cap, cur, rfl, h3, h4, h5⟩
  · exact .inl h2
  · exact .inr ⟨gg, cap, cur, rfl, h3, (h.block gg (Array.getElem?_eq_some_iff.1 h4).1 (by omega) (hne gg rfl)).trans h4, h5⟩
/-- rows of two kinds lie on two blocks -/
theorem own_apart {w : World} {B B' : Nat} {e e' : TypeId} {sz sz' n n' : Nat} {v v' : Value} {xs xs' : List Value} (h : w.ownsRow B e sz v n xs) (h' : w.ownsRow B' e' sz' v' n' xs') (he : e ≠ e') : ∀ k, v.ownBlock = some k → some k ≠ v'.ownBlock := fun k hk e => by
  obtain ⟨c, fz, h1⟩ := Lib.ownsRow_kind h k hk
  obtain ⟨c', fz', h2⟩ := Lib.ownsRow_kind h' k e.symm
  rw [h1] at h2
  simp only [Option.some.injEq, Obj.cells.injEq] at h2
  exact he h2.2.1
end
end

section
open Go.RowKit

mutual
/-- the five cells cs are the value, and all its blocks are P's, and may be written -/
def HCp (P : Nat → Prop) (w : World) (cs : List Value) : JV → Prop
  | .mk k n t ns is => ∃ (a b : Option Addr) (ca cb : Nat), cs = [.int .u8 (k : Int), .int .i64 n, .string (S t), .slice a ns.length ca, .slice b is.length cb] ∧ JB k n t ns is.length ∧
      (ns = [] ∨ ∃ blk off, a = some ⟨blk, off, none⟩ ∧ P blk ∧ ∀ i x, ns[i]? = some x → w.cell? ⟨blk, off + i, none⟩ = some (.string (S x)) ∧ w.frozen? ⟨blk, off + i, none⟩ = false) ∧
      (is = [] ∨ ∃ blk off, b = some ⟨blk, off, none⟩ ∧ P blk ∧ HIp P w blk off is)
/-- from off on block blk hold the values -/
def HIp (P : Nat → Prop) (w : World) (blk : Nat) (off : Nat) : List JV → Prop
  | [] => True
  | x :: xs => (∃ c0 c1 c2 c3 c4, w.cell? ⟨blk, off, none⟩ = some c0 ∧ w.cell? ⟨blk, off + 1, none⟩ = some c1 ∧ w.cell? ⟨blk, off + 2, none⟩ = some c2 ∧ w.cell? ⟨blk, off + 3, none⟩ = some c3 ∧ w.cell? ⟨blk, off + 4, none⟩ = some c4 ∧
      w.frozen? ⟨blk, off + 2, none⟩ = false ∧ HCp P w [c0, c1, c2, c3, c4] x) ∧ HIp P w blk (off + 5) xs
end
mutual
theorem HCp.hc {P : Nat → Prop} {w : World} : ∀ (x : JV) (cs : List Value), HCp P w cs x → HC w cs x
  | .mk k n t ns is, cs, h => by
    unfold HCp at h
    unfold HC
    obtain ⟨a, b, ca, cb, h1, h2, h3, h4⟩ := h
    refine ⟨a, b, ca, cb, h1, h2, ?_, ?_⟩
    · intro i x hx
      rcases h3 with rfl | ⟨blk, off, e, _, h3⟩
      · simp at hx
      · exact ⟨blk, off, e, (h3 i x hx).1⟩
    · rcases h4 with h4 | ⟨blk, off, e, _, h4⟩
      · exact .inl h4
      · exact .inr ⟨blk, off, e, HIp.hi is blk off h4⟩
theorem HIp.hi {P : Nat → Prop} {w : World} : ∀ (xs : List JV) (blk off : Nat), HIp P w blk off xs → HI w blk off xs
  | [], _, _, _ => by unfold HI; trivial
  | x :: xs, blk, off, h => by
    unfold HIp at h
    unfold HI
    obtain ⟨⟨c0, c1, c2, c3, c4, g0, g1, g2, g3, g4, _, hc⟩, hr⟩ := h
    exact ⟨⟨c0, c1, c2, c3, c4, g0, g1, g2, g3, g4, HCp.hc x _ hc⟩, HIp.hi xs blk (off + 5) hr⟩
end
/-- blocks of P's that are there stay, and are Q's -/
def Stay (P Q : Nat → Prop) (w w' : World) : Prop := ∀ b, P b → b < w.heap.size → Q b ∧ w'.heap[b]? = w.heap[b]?
theorem Stay.cell {P Q : Nat → Prop} {w w' : World} (h : Stay P Q w w') {b o : Nat} (hp : P b) {c : Value} (hc : w.cell? ⟨b, o, none⟩ = some c) : w'.cell? ⟨b, o, none⟩ = some c :=
  (World.cell?_of_block (h b hp (World.block_lt_of_cell? w _ hc)).2).trans hc
theorem Stay.frozen {P Q : Nat → Prop} {w w' : World} (h : Stay P Q w w') {b o o' : Nat} (hp : P b) {c : Value} (hc : w.cell? ⟨b, o, none⟩ = some c) {f : Bool} (hf : w.frozen? ⟨b, o', none⟩ = f) : w'.frozen? ⟨b, o', none⟩ = f :=
  (World.frozen?_of_block (a := ⟨b, o', none⟩) (h b hp (World.block_lt_of_cell? w _ hc)).2).trans hf
mutual
theorem HCp.stay {P Q : Nat → Prop} {w w' : World} (hs : Stay P Q w w') : ∀ (x : JV) (cs : List Value), HCp P w cs x → HCp Q w' cs x
  | .mk k n t ns is, cs, h => by
    unfold HCp at h ⊢
    obtain ⟨a, b, ca, cb, h1, h2, h3, h4⟩ := h
    refine ⟨a, b, ca, cb, h1, h2, ?_, ?_⟩
    · rcases h3 with rfl | ⟨blk, off, e, hp, h3⟩
      · exact .inl rfl
      · rcases ns with _ | ⟨n0, ns⟩
        · exact .inl rfl
        · refine .inr ⟨blk, off, e, ?_, fun i x hx => ?_⟩
          · exact (hs blk hp (World.block_lt_of_cell? w _ (h3 0 _ rfl).1)).1
          · obtain ⟨g1, g2⟩ := h3 i x hx
            exact ⟨hs.cell hp g1, hs.frozen hp g1 g2⟩
    · rcases h4 with h4 | ⟨blk, off, e, hp, h4⟩
      · exact .inl h4
      · rcases is with _ | ⟨x0, is⟩
        · exact .inl rfl
        · refine .inr ⟨blk, off, e, ?_, HIp.stay hs (x0 :: is) blk off hp h4⟩
          unfold HIp at h4
          obtain ⟨⟨c0, _, _, _, _, g0, _⟩, _⟩ := h4
          exact (hs blk hp (World.block_lt_of_cell? w _ g0)).1
theorem HIp.stay {P Q : Nat → Prop} {w w' : World} (hs : Stay P Q w w') : ∀ (xs : List JV) (blk off : Nat), P blk → HIp P w blk off xs → HIp Q w' blk off xs
  | [], _, _, _, _ => by unfold HIp; trivial
  | x :: xs, blk, off, hp, h => by
    unfold HIp at h ⊢
    obtain ⟨⟨c0, c1, c2, c3, c4, g0, g1, g2, g3, g4, gf, hc⟩, hr⟩ := h
    exact ⟨⟨c0, c1, c2, c3, c4, hs.cell hp g0, hs.cell hp g1, hs.cell hp g2, hs.cell hp g3, hs.cell hp g4, hs.frozen hp g0 gf, HCp.stay hs x _ hc⟩, HIp.stay hs xs blk (off + 5) hp hr⟩
end
theorem HIp.get {P : Nat → Prop} {w : World} {blk : Nat} : ∀ {xs : List JV} {off i : Nat} {x : JV}, HIp P w blk off xs → xs[i]? = some x →
    ∃ c0 c1 c2 c3 c4, w.cell? ⟨blk, off + i * 5, none⟩ = some c0 ∧ w.cell? ⟨blk, off + i * 5 + 1, none⟩ = some c1 ∧ w.cell? ⟨blk, off + i * 5 + 2, none⟩ = some c2 ∧ w.cell? ⟨blk, off + i * 5 + 3, none⟩ = some c3 ∧ w.cell? ⟨blk, off + i * 5 + 4, none⟩ = some c4 ∧
      w.frozen? ⟨blk, off + i * 5 + 2, none⟩ = false ∧ HCp P w [c0, c1, c2, c3, c4] x
  | [], _, i, _, _, hx => by simp at hx
  | y :: ys, off, 0, x, h, hx => by
    obtain rfl : y = x := by simpa using hx
    unfold HIp at h
    simpa using h.1
  | y :: ys, off, i + 1, x, h, hx => by
    unfold HIp at h
    have := HIp.get h.2 (show ys[i]? = some x by simpa using hx)
    rw [show off + (i + 1) * 5 = off + 5 + i * 5 by omega]
    exact this
/-- cs are the cells of values, all of whose blocks are P's -/
def HCSp (P : Nat → Prop) (w : World) : List Value → List JV → Prop
  | cs, [] => cs = []
  | cs, x :: xs => ∃ c0 c1 c2 c3 c4 r, cs = c0 :: c1 :: c2 :: c3 :: c4 :: r ∧ HCp P w [c0, c1, c2, c3, c4] x ∧ HCSp P w r xs
theorem HCSp.stay {P Q : Nat → Prop} {w w' : World} (hs : Stay P Q w w') : ∀ (xs : List JV) (cs : List Value), HCSp P w cs xs → HCSp Q w' cs xs
  | [], _, h => h
  | x :: xs, _, ⟨c0, c1, c2, c3, c4, r, h1, h2, h3⟩ => ⟨c0, c1, c2, c3, c4, r, h1, HCp.stay hs x _ h2, HCSp.stay hs xs r h3⟩
theorem HCSp.hcs {P : Nat → Prop} {w : World} : ∀ (xs : List JV) (cs : List Value), HCSp P w cs xs → HCS w cs xs
  | [], _, h => h
  | x :: xs, _, ⟨c0, c1, c2, c3, c4, r, h1, h2, h3⟩ => ⟨c0, c1, c2, c3, c4, r, h1, HCp.hc x _ h2, HCSp.hcs xs r h3⟩
theorem HCSp.nil (P : Nat → Prop) (w : World) : HCSp P w [] [] := rfl
theorem HCSp.app {P : Nat → Prop} {w : World} : ∀ {xs : List JV} {cs : List Value} {ys : List JV} {ds : List Value}, HCSp P w cs xs → HCSp P w ds ys → HCSp P w (cs ++ ds) (xs ++ ys)
  | [], _, _, _, h, h' => by
    rw [show _ = [] from h]
    exact h'
  | y :: ys, _, _, _, ⟨d0, d1, d2, d3, d4, r, h1, h2, h3⟩, h' => by
    rw [h1]
    exact ⟨d0, d1, d2, d3, d4, _, rfl, h2, HCSp.app h3 h'⟩
theorem HCSp.one {P : Nat → Prop} {w : World} {x : JV} {c0 c1 c2 c3 c4 : Value} (hx : HCp P w [c0, c1, c2, c3, c4] x) : HCSp P w [c0, c1, c2, c3, c4] [x] := ⟨c0, c1, c2, c3, c4, [], rfl, hx, rfl⟩
theorem HCSp.take {P : Nat → Prop} {w : World} : ∀ {xs : List JV} {cs : List Value} (i : Nat), HCSp P w cs xs → HCSp P w (cs.take (i * 5)) (xs.take i)
  | [], _, i, h => by
    rw [show _ = [] from h, List.take_nil, List.take_nil]
    rfl
  | x :: xs, _, 0, h => by rw [Nat.zero_mul, List.take_zero, List.take_zero]; rfl
  | x :: xs, _, i + 1, ⟨d0, d1, d2, d3, d4, r, h1, h2, h3⟩ => by
    rw [h1, show (i + 1) * 5 = i * 5 + 1 + 1 + 1 + 1 + 1 by omega]
    simp only [List.take_succ_cons]
    exact ⟨d0, d1, d2, d3, d4, _, rfl, h2, HCSp.take i h3⟩
theorem HCSp.drop {P : Nat → Prop} {w : World} : ∀ {xs : List JV} {cs : List Value} (i : Nat), HCSp P w cs xs → HCSp P w (cs.drop (i * 5)) (xs.drop i)
  | [], _, i, h => by
    rw [show _ = [] from h, List.drop_nil, List.drop_nil]
    rfl
  | x :: xs, _, 0, h => by rw [Nat.zero_mul, List.drop_zero, List.drop_zero]; exact h
  | x :: xs, _, i + 1, ⟨d0, d1, d2, d3, d4, r, h1, h2, h3⟩ => by
    rw [h1, show (i + 1) * 5 = i * 5 + 1 + 1 + 1 + 1 + 1 by omega]
    simp only [List.drop_succ_cons]
    exact HCSp.drop i h3
theorem HCp.one {P : Nat → Prop} {w : World} {cs : List Value} {x : JV} (h : HCp P w cs x) : ∃ (a b : Option Addr) (ca cb : Nat), cs = [.int .u8 (x.k : Int), .int .i64 x.n, .string (S x.t), .slice a x.ns.length ca, .slice b x.is.length cb] ∧ JB x.k x.n x.t x.ns x.is.length ∧
      (x.ns = [] ∨ ∃ blk off, a = some ⟨blk, off, none⟩ ∧ P blk ∧ ∀ i z, x.ns[i]? = some z → w.cell? ⟨blk, off + i, none⟩ = some (.string (S z)) ∧ w.frozen? ⟨blk, off + i, none⟩ = false) ∧
      (x.is = [] ∨ ∃ blk off, b = some ⟨blk, off, none⟩ ∧ P blk ∧ HIp P w blk off x.is) := by
  match x, h with
  | .mk k n t ns is, h => unfold HCp at h; exact h
theorem HIp.of_cells {P : Nat → Prop} {w : World} {blk : Nat} (hf : ∀ o, w.frozen? ⟨blk, o, none⟩ = false) : ∀ {xs : List JV} {cs : List Value} {off : Nat}, HCSp P w cs xs → (∀ j c, cs[j]? = some c → w.cell? ⟨blk, off + j, none⟩ = some c) → HIp P w blk off xs
  | [], _, _, _, _ => by unfold HIp; trivial
  | x :: xs, _, off, ⟨c0, c1, c2, c3, c4, r, h1, h2, h3⟩, h => by
    subst h1
    unfold HIp
    refine ⟨⟨c0, c1, c2, c3, c4, h 0 c0 rfl, h 1 c1 rfl, h 2 c2 rfl, h 3 c3 rfl, h 4 c4 rfl, hf _, h2⟩, HIp.of_cells hf h3 fun j c hj => ?_⟩
    have := h (j + 5) c (by simpa using hj)
    rw [show off + (j + 5) = off + 5 + j by omega] at this
    exact this
/-- a row of the call's own: its cells, and that they may be written -/
theorem own_cells {w : World} {B : Nat} {e : TypeId} {sz : Nat} {v : Value} {n : Nat} {xs : List Value} (h : w.ownsRow B e sz v n xs) : (v = .slice none 0 0 ∧ n = 0) ∨
    ∃ g cap, v = .slice (some ⟨g, 0, none⟩) n cap ∧ B ≤ g ∧ g < w.heap.size ∧ n ≤ cap ∧ (∀ j c, xs[j]? = some c → w.cell? ⟨g, j, none⟩ = some c) ∧ ∀ o, w.frozen? ⟨g, o, none⟩ = false := by
  rcases h.2 with h1 | ⟨g, cap, cur, rfl, hb, hg, hn, _⟩
  · exact .inl h1
  · refine .inr ⟨g, cap, rfl, hb, (Array.getElem?_eq_some_iff.1 hg).1, hn, fun j c hj => ?_, fun o => ?_⟩
    · have := h.cells (g := g) rfl j c hj
      rwa [show ((⟨g, 0, none⟩ : Addr).add j) = ⟨g, j, none⟩ by simp [Addr.add]; omega] at this
    · unfold World.frozen?
      rw [hg]
      simp
/-- u is the value x, in memory from block B on, with rows of its own -/
def HO (B : Nat) (w : World) (u : Value) (x : JV) : Prop := ∃ nv xv cs, u = .agg #[.int .u8 (x.k : Int), .int .i64 x.n, .string (S x.t), nv, xv] ∧ JB x.k x.n x.t x.ns x.is.length ∧
  w.ownsRow B 9 1 nv x.ns.length (NC x.ns) ∧ w.ownsRow B 26 5 xv x.is.length cs ∧ HCSp (fun b => B ≤ b ∧ some b ≠ nv.ownBlock ∧ some b ≠ xv.ownBlock) w cs x.is
theorem JV.eta (x : JV) : x = .mk x.k x.n x.t x.ns x.is := by
  match x with
  | .mk k n t ns is => rfl
/-- its cells, wherever they go -/
theorem HO.hcp {B : Nat} {w : World} {u : Value} {x : JV} (h : HO B w u x) : ∃ cs, u = .agg cs.toArray ∧ HCp (fun b => B ≤ b) w cs x := by
  obtain ⟨nv, xv, cs, rfl, hB, o1, o2, hc⟩ := h
  rw [x.eta] at hB o1 o2 hc ⊢
  generalize x.k = k at *
  generalize x.n = n at *
  generalize x.t = t at *
  generalize x.ns = ns at *
  generalize x.is = is at *
  have hs : Stay (fun b => B ≤ b ∧ some b ≠ nv.ownBlock ∧ some b ≠ xv.ownBlock) (fun b => B ≤ b) w w := fun b hb _ => ⟨hb.1, rfl⟩
  have hc' := HCSp.stay hs _ _ hc
  have h1 : ∃ a ca, nv = .slice a ns.length ca ∧ (ns = [] ∨ ∃ blk off, a = some ⟨blk, off, none⟩ ∧ B ≤ blk ∧ ∀ i x, ns[i]? = some x → w.cell? ⟨blk, off + i, none⟩ = some (.string (S x)) ∧ w.frozen? ⟨blk, off + i, none⟩ = false) := by
    rcases own_cells o1 with ⟨h1, h2⟩ | ⟨g, cap, h1, h2, h3, _, h4, h5⟩
    · exact ⟨none, 0, by rw [h1]; simp only [JV.ns] at h2; rw [h2], .inl (List.length_eq_zero_iff.1 h2)⟩
    · refine ⟨_, cap, h1, .inr ⟨g, 0, rfl, h2, fun i x hx => ⟨?_, h5 _⟩⟩⟩
      rw [Nat.zero_add]
      exact h4 i _ (by simp only [JV.ns, NC, List.getElem?_map, hx]; rfl)
  have h2 : ∃ b cb, xv = .slice b is.length cb ∧ (is = [] ∨ ∃ blk off, b = some ⟨blk, off, none⟩ ∧ B ≤ blk ∧ HIp (fun b => B ≤ b) w blk off is) := by
    rcases own_cells o2 with ⟨h1, h2⟩ | ⟨g, cap, h1, h2, h3, _, h4, h5⟩
    · exact ⟨none, 0, by rw [h1]; simp only [JV.is] at h2; rw [h2], .inl (List.length_eq_zero_iff.1 h2)⟩
    · refine ⟨_, cap, h1, .inr ⟨g, 0, rfl, h2, HIp.of_cells h5 hc' fun j c hj => ?_⟩⟩
      rw [Nat.zero_add]
      exact h4 j c hj
  obtain ⟨a, ca, rfl, h1⟩ := h1
  obtain ⟨b, cb, rfl, h2⟩ := h2
  refine ⟨_, rfl, ?_⟩
  unfold HCp
  exact ⟨a, b, ca, cb, rfl, hB, h1, h2⟩
theorem HO.hv {B : Nat} {w : World} {u : Value} {x : JV} (h : HO B w u x) : HV w u x := by
  obtain ⟨cs, h1, h2⟩ := h.hcp
  exact ⟨cs, h1, HCp.hc _ _ h2⟩
theorem own_stay {w w' : World} {B : Nat} {e : TypeId} {sz : Nat} {v : Value} {n : Nat} {xs : List Value} (h : w.ownsRow B e sz v n xs) (hs : ∀ b, v.ownBlock = some b → w'.heap[b]? = w.heap[b]?) : w'.ownsRow B e sz v n xs := by
  refine ⟨h.1, ?_⟩
  rcases h.2 with h1 | ⟨g, cap, cur, rfl, hb, hg, r⟩
  · exact .inl h1
  · exact .inr ⟨g, cap, cur, rfl, hb, (hs g rfl).trans hg, r⟩
/-- what lies from B on stays -/
theorem HO.stay {B : Nat} {w w' : World} {u : Value} {x : JV} (h : HO B w u x) (hs : ∀ b, B ≤ b → b < w.heap.size → w'.heap[b]? = w.heap[b]?) : HO B w' u x := by
  obtain ⟨nv, xv, cs, h1, hB, o1, o2, hc⟩ := h
  exact ⟨nv, xv, cs, h1, hB, own_stay o1 fun b hb => hs b (o1.lt b hb).1 (o1.lt b hb).2, own_stay o2 fun b hb => hs b (o2.lt b hb).1 (o2.lt b hb).2, HCSp.stay (fun b hb hl => ⟨hb, hs b hb.1 hl⟩) _ _ hc⟩
theorem HO.below {B : Nat} {w w' : World} {u : Value} {x : JV} (h : HO B w u x) (hb : Below w.heap.size w w') : HO B w' u x := h.stay fun b _ hl => hb.block b hl
end
end Go.Proofs.YtpifbmcgadjhbaaGreatDoor
