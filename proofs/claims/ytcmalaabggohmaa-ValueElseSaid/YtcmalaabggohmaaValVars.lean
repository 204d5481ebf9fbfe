/-
  'a, b := f(v), g(w)' in a region that draws its order: each variable gets a block of its own, in whatever order, and then what it is given.
-/
import Derived.Test.YtcmalaabggohmaaValGrow
namespace Go.Proofs.Ytcmalaabggohmaa
open Go.RowKit

def upd (f : Nat → Value) (d : Nat) (v : Value) : Nat → Value := fun j => if j = d then v else f j
theorem upd_self (f : Nat → Value) (d : Nat) (v : Value) : upd f d v d = v := if_pos rfl
theorem upd_ne {f : Nat → Value} {d k : Nat} {v : Value} (h : k ≠ d) : upd f d v k = f k := if_neg h
inductive Kd where
  | grow
  | var
  | put (a s : Nat)
/-- the blocks of the variables that have come up -/
def Ob (kd : Nat → Kd) (D : Nat → Nat) (listed : Array Bool) (f : Nat → Value) (b : Nat) : Prop := ∃ k, listed.getD k false = true ∧ kd k = .var ∧ f (D k) = .pointer (some ⟨b, 0, none⟩)
structure IVars (w : World) (kd : Nat → Kd) (D : Nat → Nat) (F : Nat → (Nat → Prop) → World → Value → Prop) (n : Nat) (listed : Array Bool) (f : Nat → Value) (u : World) : Prop where
  below : Below w.heap.size w u
  lt : ∀ k, listed.getD k false = true → k < n
  grow : ∀ k, listed.getD k false = true → kd k = .grow → F k (Ob kd D listed f) u (f (D k))
  var : ∀ k, listed.getD k false = true → kd k = .var → ∃ b, f (D k) = .pointer (some ⟨b, 0, none⟩) ∧ w.heap.size ≤ b ∧ b < u.heap.size ∧
    (∀ j s, j < n → kd j = .put k s → (listed.getD j false = false → VAt b u (.int .u8 0) (.int .i64 0) (.string ⟨#[]⟩) (.slice none 0 0) (.slice none 0 0)) ∧ (listed.getD j false = true → ∃ c0 c1 c2 c3 c4, f (D s) = .agg #[c0, c1, c2, c3, c4] ∧ VAt b u c0 c1 c2 c3 c4))
  dep : ∀ j a s, listed.getD j false = true → kd j = .put a s → listed.getD a false = true ∧ listed.getD s false = true
  inj : ∀ k k' b, listed.getD k false = true → listed.getD k' false = true → kd k = .var → kd k' = .var → f (D k) = .pointer (some ⟨b, 0, none⟩) → f (D k') = .pointer (some ⟨b, 0, none⟩) → k = k'
set_option maxHeartbeats 1000000 in
theorem wp_region_vars {ops : Array Oper} {Q : Exit → Act → World → Prop} {A : Act} {id : Nat} {w : World} (T : List (Option Tmp × Op × List Nat))
    (hkey : ops.toList.map keyOf = T.map fun x => (x.1, x.2.1, true, x.2.2)) (hlow : (List.range ops.size).all (fun i => match ops[i]? with | some o => o.after.all (fun e => !Region.binds .any e || decide (e.on < i)) | none => true) = true)
    (p : Nat → Bool) (D : Nat → Nat) (kd : Nat → Kd)
    (hD : ∀ k x, T[k]? = some x → (kd k = .grow ∨ kd k = .var) → x.1 = some (D k) ∧ p (D k) = true ∧ D k < A.tmps.size) (hinj : ∀ i, i < T.length → ∀ j, j < T.length → (∀ a s, kd i ≠ .put a s) → (∀ a s, kd j ≠ .put a s) → D i = D j → i = j)
    (F : Nat → (Nat → Prop) → World → Value → Prop)
    (hF : ∀ k O O' u u' v, (∀ b, b < u.heap.size → ¬ O b → u'.heap[b]? = u.heap[b]?) → u.heap.size ≤ u'.heap.size → (∀ b, O' b → O b ∨ u.heap.size ≤ b) → F k O u v → F k O' u' v)
    (hone : ∀ k O u v, F k O u v → ∀ j a, kd j = .put a k → ∃ c0 c1 c2 c3 c4, v = .agg #[c0, c1, c2, c3, c4] ∧ ∀ z ∈ [c0, c1, c2, c3, c4], z.oneCell' = true)
    (hvar : ∀ k x, T[k]? = some x → kd k = .var → x.2.1 = .alloc 25)
    (hput : ∀ k x a s, T[k]? = some x → kd k = .put a s → x.1 = none ∧ x.2.1 = .store 25 (.tmp (D a)) (.tmp (D s)) ∧ a ∈ x.2.2 ∧ s ∈ x.2.2 ∧ kd a = .var ∧ kd s = .grow ∧ a < T.length ∧ s < T.length)
    (hputu : ∀ i j a s s', i < T.length → j < T.length → kd i = .put a s → kd j = .put a s' → i = j)
    (step : ∀ (k : Nat) (x : Option Tmp × Op × List Nat) (a : Act) (u : World) (O : Nat → Prop), T[k]? = some x → kd k = .grow → Below w.heap.size w u → (∀ b, O b → w.heap.size ≤ b ∧ b < u.heap.size) → (∀ j, p j = false → a.eval (.tmp j) = A.eval (.tmp j)) → (∀ n, n ∈ x.2.2 → kd n = .grow → F n O u (a.eval (.tmp (D n)))) → ∀ o : Oper, o.dst = x.1 → o.op = x.2.1 →
      o.wp Try.prog a u (fun a' u' => ∃ v, a' = a.put o.dst v ∧ F k O u' v ∧ Below u.heap.size u u') Q)
    (fin : ∀ listed f u, (∀ k, k < T.length → listed.getD k false = true) → IVars w kd D F T.length listed f u → Q .normal (putR A p f) u) : (Code.region id ops true).wp Try.prog Q A w := by
  refine wp_region_tab (by kernel_rfl) T hkey hlow p (fun listed f u => listed.size = T.length ∧ IVars w kd D F T.length listed f u) ?_ ?_ ?_
  · have hno : ∀ k, (Array.replicate T.length false).getD k false = true → False := fun k h => by
      simp [Array.getElem?_replicate] at h
      split at h <;> simp at h
    exact ⟨by simp, ⟨below_drew w, fun k h => (hno k h).elim, fun k h => (hno k h).elim, fun k h => (hno k h).elim, fun j _ _ h => (hno j h).elim, fun k _ _ h => (hno k h).elim⟩⟩
  · intro listed f u i x ⟨hs, hI⟩ hy hun hdep o hd hop
    have hi : i < T.length := (List.getElem?_eq_some_iff.1 hy).1
    have hun' : listed.getD i false = false := unlisted hun
    have hset (k : Nat) (hk : (listed.setIfInBounds i true).getD k false = true) : k = i ∨ (k ≠ i ∧ listed.getD k false = true) := by
      by_cases e : k = i
      · exact .inl e
      · exact .inr ⟨e, by rwa [getD_set_other e] at hk⟩
    have EV (k : Nat) (hk : k < T.length) (hg : kd k = .grow ∨ kd k = .var) : (putR A p f).eval (.tmp (D k)) = f (D k) := by
      obtain ⟨_, h1, h2⟩ := hD k T[k] (List.getElem?_eq_getElem hk) hg
      exact putR_in A p f _ h1 h2
    have hOb : ∀ b, Ob kd D listed f b → w.heap.size ≤ b ∧ b < u.heap.size := fun b ⟨k, h1, h2, h3⟩ => by
      obtain ⟨b', h4, h5, h6, _⟩ := hI.var k h1 h2
      rw [h3] at h4
      simp only [Value.pointer.injEq, Option.some.injEq, Addr.mk.injEq, and_true] at h4
      subst h4
      exact ⟨h5, h6⟩
    rcases hk : kd i with _ | _ | ⟨a, s⟩
    · -- an operation that leaves something, and only lays memory
      obtain ⟨hx1, hx2, _⟩ := hD i x hy (.inl hk)
      have nv : ∀ k, kd k = .var → k ≠ i := fun k h e => by rw [e, hk] at h; cases h
      have np : ∀ j a s, kd j = .put a s → j ≠ i := fun j a s h e => by rw [e, hk] at h; cases h
      refine Oper.wp_mono (fun a' u' ⟨v, ha, hv, hb'⟩ => ?_) (step i x (putR A p f) u (Ob kd D listed f) hy hk hI.below hOb (fun j hj => putR_out _ _ _ j hj) (fun n hn hg => by rw [EV n (hI.lt n (hdep n hn)) (.inl hg)]; exact hI.grow n (hdep n hn) hg) o hd hop)
      have hf (k : Nat) (hki : k ≠ i) (hkl : k < T.length) (hkp : ∀ a s, kd k ≠ .put a s) : (upd f (D i) v) (D k) = f (D k) := by
        exact upd_ne (fun e => hki (hinj k hkl i hi hkp (fun a s h => by rw [hk] at h; cases h) e))
      have hOO : ∀ b, Ob kd D (listed.setIfInBounds i true) (upd f (D i) v) b → Ob kd D listed f b := fun b ⟨k, h1, h2, h3⟩ => by
        rcases hset k h1 with e | ⟨e, h4⟩
        · exact (nv k h2 e).elim
        · exact ⟨k, h4, h2, by rw [← h3, hf k e (hI.lt k h4) (fun a s h => by rw [h2] at h; cases h)]⟩
      refine ⟨upd f (D i) v, by rw [ha, hd, hx1]; exact putR_put _ _ _ _ _ hx2, by simpa using hs, ⟨hI.below.trans (hb'.mono hI.below.size), fun k h => ?_, fun k h hg => ?_, fun k h hg => ?_, fun j a s h hp => ?_, fun k k' b h h' hg hg' e e' => ?_⟩⟩
      · rcases hset k h with e | ⟨_, h4⟩
        · rw [e]; exact hi
        · exact hI.lt k h4
      · rcases hset k h with e | ⟨e, h4⟩
        · subst e
          rw [upd_self]
          exact hF _ _ _ u' u' v (fun _ _ _ => rfl) (Nat.le_refl _) (fun b h => .inl (hOO b h)) hv
        · rw [hf k e (hI.lt k h4) (fun a s h => by rw [hg] at h; cases h)]
          exact hF k _ _ u u' _ (fun b hb _ => hb'.block b hb) hb'.size (fun b h => .inl (hOO b h)) (hI.grow k h4 hg)
      · rcases hset k h with e | ⟨e, h4⟩
        · exact (nv k hg e).elim
        · obtain ⟨b, h5, h6, h7, h8⟩ := hI.var k h4 hg
          refine ⟨b, by rw [hf k e (hI.lt k h4) (fun a s h => by rw [hg] at h; cases h)]; exact h5, h6, Nat.lt_of_lt_of_le h7 hb'.size, fun j s hj hp => ?_⟩
          have hji := np j k s hp
          rw [getD_set_other hji]
          refine ⟨fun h => ((h8 j s hj hp).1 h).below hb', fun h => ?_⟩
          obtain ⟨c0, c1, c2, c3, c4, h9, h10⟩ := (h8 j s hj hp).2 h
          have hsl := (hI.dep j k s h hp).2
          have hkp := (hput j T[j] k s (List.getElem?_eq_getElem hj) hp).2.2.2.2.2.1
          exact ⟨c0, c1, c2, c3, c4, by rw [hf s (fun e => by rw [e, hun'] at hsl; cases hsl) (hI.lt s hsl) (fun a b h => by rw [hkp] at h; cases h)]; exact h9, h10.below hb'⟩
      · have hji := np j a s hp
        rw [getD_set_other hji] at h
        have h2 := hI.dep j a s h hp
        rw [getD_set_other (fun e => by rw [e, hun'] at h2; cases h2.1), getD_set_other (fun e => by rw [e, hun'] at h2; cases h2.2)]
        exact h2
      · have ei := nv k hg
        have ei' := nv k' hg'
        rw [getD_set_other ei] at h
        rw [getD_set_other ei'] at h'
        rw [hf k ei (hI.lt k h) (fun a s h => by rw [hg] at h; cases h)] at e
        rw [hf k' ei' (hI.lt k' h') (fun a s h => by rw [hg'] at h; cases h)] at e'
        exact hI.inj k k' b h h' hg hg' e e'
    · -- a variable comes up
      obtain ⟨hx1, hx2, _⟩ := hD i x hy (.inr hk)
      have ng : ∀ k, kd k = .grow → k ≠ i := fun k h e => by rw [e, hk] at h; cases h
      have np : ∀ j a s, kd j = .put a s → j ≠ i := fun j a s h e => by rw [e, hk] at h; cases h
      have ba : Below u.heap.size u (u.alloc (.cells V5 25)) := (Below.refl _ _).alloc (Nat.le_refl _) _
      have hsz : (u.alloc (.cells V5 25)).heap.size = u.heap.size + 1 := by simp
      have hf (k : Nat) (hki : k ≠ i) (hkl : k < T.length) (hkp : ∀ a s, kd k ≠ .put a s) : (upd f (D i) (.pointer (some ⟨u.heap.size, 0, none⟩))) (D k) = f (D k) := by
        exact upd_ne (fun e => hki (hinj k hkl i hi hkp (fun a s h => by rw [hk] at h; cases h) e))
      have hOO : ∀ b, Ob kd D (listed.setIfInBounds i true) (upd f (D i) (.pointer (some ⟨u.heap.size, 0, none⟩))) b → Ob kd D listed f b ∨ u.heap.size ≤ b := fun b ⟨k, h1, h2, h3⟩ => by
        rcases hset k h1 with e | ⟨e, h4⟩
        · subst e
          rw [upd_self] at h3
          simp only [Value.pointer.injEq, Option.some.injEq, Addr.mk.injEq, and_true] at h3
          exact .inr (by omega)
        · exact .inl ⟨k, h4, h2, by rw [← h3, hf k e (hI.lt k h4) (fun a s h => by rw [h2] at h; cases h)]⟩
      refine op_alloc (hop.trans (hvar i x hy hk)) ⟨upd f (D i) (.pointer (some ⟨u.heap.size, 0, none⟩)), by rw [hd, hx1]; exact putR_put _ _ _ _ _ hx2, by simpa using hs, ⟨hI.below.trans (ba.mono hI.below.size), fun k h => ?_, fun k h hg => ?_, fun k h hg => ?_, fun j a s h hp => ?_, fun k k' b h h' hg hg' e e' => ?_⟩⟩
      · rcases hset k h with e | ⟨_, h4⟩
        · rw [e]; exact hi
        · exact hI.lt k h4
      · have e := ng k hg
        rw [getD_set_other e] at h
        rw [hf k e (hI.lt k h) (fun a s h => by rw [hg] at h; cases h)]
        exact hF k _ _ u _ _ (fun b hb _ => ba.block b hb) ba.size hOO (hI.grow k h hg)
      · rcases hset k h with e | ⟨e, h4⟩
        · subst e
          refine ⟨u.heap.size, upd_self _ _ _, hI.below.size, by omega, fun j s hj hp => ⟨fun _ => heap_alloc_new u _, fun h2 => ?_⟩⟩
          rw [getD_set_other (np j _ s hp)] at h2
          have h3 := (hI.dep j _ s h2 hp).1
          rw [hun'] at h3
          cases h3
        · obtain ⟨b, h5, h6, h7, h8⟩ := hI.var k h4 hg
          refine ⟨b, by rw [hf k e (hI.lt k h4) (fun a s h => by rw [hg] at h; cases h)]; exact h5, h6, by omega, fun j s hj hp => ?_⟩
          rw [getD_set_other (np j k s hp)]
          refine ⟨fun h => ((h8 j s hj hp).1 h).below ba, fun h => ?_⟩
          obtain ⟨c0, c1, c2, c3, c4, h9, h10⟩ := (h8 j s hj hp).2 h
          have hsl := (hI.dep j k s h hp).2
          have hkp := (hput j T[j] k s (List.getElem?_eq_getElem hj) hp).2.2.2.2.2.1
          exact ⟨c0, c1, c2, c3, c4, by rw [hf s (fun e => by rw [e, hun'] at hsl; cases hsl) (hI.lt s hsl) (fun a b h => by rw [hkp] at h; cases h)]; exact h9, h10.below ba⟩
      · rw [getD_set_other (np j a s hp)] at h
        have h2 := hI.dep j a s h hp
        rw [getD_set_other (fun e => by rw [e, hun'] at h2; cases h2.1), getD_set_other (fun e => by rw [e, hun'] at h2; cases h2.2)]
        exact h2
      · have key : ∀ k b, (listed.setIfInBounds i true).getD k false = true → kd k = .var → k ≠ i → (upd f (D i) (.pointer (some ⟨u.heap.size, 0, none⟩))) (D k) = .pointer (some ⟨b, 0, none⟩) → listed.getD k false = true ∧ f (D k) = .pointer (some ⟨b, 0, none⟩) ∧ b < u.heap.size := fun k b h hg hki e => by
          rw [getD_set_other hki] at h
          rw [hf k hki (hI.lt k h) (fun a s h => by rw [hg] at h; cases h)] at e
          exact ⟨h, e, (hOb b ⟨k, h, hg, e⟩).2⟩
        have self : ∀ k b, k = i → (upd f (D i) (.pointer (some ⟨u.heap.size, 0, none⟩))) (D k) = .pointer (some ⟨b, 0, none⟩) → b = u.heap.size := fun k b hki e => by
          subst hki
          rw [upd_self] at e
          simp only [Value.pointer.injEq, Option.some.injEq, Addr.mk.injEq, and_true] at e
          omega
        by_cases ek : k = i
        · by_cases ek' : k' = i
          · rw [ek, ek']
          · have h1 := self k b ek e
            have h2 := (key k' b h' hg' ek' e').2.2
            omega
        · by_cases ek' : k' = i
          · have h1 := self k' b ek' e'
            have h2 := (key k b h hg ek e).2.2
            omega
          · have h1 := key k b h hg ek e
            have h2 := key k' b h' hg' ek' e'
            exact hI.inj k k' b h1.1 h2.1 hg hg' h1.2.1 h2.2.1
    · -- a variable is given its value
      obtain ⟨hx1, hx2, hx3, hx4, hka, hks, hal, hsl⟩ := hput i x a s hy hk
      have la := hdep a hx3
      have ls := hdep s hx4
      obtain ⟨b, ea, hwb, hbu, hpo⟩ := hI.var a la hka
      have hz := (hpo i s hi hk).1 hun'
      obtain ⟨c0, c1, c2, c3, c4, es, ho1⟩ := hone s _ u _ (hI.grow s ls hks) i a hk
      have e6 : (putR A p f).eval (.tmp (D a)) = .pointer (some ⟨b, 0, none⟩) := (EV a hal (.inr hka)).trans ea
      have e4 : (putR A p f).eval (.tmp (D s)) = .agg #[c0, c1, c2, c3, c4] := (EV s hsl (.inl hks)).trans es
      have hst := st_five u b 0 _ hz (by simp) c0 c1 c2 c3 c4 ho1
      have hw2 := setRow_heap u b _ ((#[Value.int .u8 0, .int .i64 0, .string ⟨#[]⟩, .slice none 0 0, .slice none 0 0].toList.take 0 ++ [c0, c1, c2, c3, c4] ++ #[Value.int .u8 0, .int .i64 0, .string ⟨#[]⟩, .slice none 0 0, .slice none 0 0].toList.drop (0 + 5)).toArray) _ _ hz
      obtain ⟨u', hu'⟩ : ∃ u', u' = u.setRow b ((#[Value.int .u8 0, .int .i64 0, .string ⟨#[]⟩, .slice none 0 0, .slice none 0 0].toList.take 0 ++ [c0, c1, c2, c3, c4] ++ #[Value.int .u8 0, .int .i64 0, .string ⟨#[]⟩, .slice none 0 0, .slice none 0 0].toList.drop (0 + 5)).toArray) := ⟨_, rfl⟩
      have hoth : ∀ k, k ≠ b → u'.heap[k]? = u.heap[k]? := fun k hkb => by rw [hu']; exact setRow_other u b k _ hkb
      have hsz : u'.heap.size = u.heap.size := by rw [hu']; simp
      have hvb : VAt b u' c0 c1 c2 c3 c4 := by rw [hu']; exact hw2
      have hB := hI.below
      have hbel : Below w.heap.size w u' := ⟨by rw [hu']; exact hB.os, by rw [hu']; exact hB.tape, by rw [hu']; exact hB.output, by rw [hsz]; exact hB.size, fun k hk => by rw [hoth k (by omega)]; exact hB.block k hk⟩
      rw [← hu'] at hst
      have ng : ∀ k, kd k = .grow → k ≠ i := fun k h e => by rw [e, hk] at h; cases h
      have nv : ∀ k, kd k = .var → k ≠ i := fun k h e => by rw [e, hk] at h; cases h
      have hOO : ∀ b, Ob kd D (listed.setIfInBounds i true) f b → Ob kd D listed f b := fun b ⟨k, h1, h2, h3⟩ => by
        rw [getD_set_other (nv k h2)] at h1
        exact ⟨k, h1, h2, h3⟩
      refine op_store (hop.trans hx2) e6 e4 (hd.trans hx1) hst ⟨f, rfl, by simpa using hs, ⟨hbel, fun k h => ?_, fun k h hg => ?_, fun k h hg => ?_, fun j a' s' h hp => ?_, fun k k' b' h h' hg hg' e e' => ?_⟩⟩
      · rcases hset k h with e | ⟨_, h4⟩
        · rw [e]; exact hi
        · exact hI.lt k h4
      · rw [getD_set_other (ng k hg)] at h
        exact hF k _ _ u u' _ (fun b' _ hn => hoth b' fun e => hn (e ▸ ⟨a, la, hka, ea⟩)) (by omega) (fun b h => .inl (hOO b h)) (hI.grow k h hg)
      · rw [getD_set_other (nv k hg)] at h
        obtain ⟨b', h5, h6, h7, h8⟩ := hI.var k h hg
        refine ⟨b', h5, h6, by omega, fun j s' hj hp => ?_⟩
        by_cases eka : k = a
        · subst eka
          rw [ea] at h5
          simp only [Value.pointer.injEq, Option.some.injEq, Addr.mk.injEq, and_true] at h5
          subst h5
          have hji := hputu j i k s' s hj hi hp hk
          subst hji
          rw [hk] at hp
          simp only [Kd.put.injEq, true_and] at hp
          subst hp
          refine ⟨fun h2 => ?_, fun _ => ⟨c0, c1, c2, c3, c4, es, hvb⟩⟩
          rw [getD_set_self (by omega)] at h2
          cases h2
        · have hji : j ≠ i := fun e => by
            rw [e, hk] at hp
            simp only [Kd.put.injEq] at hp
            exact eka hp.1.symm
          have hbb : b' ≠ b := fun e => eka (hI.inj k a b h la hg hka (e ▸ h5) ea)
          rw [getD_set_other hji]
          refine ⟨fun h2 => (hoth b' hbb).trans ((h8 j s' hj hp).1 h2), fun h2 => ?_⟩
          obtain ⟨d0, d1, d2, d3, d4, h9, h10⟩ := (h8 j s' hj hp).2 h2
          exact ⟨d0, d1, d2, d3, d4, h9, (hoth b' hbb).trans h10⟩
      · have nks : ∀ k, kd k = .grow ∨ kd k = .var → k ≠ i := fun k h => h.elim (ng k) (nv k)
        by_cases e : j = i
        · subst e
          rw [hk] at hp
          simp only [Kd.put.injEq] at hp
          obtain ⟨rfl, rfl⟩ := hp
          rw [getD_set_other (nv _ hka), getD_set_other (ng _ hks)]
          exact ⟨la, ls⟩
        · rw [getD_set_other e] at h
          have h2 := hI.dep j a' s' h hp
          rw [getD_set_other (fun e => by rw [e, hun'] at h2; cases h2.1), getD_set_other (fun e => by rw [e, hun'] at h2; cases h2.2)]
          exact h2
      · rw [getD_set_other (nv k hg)] at h
        rw [getD_set_other (nv k' hg')] at h'
        exact hI.inj k k' b' h h' hg hg' e e'
  · intro listed f u ⟨hs, hI⟩ hall
    exact fin listed f u hall hI
end Go.Proofs.Ytcmalaabggohmaa
