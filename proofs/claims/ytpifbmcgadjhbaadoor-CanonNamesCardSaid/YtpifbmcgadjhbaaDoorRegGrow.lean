/-
  A region that draws its order, some of whose operations are guarded, and in which each operation leaves something in a slot of its own and otherwise only lays more memory.
-/
import Derived.Test.YtpifbmcgadjhbaaDoorRegCalls
namespace Go.Proofs.YtpifbmcgadjhbaaDoor
open Go.RowKit

def keyG (o : Oper) : Option Tmp × Op × Option (Nat × Bool) × List Nat := (o.dst, o.op, o.guard, (o.after.toList.filter (Region.binds .any)).map (·.on))
/-- is operation k carried out, if the guards yield what G says? -/
def wantG (G : Nat → Option Bool) (g : Option (Nat × Bool)) : Bool := match g with | none => true | some (j, b) => G j == some b
theorem wp_region_grow {P : Program} {ops : Array Oper} {Q : Exit → Act → World → Prop} {A : Act} {id : Nat} {w : World} (hm : P.follows .mixedOrders = true) (T : List (Option Tmp × Op × Option (Nat × Bool) × List Nat))
    (hkey : ops.toList.map keyG = T) (hlow : (List.range ops.size).all (fun i => match ops[i]? with | some o => o.after.all (fun e => !Region.binds .any e || decide (e.on < i)) | none => true) = true)
    (p : Nat → Bool) (D : Nat → Nat) (hD : ∀ k x, T[k]? = some x → x.1 = some (D k) ∧ p (D k) = true ∧ D k < A.tmps.size) (hinj : ∀ i, i < T.length → ∀ j, j < T.length → D i = D j → i = j)
    (F : Nat → World → Value → Prop) (hF : ∀ k u u' v, Below u.heap.size u u' → F k u v → F k u' v)
    (G : Nat → Option Bool) (hG : ∀ k c u v, G k = some c → F k u v → v = .bool c)
    (hgd : ∀ (k : Nat) (x : Option Tmp × Op × Option (Nat × Bool) × List Nat) (g : Nat) (b : Bool), T[k]? = some x → x.2.2.1 = some (g, b) → g ∈ x.2.2.2 ∧ ∃ c, G g = some c)
    (skip : ∀ (k : Nat) (x : Option Tmp × Op × Option (Nat × Bool) × List Nat) (u : World), T[k]? = some x → wantG G x.2.2.1 = false → F k u undef)
    (step : ∀ (k : Nat) (x : Option Tmp × Op × Option (Nat × Bool) × List Nat) (a : Act) (u : World), T[k]? = some x → wantG G x.2.2.1 = true → Below w.heap.size w u → (∀ j, p j = false → a.eval (.tmp j) = A.eval (.tmp j)) → (∀ n, n ∈ x.2.2.2 → F n u (a.eval (.tmp (D n)))) → ∀ o : Oper, o.dst = x.1 → o.op = x.2.1 →
      o.wp P a u (fun a' u' => ∃ v, a' = a.put o.dst v ∧ F k u' v ∧ Below u.heap.size u u') Q)
    (fin : ∀ f u, (∀ k, k < T.length → F k u (f (D k))) → Below w.heap.size w u → Q .normal (putR A p f) u) : (Code.region id ops true).wp P Q A w := by
  have hlen : ops.size = T.length := by have := congrArg List.length hkey; simpa using this
  refine wp_region_inv hm p (fun listed f u => (∀ k, listed.getD k false = true → k < T.length ∧ F k u (f (D k))) ∧ Below w.heap.size w u) ?_ (fun listed f u i o hs hI hi hun hdep => ?_) (fun listed f u hs hI hr => ?_)
  · refine ⟨fun k h => ?_, (Below.refl _ _).drew⟩
    have hk := lt_of_listed h
    simp at hk
    simp [hk] at h
  · obtain ⟨hV, hb⟩ := hI
    have hl : ops.toList[i]? = some o := by rw [Array.getElem?_toList]; exact hi
    have hx : T[i]? = some (keyG o) := by rw [← hkey, List.getElem?_map, hl]; rfl
    have hil : i < T.length := (List.getElem?_eq_some_iff.1 hx).1
    obtain ⟨hd1, hd2, hd3⟩ := hD i _ hx
    have hd1 : o.dst = some (D i) := hd1
    have hdeps : ∀ n, n ∈ (keyG o).2.2.2 → F n u ((putR A p f).eval (.tmp (D n))) := fun n hn => by
      obtain ⟨e, he, rfl⟩ := List.mem_map.1 hn
      have hm := List.mem_filter.1 he
      obtain ⟨h1, h2⟩ := hV _ (hdep e (by simpa using hm.1) hm.2)
      obtain ⟨_, h3, h4⟩ := hD e.on T[e.on] (List.getElem?_eq_getElem h1)
      rw [putR_in A p f (D e.on) h3 h4]
      exact h2
    -- what is known behind it
    have next : ∀ (v : Value) (u' : World), F i u' v → Below u.heap.size u u' → ∃ f', (putR A p f).put o.dst v = putR A p f' ∧ (∀ k, (listed.setIfInBounds i true).getD k false = true → k < T.length ∧ F k u' (f' (D k))) ∧ Below w.heap.size w u' := fun v u' hv hb' => by
      refine ⟨fun j => if j = D i then v else f j, ?_, fun k hk => ?_, hb.trans (hb'.mono hb.size)⟩
      · rw [hd1]
        exact putR_put _ _ _ _ _ hd2
      · by_cases e : k = i
        · subst e
          simp only [if_true]
          exact ⟨hil, hv⟩
        · have hk2 : listed.getD k false = true := by rwa [getD_set_other e] at hk
          obtain ⟨hk3, hk4⟩ := hV k hk2
          have hne : ¬ D k = D i := fun h => e (hinj k hk3 i hil h)
          simp only [hne, if_false]
          exact ⟨hk3, hF k u u' _ hb' hk4⟩
    -- the guard
    have hw : Region.wanted o (yielded ops (putR A p f).tmps) = wantG G o.guard := by
      unfold Region.wanted wantG
      rcases hg : o.guard with _ | ⟨g, b⟩
      · rfl
      · obtain ⟨h1, c, h2⟩ := hgd i _ g b hx hg
        have h3 := hG g c u _ h2 (hdeps g h1)
        obtain ⟨e, he, hge⟩ := List.mem_map.1 h1
        have hm := List.mem_filter.1 he
        have h4 := (hV _ (hdep e (by simpa using hm.1) hm.2)).1
        rw [hge] at h4
        obtain ⟨h5, h6, h7⟩ := hD g T[g] (List.getElem?_eq_getElem h4)
        have hog : ∃ og, ops[g]? = some og ∧ og.dst = some (D g) := by
          have hg2 : g < ops.size := by omega
          refine ⟨ops[g], Array.getElem?_eq_getElem hg2, ?_⟩
          have hTg : T[g]? = some (keyG ops[g]) := by rw [← hkey, List.getElem?_map, Array.getElem?_toList, Array.getElem?_eq_getElem hg2]; rfl
          have := hD g _ hTg
          exact this.1
        obtain ⟨og, ho1, ho2⟩ := hog
        have hy : yielded ops (putR A p f).tmps g = some c := by
          unfold yielded
          rw [ho1]
          have h8 : (putR A p f).eval (.tmp (D g)) = .bool c := h3
          have h9 : (putR A p f).tmps[D g]? = some (.bool c) := by
            have hsz : D g < (putR A p f).tmps.size := by simp [putR]; exact h7
            rw [Array.getElem?_eq_getElem hsz]
            simp [Act.eval, hsz] at h8
            rw [h8]
          simp [ho2, h9]
        show (yielded ops (putR A p f).tmps g == some b) = (G g == some b)
        rw [hy, h2]
    unfold wpOp
    simp only [hi]
    cases hc : wantG G o.guard with
    | true =>
      rw [hw, hc]
      simp only [if_true]
      refine .inl (Oper.wp_mono (fun a' u' ⟨v, ha, hv, hb'⟩ => ?_) (step i _ (putR A p f) u hx hc hb (fun j hj => putR_out _ _ _ j hj) hdeps o rfl rfl))
      rw [ha]
      exact next v u' hv hb'
    | false =>
      rw [hw, hc]
      simp only [Bool.false_eq_true, if_false]
      exact next undef u (skip i _ u hx hc) (Below.refl _ _)
  · obtain ⟨hV, hb⟩ := hI
    exact fin f u (fun k hk => (hV k (all_of_ready hs hr hlow (k + 1) k (Nat.lt_succ_self k) (by omega))).2) hb
end Go.Proofs.YtpifbmcgadjhbaaDoor
