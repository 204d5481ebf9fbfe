/-
  A statement of ValueWith that draws its order: four ways through its guards.
-/
import Derived.Test.YtcmalaabggohmaaValAwake
import Derived.Test.YtcmalaabggohmaaValWo
namespace Go.Proofs.Ytcmalaabggohmaa
open Go.RowKit

theorem gl_lei {Q : Exit → Act → World → Prop} {a : Act} {u : World} {o : Oper} {t : TypeId} {x : Operand} {y z : Int} {r : Bool} (ho : o.op = .binOp .leq t x (.const (.int .i64 z)) t) (hx : a.eval x = .int .i64 y) (hr : decide (y ≤ z) = r) : Gw o a u Q (.val (.bool r)) := gl_val (by
  subst hr
  have hc : a.eval (.const (.int .i64 z)) = .int .i64 z := rfl
  simp [execOp, ho, hx, hc, eqGuard]
  simp [go_sem, binOp])
theorem wp_region_grow2 {P : Program} {ops : Array Oper} {Q : Exit → Act → World → Prop} {A : Act} {id : Nat} {w : World} (hm : P.follows .mixedOrders = true) (T : List (Option Tmp × Op × Option (Nat × Bool) × List Nat))
    (hkey : ops.toList.map keyG = T) (hlow : (List.range ops.size).all (fun i => match ops[i]? with | some o => o.after.all (fun e => !Region.binds .any e || decide (e.on < i)) | none => true) = true)
    (p : Nat → Bool) (D : Nat → Nat) (hD : ∀ k x, T[k]? = some x → x.1 = some (D k) ∧ p (D k) = true ∧ D k < A.tmps.size) (hinj : ∀ i, i < T.length → ∀ j, j < T.length → D i = D j → i = j)
    (F : Nat → World → Value → Prop) (hF : ∀ k u u' v, Below u.heap.size u u' → F k u v → F k u' v)
    (G : Nat → Option Bool) (hG : ∀ k c u v, G k = some c → F k u v → v = .bool c)
    (hgd : ∀ (k : Nat) (x : Option Tmp × Op × Option (Nat × Bool) × List Nat) (g : Nat) (b : Bool), T[k]? = some x → x.2.2.1 = some (g, b) → g ∈ x.2.2.2 ∧ ((∃ c, G g = some c) ∨ (G g = none ∧ ∀ u v, F g u v → v = undef)))
    (skip : ∀ (k : Nat) (x : Option Tmp × Op × Option (Nat × Bool) × List Nat) (u : World), T[k]? = some x → wantG G x.2.2.1 = false → F k u undef)
    (step : ∀ (k : Nat) (x : Option Tmp × Op × Option (Nat × Bool) × List Nat) (a : Act) (u : World), T[k]? = some x → wantG G x.2.2.1 = true → Below w.heap.size w u → (∀ j, p j = false → a.eval (.tmp j) = A.eval (.tmp j)) → (∀ n, n ∈ x.2.2.2 → F n u (a.eval (.tmp (D n)))) → ∀ o : Oper, o.dst = x.1 → o.op = x.2.1 →
      o.wp P a u (fun a' u' => ∃ v, a' = a.put o.dst v ∧ F k u' v ∧ Below u.heap.size u u') Q)
    (fin : ∀ f u, (∀ k, k < T.length → F k u (f (D k))) → Below w.heap.size w u → Q .normal (putR A p f) u) : (Code.region id ops true).wp P Q A w := by
  have hlen : ops.size = T.length := by have := congrArg List.length hkey; simpa using this
  refine wp_region_inv hm p (fun listed f u => (∀ k, listed.getD k false = true → k < T.length ∧ F k u (f (D k))) ∧ Below w.heap.size w u) ?_ (fun listed f u i o hs hI hi hun hdep => ?_) (fun listed f u hs hI hr => ?_)
  · refine ⟨fun k h => ?_, (Below.refl _ _).drew⟩
    have hk := lt_of_listed h
    simp at hk
    simp [hk] at h
  · obtain ⟨hV, hb⟩ := hI
    have hl : ops.toList[i]? = some o := by rw [Array.getElem?_toList]; exact hi
    have hx : T[i]? = some (keyG o) := by rw [← hkey, List.getElem?_map, hl]; rfl
    have hil : i < T.length := (List.getElem?_eq_some_iff.1 hx).1
    obtain ⟨hd1, hd2, hd3⟩ := hD i _ hx
    have hd1 : o.dst = some (D i) := hd1
    have hdeps : ∀ n, n ∈ (keyG o).2.2.2 → F n u ((putR A p f).eval (.tmp (D n))) := fun n hn => by
      obtain ⟨e, he, rfl⟩ := List.mem_map.1 hn
      have hm := List.mem_filter.1 he
      obtain ⟨h1, h2⟩ := hV _ (hdep e (by simpa using hm.1) hm.2)
      obtain ⟨_, h3, h4⟩ := hD e.on T[e.on] (List.getElem?_eq_getElem h1)
      rw [putR_in A p f (D e.on) h3 h4]
      exact h2
    -- what is known behind it
    have next : ∀ (v : Value) (u' : World), F i u' v → Below u.heap.size u u' → ∃ f', (putR A p f).put o.dst v = putR A p f' ∧ (∀ k, (listed.setIfInBounds i true).getD k false = true → k < T.length ∧ F k u' (f' (D k))) ∧ Below w.heap.size w u' := fun v u' hv hb' => by
      refine ⟨fun j => if j = D i then v else f j, ?_, fun k hk => ?_, hb.trans (hb'.mono hb.size)⟩
      · rw [hd1]
        exact putR_put _ _ _ _ _ hd2
      · by_cases e : k = i
        · subst e
          simp only [if_true]
          exact ⟨hil, hv⟩
        · have hk2 : listed.getD k false = true := by rwa [getD_set_other e] at hk
          obtain ⟨hk3, hk4⟩ := hV k hk2
          have hne : ¬ D k = D i := fun h => e (hinj k hk3 i hil h)
          simp only [hne, if_false]
          exact ⟨hk3, hF k u u' _ hb' hk4⟩
    -- the guard
    have hw : Region.wanted o (yielded ops (putR A p f).tmps) = wantG G o.guard := by
      unfold Region.wanted wantG
      rcases hg : o.guard with _ | ⟨g, b⟩
      · rfl
      · obtain ⟨h1, hcs⟩ := hgd i _ g b hx hg
        obtain ⟨e, he, hge⟩ := List.mem_map.1 h1
        have hm := List.mem_filter.1 he
        have h4 := (hV _ (hdep e (by simpa using hm.1) hm.2)).1
        rw [hge] at h4
        obtain ⟨h5, h6, h7⟩ := hD g T[g] (List.getElem?_eq_getElem h4)
        have hog : ∃ og, ops[g]? = some og ∧ og.dst = some (D g) := by
          have hg2 : g < ops.size := by omega
          refine ⟨ops[g], Array.getElem?_eq_getElem hg2, ?_⟩
          have hTg : T[g]? = some (keyG ops[g]) := by rw [← hkey, List.getElem?_map, Array.getElem?_toList, Array.getElem?_eq_getElem hg2]; rfl
          have := hD g _ hTg
          exact this.1
        obtain ⟨og, ho1, ho2⟩ := hog
        have hsz : D g < (putR A p f).tmps.size := by simp [putR]; exact h7
        show (yielded ops (putR A p f).tmps g == some b) = (G g == some b)
        rcases hcs with ⟨c, h2⟩ | ⟨h2, hu⟩
        · have h3 := hG g c u _ h2 (hdeps g h1)
          have h8 : (putR A p f).eval (.tmp (D g)) = .bool c := h3
          have h9 : (putR A p f).tmps[D g]? = some (.bool c) := by
            rw [Array.getElem?_eq_getElem hsz]
            simp [Act.eval, hsz] at h8
            rw [h8]
          have hy : yielded ops (putR A p f).tmps g = some c := by
            unfold yielded
            rw [ho1]
            simp [ho2, h9]
          rw [hy, h2]
        · have h8 : (putR A p f).eval (.tmp (D g)) = undef := hu u _ (hdeps g h1)
          have h9 : (putR A p f).tmps[D g]? = some undef := by
            rw [Array.getElem?_eq_getElem hsz]
            simp [Act.eval, hsz] at h8
            rw [h8]
          have hy : yielded ops (putR A p f).tmps g = none := by
            unfold yielded
            rw [ho1]
            simp [ho2, h9, undef]
          rw [hy, h2]
    unfold wpOp
    simp only [hi]
    cases hc : wantG G o.guard with
    | true =>
      rw [hw, hc]
      simp only [if_true]
      refine .inl (Oper.wp_mono (fun a' u' ⟨v, ha, hv, hb'⟩ => ?_) (step i _ (putR A p f) u hx hc hb (fun j hj => putR_out _ _ _ j hj) hdeps o rfl rfl))
      rw [ha]
      exact next v u' hv hb'
    | false =>
      rw [hw, hc]
      simp only [Bool.false_eq_true, if_false]
      exact next undef u (skip i _ u hx hc) (Below.refl _ _)
  · obtain ⟨hV, hb⟩ := hI
    exact fin f u (fun k hk => (hV k (all_of_ready hs hr hlow (k + 1) k (Nat.lt_succ_self k) (by omega))).2) hb
namespace JV
theorem ne_of_lt {n l : List UInt8} (h : Jn.lt n l = true) : n ≠ l := fun e => by
  rw [e, Jn.lt_irrefl] at h
  cases h
section
variable {n l o : List UInt8} {ns : List (List UInt8)} {i y : JV} {is : List JV}
theorem pos_lt (h : Jn.lt n l = true) : Jn.pos (n :: ns) l = Jn.pos ns l + 1 := by rw [Jn.pos, if_pos h]
theorem pos_nlt (h : Jn.lt n l = false) : Jn.pos (n :: ns) l = 0 := by rw [Jn.pos, if_neg (by rw [h]; exact Bool.false_ne_true)]
theorem has_lt (h : Jn.lt n l = true) : Jn.has (n :: ns) l = Jn.has ns l := by unfold Jn.has; rw [pos_lt h, List.getElem?_cons_succ]
theorem has_nlt (h : Jn.lt n l = false) : Jn.has (n :: ns) l = decide (n = l) := by
  unfold Jn.has
  rw [pos_nlt h]
  simp
theorem putN_lt (h : Jn.lt n l = true) : putN (n :: ns) l = n :: putN ns l := by
  unfold putN
  rw [has_lt h, pos_lt h]
  split <;> simp
theorem putI_lt (h : Jn.lt n l = true) : putI (n :: ns) l (i :: is) y = i :: putI ns l is y := by
  unfold putI roomI
  rw [has_lt h, pos_lt h]
  split <;> simp
theorem putN_eq : putN (l :: ns) l = l :: ns := by
  unfold putN
  rw [has_nlt (Jn.lt_irrefl l)]
  simp
theorem putI_eq : putI (l :: ns) l (i :: is) y = y :: is := by
  unfold putI roomI
  rw [has_nlt (Jn.lt_irrefl l), pos_nlt (Jn.lt_irrefl l)]
  simp
theorem putN_gt (h : Jn.lt n l = false) (hne : n ≠ l) : putN (n :: ns) l = l :: n :: ns := by
  unfold putN
  rw [has_nlt h, pos_nlt h]
  simp [hne]
theorem putI_gt (h : Jn.lt n l = false) (hne : n ≠ l) : putI (n :: ns) l (i :: is) y = y :: i :: is := by
  unfold putI roomI
  rw [has_nlt h, pos_nlt h]
  simp [hne]
theorem putN_nil : putN [] l = [l] := by simp [putN, Jn.has, Jn.pos]
theorem putI_nil : putI [] l [] y = [y] := by simp [putI, roomI, Jn.has, Jn.pos]
end
/-- what stands by a name -/
def look : List (List UInt8) → List JV → List UInt8 → Option JV
  | n :: ns, i :: is, o => if n = o then some i else look ns is o
  | _, _, _ => none
theorem find_look (l : List UInt8) : ∀ (ns : List (List UInt8)) (is : List JV), ns.length = is.length →
    (if find ns l < ns.length then (match is[find ns l]? with | some y => (y, true) | none => (zero, false)) else (zero, false)) = (match look ns is l with | some y => (y, true) | none => (zero, false))
  | [], [], _ => rfl
  | n :: ns, i :: is, h => by
    have := find_look l ns is (by simpa using h)
    rw [find, look]
    by_cases e : n = l
    · rw [if_pos e, if_pos e]
      simp
    · rw [if_neg e, if_neg e, ← this]
      simp only [List.length_cons, Nat.add_lt_add_iff_right, List.getElem?_cons_succ]
theorem get_look {x : JV} {l : List UInt8} (hk : x.k = 5) (hl : x.ns.length = x.is.length) : x.get l = (match look x.ns x.is l with | some y => (y, true) | none => (zero, false)) := by
  unfold get
  rw [if_pos hk]
  exact find_look l _ _ hl
theorem look_put (l : List UInt8) (y : JV) : ∀ (ns : List (List UInt8)) (is : List JV), ns.length = is.length → look (putN ns l) (putI ns l is y) l = some y
  | [], [], _ => by rw [putN_nil, putI_nil]; simp [look]
  | n :: ns, i :: is, h => by
    cases hlt : Jn.lt n l with
    | true => rw [putN_lt hlt, putI_lt hlt, look, if_neg (ne_of_lt hlt)]; exact look_put l y ns is (by simpa using h)
    | false =>
      by_cases e : n = l
      · subst e; rw [putN_eq, putI_eq, look, if_pos rfl]
      · rw [putN_gt hlt e, putI_gt hlt e, look, if_pos rfl]
theorem look_other {l o : List UInt8} (ho : o ≠ l) (y : JV) : ∀ (ns : List (List UInt8)) (is : List JV), ns.length = is.length → look (putN ns l) (putI ns l is y) o = look ns is o
  | [], [], _ => by rw [putN_nil, putI_nil]; simp [look, Ne.symm ho]
  | n :: ns, i :: is, h => by
    cases hlt : Jn.lt n l with
    | true =>
      rw [putN_lt hlt, putI_lt hlt, look, look]
      by_cases e : n = o
      · rw [if_pos e, if_pos e]
      · rw [if_neg e, if_neg e]; exact look_other ho y ns is (by simpa using h)
    | false =>
      by_cases e : n = l
      · subst e; rw [putN_eq, putI_eq, look, look, if_neg (Ne.symm ho), if_neg (Ne.symm ho)]
      · rw [putN_gt hlt e, putI_gt hlt e, look, if_neg (Ne.symm ho)]
theorem look_none {l : List UInt8} : ∀ (ns : List (List UInt8)) (is : List JV), (∀ n ∈ ns, n ≠ l) → look ns is l = none
  | [], is, _ => by cases is <;> rfl
  | n :: ns, [], _ => rfl
  | n :: ns, i :: is, h => by
    rw [look, if_neg (h n List.mem_cons_self)]
    exact look_none ns is fun m hm => h m (List.mem_cons_of_mem _ hm)
theorem keep_none {l : List UInt8} : ∀ (ns : List (List UInt8)) (is : List JV), ns.length = is.length → look ns is l = none → keep ns is l = (ns, is)
  | [], [], _, _ => rfl
  | n :: ns, i :: is, h, hn => by
    rw [look] at hn
    by_cases e : n = l
    · rw [if_pos e] at hn; cases hn
    · rw [if_neg e] at hn
      rw [keep, if_neg e, keep_none ns is (by simpa using h) hn]
theorem keep_put (l : List UInt8) (y : JV) : ∀ (ns : List (List UInt8)) (is : List JV), ns.length = is.length → look ns is l = none → keep (putN ns l) (putI ns l is y) l = (ns, is)
  | [], [], _, _ => by rw [putN_nil, putI_nil]; simp [keep]
  | n :: ns, i :: is, h, hn => by
    have hn' := hn
    rw [look] at hn
    by_cases e : n = l
    · rw [if_pos e] at hn; cases hn
    · rw [if_neg e] at hn
      cases hlt : Jn.lt n l with
      | true => rw [putN_lt hlt, putI_lt hlt, keep, if_neg e, keep_put l y ns is (by simpa using h) hn]
      | false => rw [putN_gt hlt e, putI_gt hlt e, keep, if_pos rfl, keep_none _ _ h hn']
theorem rise_above {n : List UInt8} {ns : List (List UInt8)} (hr : Jn.rise (n :: ns) = true) {m : List UInt8} (hm : m ∈ ns) : Jn.lt n m = true := by
  obtain ⟨j, hj⟩ := List.getElem?_of_mem hm
  exact Jn.rise_lt hr 0 (j + 1) n m (by omega) rfl (by simpa using hj)
theorem keep_len_put (l : List UInt8) (y : JV) : ∀ (ns : List (List UInt8)) (is : List JV), ns.length = is.length → Jn.rise ns = true → (keep (putN ns l) (putI ns l is y) l).1.length + 1 = (putN ns l).length
  | [], [], _, _ => by rw [putN_nil, putI_nil]; simp [keep]
  | n :: ns, i :: is, h, hr => by
    cases hlt : Jn.lt n l with
    | true =>
      rw [putN_lt hlt, putI_lt hlt, keep, if_neg (ne_of_lt hlt), List.length_cons, List.length_cons, keep_len_put l y ns is (by simpa using h) (Jn.rise_tail hr)]
    | false =>
      by_cases e : n = l
      · subst e
        rw [putN_eq, putI_eq, keep, if_pos rfl, keep_none ns is (by simpa using h) (look_none ns is fun m hm => (ne_of_lt (rise_above hr hm)).symm), List.length_cons]
      · have hno : ∀ m ∈ n :: ns, m ≠ l := fun m hm h2 => by
          rcases List.mem_cons.1 hm with h3 | h3
          · exact e (h3 ▸ h2)
          · have := rise_above hr h3
            rw [h2, hlt] at this
            cases this
        rw [putN_gt hlt e, putI_gt hlt e, keep, if_pos rfl, keep_none (n :: ns) (i :: is) h (look_none _ _ hno)]
        rfl
theorem rise_two {n m : List UInt8} {r : List (List UInt8)} (h1 : Jn.lt n m = true) (h2 : Jn.rise (m :: r) = true) : Jn.rise (n :: m :: r) = true := by
  show (Jn.lt n m && Jn.rise (m :: r)) = true
  rw [h1, h2]
  rfl
theorem rise_put (l : List UInt8) : ∀ ns : List (List UInt8), Jn.rise ns = true → Jn.rise (putN ns l) = true
  | [], _ => by rw [putN_nil]; rfl
  | n :: ns, hr => by
    cases hlt : Jn.lt n l with
    | true =>
      have IH := rise_put l ns (Jn.rise_tail hr)
      rw [putN_lt hlt]
      cases ns with
      | nil => rw [putN_nil] at IH ⊢; exact rise_two hlt IH
      | cons m r =>
        have hnm := rise_above hr (m := m) List.mem_cons_self
        cases hml : Jn.lt m l with
        | true => rw [putN_lt hml] at IH ⊢; exact rise_two hnm IH
        | false =>
          by_cases e : m = l
          · subst e; rw [putN_eq] at IH ⊢; exact rise_two hnm IH
          · rw [putN_gt hml e] at IH ⊢; exact rise_two hlt IH
    | false =>
      by_cases e : n = l
      · subst e; rw [putN_eq]; exact hr
      · rw [putN_gt hlt e]
        exact rise_two (Jn.lt_of_not l n (by rw [hlt, Bool.false_or]; exact beq_eq_false_iff_ne.2 e)) hr
theorem txts_put {l : List UInt8} (hl : Jn.txt l = true) : ∀ ns : List (List UInt8), ns.all Jn.txt = true → (putN ns l).all Jn.txt = true
  | [], _ => by rw [putN_nil]; simp [hl]
  | n :: ns, h => by
    have h2 := h
    rw [List.all_cons, Bool.and_eq_true] at h
    cases hlt : Jn.lt n l with
    | true => rw [putN_lt hlt, List.all_cons, h.1, Bool.true_and]; exact txts_put hl ns h.2
    | false =>
      by_cases e : n = l
      · subst e; rw [putN_eq]; exact h2
      · rw [putN_gt hlt e, List.all_cons, hl, Bool.true_and]; exact h2
theorem parts_put (l : List UInt8) {y : JV} (hy : part y = true) : ∀ (ns : List (List UInt8)) (is : List JV), ns.length = is.length → parts is = true → parts (putI ns l is y) = true
  | [], [], _, _ => by rw [putI_nil, parts, hy]; rfl
  | n :: ns, i :: is, h, hp => by
    have h2 := hp
    rw [parts, Bool.and_eq_true] at hp
    cases hlt : Jn.lt n l with
    | true => rw [putI_lt hlt, parts, hp.1, Bool.true_and]; exact parts_put l hy ns is (by simpa using h) hp.2
    | false =>
      by_cases e : n = l
      · subst e; rw [putI_eq, parts, hy, Bool.true_and]; exact hp.2
      · rw [putI_gt hlt e, parts, hy, Bool.true_and]; exact h2
theorem wn_put (l : List UInt8) : ∀ ns : List (List UInt8), wn (putN ns l) ≤ wn ns + 2 + l.length
  | [] => by rw [putN_nil]; simp only [wn]; omega
  | n :: ns => by
    have := wn_put l ns
    cases hlt : Jn.lt n l with
    | true => rw [putN_lt hlt, wn, wn]; omega
    | false =>
      by_cases e : n = l
      · subst e; rw [putN_eq, wn]; omega
      · rw [putN_gt hlt e, wn, wn]; omega
theorem wts_put (l : List UInt8) (y : JV) : ∀ (ns : List (List UInt8)) (is : List JV), ns.length = is.length → wts (putI ns l is y) ≤ wts is + wt y
  | [], [], _ => by rw [putI_nil]; simp only [wts]; omega
  | n :: ns, i :: is, h => by
    have := wts_put l y ns is (by simpa using h)
    cases hlt : Jn.lt n l with
    | true => rw [putI_lt hlt, wts, wts]; omega
    | false =>
      by_cases e : n = l
      · subst e; rw [putI_eq, wts, wts]; omega
      · rw [putI_gt hlt e, wts, wts]; omega
/-- an object that may be, with one more -/
theorem part_put {x y : JV} {l : List UInt8} (hx : x.part = true) (hk : x.k = 5) (hy : y.part = true) (hl : Jn.txt l = true) : JV.part (.mk 5 x.n x.t (putN x.ns l) (putI x.ns l x.is y)) = true := by
  rw [part_eq] at hx ⊢
  simp only [hk] at hx
  simp [JV.k, JV.n, JV.t, JV.ns, JV.is] at hx ⊢
  obtain ⟨⟨h1, h2, h3, h4⟩, h5, h6⟩ := hx
  have h7 := putI_len (l := l) (y := y) h3
  refine ⟨⟨h1, h2, h7.1.symm, rise_put l _ h4⟩, ?_, parts_put l hy _ _ h3 h6⟩
  have := txts_put hl x.ns (by rw [List.all_eq_true]; exact h5)
  rw [List.all_eq_true] at this
  exact this
/-- an object that may be has as many names as Items, and they rise -/
theorem part_obj {x : JV} (hx : x.part = true) (hk : x.k = 5) : x.ns.length = x.is.length ∧ Jn.rise x.ns = true ∧ x.n = 0 ∧ x.t = [] := by
  rw [part_eq] at hx
  simp only [hk] at hx
  simp at hx
  obtain ⟨⟨h1, h2, h3, h4⟩, _, _⟩ := hx
  exact ⟨h3, h4, h1, h2⟩
/-- With, of an object that may be -/
theorem put_ok {x : JV} (l : List UInt8) (y : JV) (hx : x.part = true) (hk : x.k = 5) : x.put l y = (.mk 5 x.n x.t (putN x.ns l) (putI x.ns l x.is y), 0) := by
  obtain ⟨h1, h2, _, _⟩ := part_obj hx hk
  unfold put
  rw [if_pos hk, if_pos (by rw [h2, h1]; simp)]
/-- With that refuses gives nothing -/
theorem put_none (x : JV) (l : List UInt8) (y : JV) : (x.put l y).2 = 0 ∨ ((x.put l y).1 = zero ∧ (x.put l y).2 ≠ 0) := by
  unfold put
  by_cases h : x.k = 5
  · rw [if_pos h]
    split
    · exact .inl rfl
    · exact .inr ⟨rfl, by decide⟩
  · rw [if_neg h]
    exact .inr ⟨rfl, by decide⟩
theorem get_put {x : JV} (l : List UInt8) (y : JV) (hx : x.part = true) (hk : x.k = 5) : JV.get (.mk 5 x.n x.t (putN x.ns l) (putI x.ns l x.is y)) l = (y, true) := by
  obtain ⟨h1, _, _, _⟩ := part_obj hx hk
  rw [get_look (x := .mk 5 x.n x.t (putN x.ns l) (putI x.ns l x.is y)) rfl (putI_len (l := l) (y := y) h1).1.symm]
  show (match look (putN x.ns l) (putI x.ns l x.is y) l with | some y => (y, true) | none => (zero, false)) = _
  rw [look_put l y _ _ h1]
theorem get_other {x : JV} {l o : List UInt8} (ho : o ≠ l) (y : JV) (hx : x.part = true) (hk : x.k = 5) : JV.get (.mk 5 x.n x.t (putN x.ns l) (putI x.ns l x.is y)) o = x.get o := by
  obtain ⟨h1, _, _, _⟩ := part_obj hx hk
  rw [get_look (x := .mk 5 x.n x.t (putN x.ns l) (putI x.ns l x.is y)) rfl (putI_len (l := l) (y := y) h1).1.symm, get_look hk h1]
  show (match look (putN x.ns l) (putI x.ns l x.is y) o with | some y => (y, true) | none => (zero, false)) = _
  rw [look_other ho y _ _ h1]
theorem without_put {x : JV} (l : List UInt8) (y : JV) (hx : x.part = true) (hk : x.k = 5) : (JV.without (.mk 5 x.n x.t (putN x.ns l) (putI x.ns l x.is y)) l).2 = true ∧
    ((JV.without (.mk 5 x.n x.t (putN x.ns l) (putI x.ns l x.is y)) l).1.ns.length + 1 = (putN x.ns l).length) ∧ ((x.get l).2 = false → (JV.without (.mk 5 x.n x.t (putN x.ns l) (putI x.ns l x.is y)) l).1 = x) := by
  obtain ⟨h1, h2, h3, h4⟩ := part_obj hx hk
  have h5 := keep_len_put l y x.ns x.is h1 h2
  have he : JV.without (.mk 5 x.n x.t (putN x.ns l) (putI x.ns l x.is y)) l = (.mk 5 x.n x.t (keep (putN x.ns l) (putI x.ns l x.is y) l).1 (keep (putN x.ns l) (putI x.ns l x.is y) l).2, decide ((keep (putN x.ns l) (putI x.ns l x.is y) l).1.length < (putN x.ns l).length)) := by
    unfold without
    rw [if_pos ⟨rfl, (putI_len (l := l) (y := y) h1).1.symm⟩]
    rfl
  rw [he]
  refine ⟨decide_eq_true (by omega), h5, fun hg => ?_⟩
  have hl : look x.ns x.is l = none := by
    rw [get_look hk h1] at hg
    cases hc : look x.ns x.is l with
    | none => rfl
    | some z => rw [hc] at hg; cases hg
  rw [keep_put l y _ _ h1 hl]
  match x, hk with
  | .mk k n t ns is, hk =>
    have hk : k = 5 := hk
    rw [hk]
    rfl
end JV
def Twa : List (Option Tmp × Op × Option (Nat × Bool) × List Nat) :=
  [(some 105, Op.load 25 (Operand.tmp 5), none, []),
   (some 106, Op.call { callee := Callee.value (Operand.func 15), args := #[Operand.tmp 105], argTypes := #[25] }, none, [0]),
   (some 107, Op.move (Operand.tmp 106), none, [1, 1]),
   (some 108, Op.move (Operand.tmp 2), some (2, true), [2]),
   (some 109, Op.call { callee := Callee.value (Operand.func 31), args := #[Operand.tmp 108], argTypes := #[9] }, some (2, true), [3, 2, 2]),
   (some 110, Op.call { callee := Callee.value (Operand.func 15), args := #[Operand.tmp 109], argTypes := #[25] }, some (2, true), [4, 4, 2]),
   (some 111, Op.pick (Operand.tmp 107) (Operand.tmp 110) (Operand.const (Value.bool false)), none, [2, 5]),
   (some 112, Op.move (Operand.tmp 111), none, [6, 5]),
   (some 113, Op.load 25 (Operand.tmp 9), some (7, true), [7]),
   (some 114, Op.call { callee := Callee.value (Operand.func 15), args := #[Operand.tmp 113], argTypes := #[25] }, some (7, true), [8, 7, 7]),
   (some 115, Op.load 25 (Operand.tmp 9), some (7, true), [7]),
   (some 116, Op.call { callee := Callee.value (Operand.func 19), args := #[Operand.tmp 115], argTypes := #[25] }, some (7, true), [10, 9, 7]),
   (some 117, Op.binOp BinOp.leq 3 (Operand.tmp 116) (Operand.const (Value.int IntKind.i64 8192)) 3, some (7, true), [11, 7]),
   (some 118, Op.move (Operand.tmp 117), some (7, true), [12, 11, 7]),
   (some 119, Op.load 25 (Operand.tmp 9), some (13, true), [13]),
   (some 120, Op.call { callee := Callee.value (Operand.func 21), args := #[Operand.tmp 119], argTypes := #[25] }, some (13, true), [14, 13, 13]),
   (some 121, Op.binOp BinOp.leq 3 (Operand.tmp 120) (Operand.const (Value.int IntKind.i64 12)) 3, some (13, true), [15, 13]),
   (some 122, Op.pick (Operand.tmp 118) (Operand.tmp 121) (Operand.const (Value.bool false)), some (7, true), [13, 16, 7]),
   (some 123, Op.binOp BinOp.neq 4 (Operand.tmp 114) (Operand.tmp 122) 4, some (7, true), [9, 17, 7]),
   (some 124, Op.pick (Operand.tmp 112) (Operand.tmp 123) (Operand.const (Value.bool false)), none, [7, 18])]
def Swa : List Nat := [105, 106, 107, 108, 109, 110, 111, 112, 113, 114, 115, 116, 117, 118, 119, 120, 121, 122, 123, 124]
def Dwa (k : Nat) : Nat := Swa.getD k 0
def pwa (i : Nat) : Bool := Swa.contains i
set_option maxRecDepth 100000 in
theorem injwa : ∀ i, i < 20 → ∀ j, j < 20 → Dwa i = Dwa j → i = j := by decide +kernel
set_option maxHeartbeats 8000000 in
set_option maxRecDepth 100000 in
theorem region_wa {ops : Array Oper} {Q : Exit → Act → World → Prop} {A : Act} {id : Nat} {w1 : World}
    (hkey : ops.toList.map keyG = Twa) (hlow : (List.range ops.size).all (fun i => match ops[i]? with | some o => o.after.all (fun e => !Region.binds .any e || decide (e.on < i)) | none => true) = true)
    (hsz : 124 < A.tmps.size) {Y : JV} {yb : Nat} {b0 b1 b2 b3 b4 : Value} (e5 : A.eval (.tmp 5) = .pointer (some ⟨yb, 0, none⟩))
    (V5 : VAt yb w1 b0 b1 b2 b3 b4) (H5 : HV w1 (.agg #[b0, b1, b2, b3, b4]) Y) (hwY : Y.wt ≤ 90000) (hMX : Y.may = false)
    (fin : ∀ (f : Nat → Value) u, FD (.val (.bool false)) u (f 124) → Below w1.heap.size w1 u → Q .normal (putR A pwa f) u) : (Code.region id ops true).wp Try.prog Q A w1 := by
  refine wp_region_grow2 (by kernel_rfl) Twa hkey hlow pwa Dwa ?_ injwa (Fl [(.jv Y), (.val (.bool false)), (.val (.bool false)), (.val undef), (.val undef), (.val undef), (.val (.bool false)), (.val (.bool false)), (.val undef), (.val undef), (.val undef), (.val undef), (.val undef), (.val undef), (.val undef), (.val undef), (.val undef), (.val undef), (.val undef), (.val (.bool false))]) (fun k u u2 v hb h => Fl.below _ k u u2 v hb h) (Gl [(.jv Y), (.val (.bool false)), (.val (.bool false)), (.val undef), (.val undef), (.val undef), (.val (.bool false)), (.val (.bool false)), (.val undef), (.val undef), (.val undef), (.val undef), (.val undef), (.val undef), (.val undef), (.val undef), (.val undef), (.val undef), (.val undef), (.val (.bool false))]) (fun k c u v h1 h2 => Gl.val _ k c u v h1 h2) ?_ ?_ ?_ ?_
  · intro k y hy
    rcases k with _ | _ | _ | _ | _ | _ | _ | _ | _ | _ | _ | _ | _ | _ | _ | _ | _ | _ | _ | _ | k
    all_goals simp only [Twa, List.getElem?_cons_zero, List.getElem?_cons_succ, List.getElem?_nil, Option.some.injEq, reduceCtorEq] at hy
    all_goals subst hy
    all_goals exact ⟨rfl, rfl, Nat.lt_of_le_of_lt (by show (_ : Nat) ≤ 124; decide) hsz⟩
  · intro k y g b hy hg
    rcases k with _ | _ | _ | _ | _ | _ | _ | _ | _ | _ | _ | _ | _ | _ | _ | _ | _ | _ | _ | _ | k
    all_goals simp only [Twa, List.getElem?_cons_zero, List.getElem?_cons_succ, List.getElem?_nil, Option.some.injEq, reduceCtorEq] at hy
    all_goals subst hy
    all_goals first | (cases hg; done) | (have h2 := Prod.mk.inj (Option.some.inj hg); obtain ⟨rfl, rfl⟩ := h2; exact ⟨by simp, (by first | exact .inl ⟨_, rfl⟩ | exact .inr ⟨rfl, fun _ _ h => h⟩)⟩)
  · intro k y u hy hw
    rcases k with _ | _ | _ | _ | _ | _ | _ | _ | _ | _ | _ | _ | _ | _ | _ | _ | _ | _ | _ | _ | k
    all_goals simp only [Twa, List.getElem?_cons_zero, List.getElem?_cons_succ, List.getElem?_nil, Option.some.injEq, reduceCtorEq] at hy
    all_goals subst hy
    all_goals first | exact rfl | exact Bool.noConfusion (show true = false from hw)
  · intro k y a u hy hw hb hout hdep o hd hop
    rcases k with _ | _ | _ | _ | _ | _ | _ | _ | _ | _ | _ | _ | _ | _ | _ | _ | _ | _ | _ | _ | k
    all_goals simp only [Twa, List.getElem?_cons_zero, List.getElem?_cons_succ, List.getElem?_nil, Option.some.injEq, reduceCtorEq] at hy
    all_goals subst hy
    · exact gl_load hop ((hout 5 rfl).trans e5) (V5.below hb) (H5.below hb)
    · exact gl_call (d := (.val (.bool false))) 15 (args := #[a.eval (.tmp 105)]) hop (by simp only [List.map_toArray, List.map_cons, List.map_nil] <;> rfl) (fun args w => by kernel_rfl) (gl_ret (may_any Y u _ hwY (show FD (.jv Y) u (a.eval (.tmp 105)) from hdep 0 (by simp)) hMX))
    · exact gl_move (d := (.val (.bool false))) hop (show FD (.val (.bool false)) u (a.eval (.tmp 106)) from hdep 1 (by simp))
    · exact Bool.noConfusion (show false = true from hw)
    · exact Bool.noConfusion (show false = true from hw)
    · exact Bool.noConfusion (show false = true from hw)
    · exact gl_and (c := false) hop (show FD (.val (.bool false)) u (a.eval (.tmp 107)) from hdep 2 (by simp)) (fun h => Bool.noConfusion h) rfl
    · exact gl_move (d := (.val (.bool false))) hop (show FD (.val (.bool false)) u (a.eval (.tmp 111)) from hdep 6 (by simp))
    · exact Bool.noConfusion (show false = true from hw)
    · exact Bool.noConfusion (show false = true from hw)
    · exact Bool.noConfusion (show false = true from hw)
    · exact Bool.noConfusion (show false = true from hw)
    · exact Bool.noConfusion (show false = true from hw)
    · exact Bool.noConfusion (show false = true from hw)
    · exact Bool.noConfusion (show false = true from hw)
    · exact Bool.noConfusion (show false = true from hw)
    · exact Bool.noConfusion (show false = true from hw)
    · exact Bool.noConfusion (show false = true from hw)
    · exact Bool.noConfusion (show false = true from hw)
    · exact gl_and (c := false) hop (show FD (.val (.bool false)) u (a.eval (.tmp 112)) from hdep 7 (by simp)) (fun h => Bool.noConfusion h) rfl
  · intro f u hall hb
    exact fin f u (hall 19 (by decide)) hb
def Twb : List (Option Tmp × Op × Option (Nat × Bool) × List Nat) :=
  [(some 105, Op.load 25 (Operand.tmp 5), none, []),
   (some 106, Op.call { callee := Callee.value (Operand.func 15), args := #[Operand.tmp 105], argTypes := #[25] }, none, [0]),
   (some 107, Op.move (Operand.tmp 106), none, [1, 1]),
   (some 108, Op.move (Operand.tmp 2), some (2, true), [2]),
   (some 109, Op.call { callee := Callee.value (Operand.func 31), args := #[Operand.tmp 108], argTypes := #[9] }, some (2, true), [3, 2, 2]),
   (some 110, Op.call { callee := Callee.value (Operand.func 15), args := #[Operand.tmp 109], argTypes := #[25] }, some (2, true), [4, 4, 2]),
   (some 111, Op.pick (Operand.tmp 107) (Operand.tmp 110) (Operand.const (Value.bool false)), none, [2, 5]),
   (some 112, Op.move (Operand.tmp 111), none, [6, 5]),
   (some 113, Op.load 25 (Operand.tmp 9), some (7, true), [7]),
   (some 114, Op.call { callee := Callee.value (Operand.func 15), args := #[Operand.tmp 113], argTypes := #[25] }, some (7, true), [8, 7, 7]),
   (some 115, Op.load 25 (Operand.tmp 9), some (7, true), [7]),
   (some 116, Op.call { callee := Callee.value (Operand.func 19), args := #[Operand.tmp 115], argTypes := #[25] }, some (7, true), [10, 9, 7]),
   (some 117, Op.binOp BinOp.leq 3 (Operand.tmp 116) (Operand.const (Value.int IntKind.i64 8192)) 3, some (7, true), [11, 7]),
   (some 118, Op.move (Operand.tmp 117), some (7, true), [12, 11, 7]),
   (some 119, Op.load 25 (Operand.tmp 9), some (13, true), [13]),
   (some 120, Op.call { callee := Callee.value (Operand.func 21), args := #[Operand.tmp 119], argTypes := #[25] }, some (13, true), [14, 13, 13]),
   (some 121, Op.binOp BinOp.leq 3 (Operand.tmp 120) (Operand.const (Value.int IntKind.i64 12)) 3, some (13, true), [15, 13]),
   (some 122, Op.pick (Operand.tmp 118) (Operand.tmp 121) (Operand.const (Value.bool false)), some (7, true), [13, 16, 7]),
   (some 123, Op.binOp BinOp.neq 4 (Operand.tmp 114) (Operand.tmp 122) 4, some (7, true), [9, 17, 7]),
   (some 124, Op.pick (Operand.tmp 112) (Operand.tmp 123) (Operand.const (Value.bool false)), none, [7, 18])]
def Swb : List Nat := [105, 106, 107, 108, 109, 110, 111, 112, 113, 114, 115, 116, 117, 118, 119, 120, 121, 122, 123, 124]
def Dwb (k : Nat) : Nat := Swb.getD k 0
def pwb (i : Nat) : Bool := Swb.contains i
set_option maxRecDepth 100000 in
theorem injwb : ∀ i, i < 20 → ∀ j, j < 20 → Dwb i = Dwb j → i = j := by decide +kernel
set_option maxHeartbeats 8000000 in
set_option maxRecDepth 100000 in
theorem region_wb {ops : Array Oper} {Q : Exit → Act → World → Prop} {A : Act} {id : Nat} {w1 : World}
    (hkey : ops.toList.map keyG = Twb) (hlow : (List.range ops.size).all (fun i => match ops[i]? with | some o => o.after.all (fun e => !Region.binds .any e || decide (e.on < i)) | none => true) = true)
    (hsz : 124 < A.tmps.size) {Y : JV} {l : List UInt8} {yb : Nat} {b0 b1 b2 b3 b4 : Value} (e5 : A.eval (.tmp 5) = .pointer (some ⟨yb, 0, none⟩)) (e2 : A.eval (.tmp 2) = .string (S l))
    (V5 : VAt yb w1 b0 b1 b2 b3 b4) (H5 : HV w1 (.agg #[b0, b1, b2, b3, b4]) Y) (hwY : Y.wt ≤ 90000) (hMX : Y.may = true) (hll : l.length ≤ maxLen) (hwT : (JV.text l).wt ≤ 90000) (hMT : (JV.text l).may = false)
    (fin : ∀ (f : Nat → Value) u, FD (.val (.bool false)) u (f 124) → Below w1.heap.size w1 u → Q .normal (putR A pwb f) u) : (Code.region id ops true).wp Try.prog Q A w1 := by
  refine wp_region_grow2 (by kernel_rfl) Twb hkey hlow pwb Dwb ?_ injwb (Fl [(.jv Y), (.val (.bool true)), (.val (.bool true)), (.val (.string (S l))), (.jv (JV.text l)), (.val (.bool false)), (.val (.bool false)), (.val (.bool false)), (.val undef), (.val undef), (.val undef), (.val undef), (.val undef), (.val undef), (.val undef), (.val undef), (.val undef), (.val undef), (.val undef), (.val (.bool false))]) (fun k u u2 v hb h => Fl.below _ k u u2 v hb h) (Gl [(.jv Y), (.val (.bool true)), (.val (.bool true)), (.val (.string (S l))), (.jv (JV.text l)), (.val (.bool false)), (.val (.bool false)), (.val (.bool false)), (.val undef), (.val undef), (.val undef), (.val undef), (.val undef), (.val undef), (.val undef), (.val undef), (.val undef), (.val undef), (.val undef), (.val (.bool false))]) (fun k c u v h1 h2 => Gl.val _ k c u v h1 h2) ?_ ?_ ?_ ?_
  · intro k y hy
    rcases k with _ | _ | _ | _ | _ | _ | _ | _ | _ | _ | _ | _ | _ | _ | _ | _ | _ | _ | _ | _ | k
    all_goals simp only [Twb, List.getElem?_cons_zero, List.getElem?_cons_succ, List.getElem?_nil, Option.some.injEq, reduceCtorEq] at hy
    all_goals subst hy
    all_goals exact ⟨rfl, rfl, Nat.lt_of_le_of_lt (by show (_ : Nat) ≤ 124; decide) hsz⟩
  · intro k y g b hy hg
    rcases k with _ | _ | _ | _ | _ | _ | _ | _ | _ | _ | _ | _ | _ | _ | _ | _ | _ | _ | _ | _ | k
    all_goals simp only [Twb, List.getElem?_cons_zero, List.getElem?_cons_succ, List.getElem?_nil, Option.some.injEq, reduceCtorEq] at hy
    all_goals subst hy
    all_goals first | (cases hg; done) | (have h2 := Prod.mk.inj (Option.some.inj hg); obtain ⟨rfl, rfl⟩ := h2; exact ⟨by simp, (by first | exact .inl ⟨_, rfl⟩ | exact .inr ⟨rfl, fun _ _ h => h⟩)⟩)
  · intro k y u hy hw
    rcases k with _ | _ | _ | _ | _ | _ | _ | _ | _ | _ | _ | _ | _ | _ | _ | _ | _ | _ | _ | _ | k
    all_goals simp only [Twb, List.getElem?_cons_zero, List.getElem?_cons_succ, List.getElem?_nil, Option.some.injEq, reduceCtorEq] at hy
    all_goals subst hy
    all_goals first | exact rfl | exact Bool.noConfusion (show true = false from hw)
  · intro k y a u hy hw hb hout hdep o hd hop
    rcases k with _ | _ | _ | _ | _ | _ | _ | _ | _ | _ | _ | _ | _ | _ | _ | _ | _ | _ | _ | _ | k
    all_goals simp only [Twb, List.getElem?_cons_zero, List.getElem?_cons_succ, List.getElem?_nil, Option.some.injEq, reduceCtorEq] at hy
    all_goals subst hy
    · exact gl_load hop ((hout 5 rfl).trans e5) (V5.below hb) (H5.below hb)
    · exact gl_call (d := (.val (.bool true))) 15 (args := #[a.eval (.tmp 105)]) hop (by simp only [List.map_toArray, List.map_cons, List.map_nil] <;> rfl) (fun args w => by kernel_rfl) (gl_ret (may_any Y u _ hwY (show FD (.jv Y) u (a.eval (.tmp 105)) from hdep 0 (by simp)) hMX))
    · exact gl_move (d := (.val (.bool true))) hop (show FD (.val (.bool true)) u (a.eval (.tmp 106)) from hdep 1 (by simp))
    · exact gl_move (d := (.val (.string (S l)))) hop ((hout 2 rfl).trans e2)
    · exact gl_call (d := (.jv (JV.text l))) 31 (args := #[a.eval (.tmp 108)]) hop (by simp only [List.map_toArray, List.map_cons, List.map_nil] <;> rfl) (fun args w => by kernel_rfl) (text_fd l hll (show FD (.val (.string (S l))) u (a.eval (.tmp 108)) from hdep 3 (by simp)))
    · exact gl_call (d := (.val (.bool false))) 15 (args := #[a.eval (.tmp 109)]) hop (by simp only [List.map_toArray, List.map_cons, List.map_nil] <;> rfl) (fun args w => by kernel_rfl) (gl_ret (may_any (JV.text l) u _ hwT (show FD (.jv (JV.text l)) u (a.eval (.tmp 109)) from hdep 4 (by simp)) hMT))
    · exact gl_and hop (show FD (.val (.bool true)) u (a.eval (.tmp 107)) from hdep 2 (by simp)) (fun _ => (show FD (.val (.bool false)) u (a.eval (.tmp 110)) from hdep 5 (by simp))) rfl
    · exact gl_move (d := (.val (.bool false))) hop (show FD (.val (.bool false)) u (a.eval (.tmp 111)) from hdep 6 (by simp))
    · exact Bool.noConfusion (show false = true from hw)
    · exact Bool.noConfusion (show false = true from hw)
    · exact Bool.noConfusion (show false = true from hw)
    · exact Bool.noConfusion (show false = true from hw)
    · exact Bool.noConfusion (show false = true from hw)
    · exact Bool.noConfusion (show false = true from hw)
    · exact Bool.noConfusion (show false = true from hw)
    · exact Bool.noConfusion (show false = true from hw)
    · exact Bool.noConfusion (show false = true from hw)
    · exact Bool.noConfusion (show false = true from hw)
    · exact Bool.noConfusion (show false = true from hw)
    · exact gl_and (c := false) hop (show FD (.val (.bool false)) u (a.eval (.tmp 112)) from hdep 7 (by simp)) (fun h => Bool.noConfusion h) rfl
  · intro f u hall hb
    exact fin f u (hall 19 (by decide)) hb
def Twc : List (Option Tmp × Op × Option (Nat × Bool) × List Nat) :=
  [(some 105, Op.load 25 (Operand.tmp 5), none, []),
   (some 106, Op.call { callee := Callee.value (Operand.func 15), args := #[Operand.tmp 105], argTypes := #[25] }, none, [0]),
   (some 107, Op.move (Operand.tmp 106), none, [1, 1]),
   (some 108, Op.move (Operand.tmp 2), some (2, true), [2]),
   (some 109, Op.call { callee := Callee.value (Operand.func 31), args := #[Operand.tmp 108], argTypes := #[9] }, some (2, true), [3, 2, 2]),
   (some 110, Op.call { callee := Callee.value (Operand.func 15), args := #[Operand.tmp 109], argTypes := #[25] }, some (2, true), [4, 4, 2]),
   (some 111, Op.pick (Operand.tmp 107) (Operand.tmp 110) (Operand.const (Value.bool false)), none, [2, 5]),
   (some 112, Op.move (Operand.tmp 111), none, [6, 5]),
   (some 113, Op.load 25 (Operand.tmp 9), some (7, true), [7]),
   (some 114, Op.call { callee := Callee.value (Operand.func 15), args := #[Operand.tmp 113], argTypes := #[25] }, some (7, true), [8, 7, 7]),
   (some 115, Op.load 25 (Operand.tmp 9), some (7, true), [7]),
   (some 116, Op.call { callee := Callee.value (Operand.func 19), args := #[Operand.tmp 115], argTypes := #[25] }, some (7, true), [10, 9, 7]),
   (some 117, Op.binOp BinOp.leq 3 (Operand.tmp 116) (Operand.const (Value.int IntKind.i64 8192)) 3, some (7, true), [11, 7]),
   (some 118, Op.move (Operand.tmp 117), some (7, true), [12, 11, 7]),
   (some 119, Op.load 25 (Operand.tmp 9), some (13, true), [13]),
   (some 120, Op.call { callee := Callee.value (Operand.func 21), args := #[Operand.tmp 119], argTypes := #[25] }, some (13, true), [14, 13, 13]),
   (some 121, Op.binOp BinOp.leq 3 (Operand.tmp 120) (Operand.const (Value.int IntKind.i64 12)) 3, some (13, true), [15, 13]),
   (some 122, Op.pick (Operand.tmp 118) (Operand.tmp 121) (Operand.const (Value.bool false)), some (7, true), [13, 16, 7]),
   (some 123, Op.binOp BinOp.neq 4 (Operand.tmp 114) (Operand.tmp 122) 4, some (7, true), [9, 17, 7]),
   (some 124, Op.pick (Operand.tmp 112) (Operand.tmp 123) (Operand.const (Value.bool false)), none, [7, 18])]
def Swc : List Nat := [105, 106, 107, 108, 109, 110, 111, 112, 113, 114, 115, 116, 117, 118, 119, 120, 121, 122, 123, 124]
def Dwc (k : Nat) : Nat := Swc.getD k 0
def pwc (i : Nat) : Bool := Swc.contains i
set_option maxRecDepth 100000 in
theorem injwc : ∀ i, i < 20 → ∀ j, j < 20 → Dwc i = Dwc j → i = j := by decide +kernel
set_option maxHeartbeats 8000000 in
set_option maxRecDepth 100000 in
theorem region_wc {ops : Array Oper} {Q : Exit → Act → World → Prop} {A : Act} {id : Nat} {w1 : World}
    (hkey : ops.toList.map keyG = Twc) (hlow : (List.range ops.size).all (fun i => match ops[i]? with | some o => o.after.all (fun e => !Region.binds .any e || decide (e.on < i)) | none => true) = true)
    (hsz : 124 < A.tmps.size) {Y Z : JV} {l : List UInt8} {yb zb : Nat} {b0 b1 b2 b3 b4 c0 c1 c2 c3 c4 : Value} (e5 : A.eval (.tmp 5) = .pointer (some ⟨yb, 0, none⟩)) (e9 : A.eval (.tmp 9) = .pointer (some ⟨zb, 0, none⟩)) (e2 : A.eval (.tmp 2) = .string (S l))
    (V5 : VAt yb w1 b0 b1 b2 b3 b4) (H5 : HV w1 (.agg #[b0, b1, b2, b3, b4]) Y) (V9 : VAt zb w1 c0 c1 c2 c3 c4) (H9 : HV w1 (.agg #[c0, c1, c2, c3, c4]) Z) (hwY : Y.wt ≤ 90000) (hMX : Y.may = true) (hll : l.length ≤ maxLen) (hwT : (JV.text l).wt ≤ 90000) (hMT : (JV.text l).may = true) (hwZ : Z.wt ≤ 90000) (hcZ : Z.cnt ≤ 90000) (hC1 : decide (((Z.cnt : Nat) : Int) ≤ 8192) = false) (hMZ : Z.may = false)
    (fin : ∀ (f : Nat → Value) u, FD (.val (.bool false)) u (f 124) → Below w1.heap.size w1 u → Q .normal (putR A pwc f) u) : (Code.region id ops true).wp Try.prog Q A w1 := by
  refine wp_region_grow2 (by kernel_rfl) Twc hkey hlow pwc Dwc ?_ injwc (Fl [(.jv Y), (.val (.bool true)), (.val (.bool true)), (.val (.string (S l))), (.jv (JV.text l)), (.val (.bool true)), (.val (.bool true)), (.val (.bool true)), (.jv Z), (.val (.bool false)), (.jv Z), (.val (.int .i64 ((Z.cnt : Nat) : Int))), (.val (.bool false)), (.val (.bool false)), (.val undef), (.val undef), (.val undef), (.val (.bool false)), (.val (.bool false)), (.val (.bool false))]) (fun k u u2 v hb h => Fl.below _ k u u2 v hb h) (Gl [(.jv Y), (.val (.bool true)), (.val (.bool true)), (.val (.string (S l))), (.jv (JV.text l)), (.val (.bool true)), (.val (.bool true)), (.val (.bool true)), (.jv Z), (.val (.bool false)), (.jv Z), (.val (.int .i64 ((Z.cnt : Nat) : Int))), (.val (.bool false)), (.val (.bool false)), (.val undef), (.val undef), (.val undef), (.val (.bool false)), (.val (.bool false)), (.val (.bool false))]) (fun k c u v h1 h2 => Gl.val _ k c u v h1 h2) ?_ ?_ ?_ ?_
  · intro k y hy
    rcases k with _ | _ | _ | _ | _ | _ | _ | _ | _ | _ | _ | _ | _ | _ | _ | _ | _ | _ | _ | _ | k
    all_goals simp only [Twc, List.getElem?_cons_zero, List.getElem?_cons_succ, List.getElem?_nil, Option.some.injEq, reduceCtorEq] at hy
    all_goals subst hy
    all_goals exact ⟨rfl, rfl, Nat.lt_of_le_of_lt (by show (_ : Nat) ≤ 124; decide) hsz⟩
  · intro k y g b hy hg
    rcases k with _ | _ | _ | _ | _ | _ | _ | _ | _ | _ | _ | _ | _ | _ | _ | _ | _ | _ | _ | _ | k
    all_goals simp only [Twc, List.getElem?_cons_zero, List.getElem?_cons_succ, List.getElem?_nil, Option.some.injEq, reduceCtorEq] at hy
    all_goals subst hy
    all_goals first | (cases hg; done) | (have h2 := Prod.mk.inj (Option.some.inj hg); obtain ⟨rfl, rfl⟩ := h2; exact ⟨by simp, (by first | exact .inl ⟨_, rfl⟩ | exact .inr ⟨rfl, fun _ _ h => h⟩)⟩)
  · intro k y u hy hw
    rcases k with _ | _ | _ | _ | _ | _ | _ | _ | _ | _ | _ | _ | _ | _ | _ | _ | _ | _ | _ | _ | k
    all_goals simp only [Twc, List.getElem?_cons_zero, List.getElem?_cons_succ, List.getElem?_nil, Option.some.injEq, reduceCtorEq] at hy
    all_goals subst hy
    all_goals first | exact rfl | exact Bool.noConfusion (show true = false from hw)
  · intro k y a u hy hw hb hout hdep o hd hop
    rcases k with _ | _ | _ | _ | _ | _ | _ | _ | _ | _ | _ | _ | _ | _ | _ | _ | _ | _ | _ | _ | k
    all_goals simp only [Twc, List.getElem?_cons_zero, List.getElem?_cons_succ, List.getElem?_nil, Option.some.injEq, reduceCtorEq] at hy
    all_goals subst hy
    · exact gl_load hop ((hout 5 rfl).trans e5) (V5.below hb) (H5.below hb)
    · exact gl_call (d := (.val (.bool true))) 15 (args := #[a.eval (.tmp 105)]) hop (by simp only [List.map_toArray, List.map_cons, List.map_nil] <;> rfl) (fun args w => by kernel_rfl) (gl_ret (may_any Y u _ hwY (show FD (.jv Y) u (a.eval (.tmp 105)) from hdep 0 (by simp)) hMX))
    · exact gl_move (d := (.val (.bool true))) hop (show FD (.val (.bool true)) u (a.eval (.tmp 106)) from hdep 1 (by simp))
    · exact gl_move (d := (.val (.string (S l)))) hop ((hout 2 rfl).trans e2)
    · exact gl_call (d := (.jv (JV.text l))) 31 (args := #[a.eval (.tmp 108)]) hop (by simp only [List.map_toArray, List.map_cons, List.map_nil] <;> rfl) (fun args w => by kernel_rfl) (text_fd l hll (show FD (.val (.string (S l))) u (a.eval (.tmp 108)) from hdep 3 (by simp)))
    · exact gl_call (d := (.val (.bool true))) 15 (args := #[a.eval (.tmp 109)]) hop (by simp only [List.map_toArray, List.map_cons, List.map_nil] <;> rfl) (fun args w => by kernel_rfl) (gl_ret (may_any (JV.text l) u _ hwT (show FD (.jv (JV.text l)) u (a.eval (.tmp 109)) from hdep 4 (by simp)) hMT))
    · exact gl_and hop (show FD (.val (.bool true)) u (a.eval (.tmp 107)) from hdep 2 (by simp)) (fun _ => (show FD (.val (.bool true)) u (a.eval (.tmp 110)) from hdep 5 (by simp))) rfl
    · exact gl_move (d := (.val (.bool true))) hop (show FD (.val (.bool true)) u (a.eval (.tmp 111)) from hdep 6 (by simp))
    · exact gl_load hop ((hout 9 rfl).trans e9) (V9.below hb) (H9.below hb)
    · exact gl_call (d := (.val (.bool false))) 15 (args := #[a.eval (.tmp 113)]) hop (by simp only [List.map_toArray, List.map_cons, List.map_nil] <;> rfl) (fun args w => by kernel_rfl) (gl_ret (may_any Z u _ hwZ (show FD (.jv Z) u (a.eval (.tmp 113)) from hdep 8 (by simp)) hMZ))
    · exact gl_load hop ((hout 9 rfl).trans e9) (V9.below hb) (H9.below hb)
    · exact gl_call (d := (.val (.int .i64 ((Z.cnt : Nat) : Int)))) 19 (args := #[a.eval (.tmp 115)]) hop (by simp only [List.map_toArray, List.map_cons, List.map_nil] <;> rfl) (fun args w => by kernel_rfl) (gl_ret (count_any _ Z (Nat.le_refl _) hcZ u _ (show FD (.jv Z) u (a.eval (.tmp 115)) from hdep 10 (by simp))))
    · exact gl_lei hop (show FD (.val (.int .i64 ((Z.cnt : Nat) : Int))) u (a.eval (.tmp 116)) from hdep 11 (by simp)) hC1
    · exact gl_move (d := (.val (.bool false))) hop (show FD (.val (.bool false)) u (a.eval (.tmp 117)) from hdep 12 (by simp))
    · exact Bool.noConfusion (show false = true from hw)
    · exact Bool.noConfusion (show false = true from hw)
    · exact Bool.noConfusion (show false = true from hw)
    · exact gl_and (c := false) hop (show FD (.val (.bool false)) u (a.eval (.tmp 118)) from hdep 13 (by simp)) (fun h => Bool.noConfusion h) rfl
    · exact gl_eqv (gl_neb hop (show FD (.val (.bool false)) u (a.eval (.tmp 114)) from hdep 9 (by simp)) (show FD (.val (.bool false)) u (a.eval (.tmp 122)) from hdep 17 (by simp))) (by simp)
    · exact gl_and hop (show FD (.val (.bool true)) u (a.eval (.tmp 112)) from hdep 7 (by simp)) (fun _ => (show FD (.val (.bool false)) u (a.eval (.tmp 123)) from hdep 18 (by simp))) rfl
  · intro f u hall hb
    exact fin f u (hall 19 (by decide)) hb
def Twd : List (Option Tmp × Op × Option (Nat × Bool) × List Nat) :=
  [(some 105, Op.load 25 (Operand.tmp 5), none, []),
   (some 106, Op.call { callee := Callee.value (Operand.func 15), args := #[Operand.tmp 105], argTypes := #[25] }, none, [0]),
   (some 107, Op.move (Operand.tmp 106), none, [1, 1]),
   (some 108, Op.move (Operand.tmp 2), some (2, true), [2]),
   (some 109, Op.call { callee := Callee.value (Operand.func 31), args := #[Operand.tmp 108], argTypes := #[9] }, some (2, true), [3, 2, 2]),
   (some 110, Op.call { callee := Callee.value (Operand.func 15), args := #[Operand.tmp 109], argTypes := #[25] }, some (2, true), [4, 4, 2]),
   (some 111, Op.pick (Operand.tmp 107) (Operand.tmp 110) (Operand.const (Value.bool false)), none, [2, 5]),
   (some 112, Op.move (Operand.tmp 111), none, [6, 5]),
   (some 113, Op.load 25 (Operand.tmp 9), some (7, true), [7]),
   (some 114, Op.call { callee := Callee.value (Operand.func 15), args := #[Operand.tmp 113], argTypes := #[25] }, some (7, true), [8, 7, 7]),
   (some 115, Op.load 25 (Operand.tmp 9), some (7, true), [7]),
   (some 116, Op.call { callee := Callee.value (Operand.func 19), args := #[Operand.tmp 115], argTypes := #[25] }, some (7, true), [10, 9, 7]),
   (some 117, Op.binOp BinOp.leq 3 (Operand.tmp 116) (Operand.const (Value.int IntKind.i64 8192)) 3, some (7, true), [11, 7]),
   (some 118, Op.move (Operand.tmp 117), some (7, true), [12, 11, 7]),
   (some 119, Op.load 25 (Operand.tmp 9), some (13, true), [13]),
   (some 120, Op.call { callee := Callee.value (Operand.func 21), args := #[Operand.tmp 119], argTypes := #[25] }, some (13, true), [14, 13, 13]),
   (some 121, Op.binOp BinOp.leq 3 (Operand.tmp 120) (Operand.const (Value.int IntKind.i64 12)) 3, some (13, true), [15, 13]),
   (some 122, Op.pick (Operand.tmp 118) (Operand.tmp 121) (Operand.const (Value.bool false)), some (7, true), [13, 16, 7]),
   (some 123, Op.binOp BinOp.neq 4 (Operand.tmp 114) (Operand.tmp 122) 4, some (7, true), [9, 17, 7]),
   (some 124, Op.pick (Operand.tmp 112) (Operand.tmp 123) (Operand.const (Value.bool false)), none, [7, 18])]
def Swd : List Nat := [105, 106, 107, 108, 109, 110, 111, 112, 113, 114, 115, 116, 117, 118, 119, 120, 121, 122, 123, 124]
def Dwd (k : Nat) : Nat := Swd.getD k 0
def pwd (i : Nat) : Bool := Swd.contains i
set_option maxRecDepth 100000 in
theorem injwd : ∀ i, i < 20 → ∀ j, j < 20 → Dwd i = Dwd j → i = j := by decide +kernel
set_option maxHeartbeats 8000000 in
set_option maxRecDepth 100000 in
theorem region_wd {ops : Array Oper} {Q : Exit → Act → World → Prop} {A : Act} {id : Nat} {w1 : World}
    (hkey : ops.toList.map keyG = Twd) (hlow : (List.range ops.size).all (fun i => match ops[i]? with | some o => o.after.all (fun e => !Region.binds .any e || decide (e.on < i)) | none => true) = true)
    (hsz : 124 < A.tmps.size) {Y Z : JV} {l : List UInt8} {yb zb : Nat} {b0 b1 b2 b3 b4 c0 c1 c2 c3 c4 : Value} (e5 : A.eval (.tmp 5) = .pointer (some ⟨yb, 0, none⟩)) (e9 : A.eval (.tmp 9) = .pointer (some ⟨zb, 0, none⟩)) (e2 : A.eval (.tmp 2) = .string (S l))
    (V5 : VAt yb w1 b0 b1 b2 b3 b4) (H5 : HV w1 (.agg #[b0, b1, b2, b3, b4]) Y) (V9 : VAt zb w1 c0 c1 c2 c3 c4) (H9 : HV w1 (.agg #[c0, c1, c2, c3, c4]) Z) (hwY : Y.wt ≤ 90000) (hMX : Y.may = true) (hll : l.length ≤ maxLen) (hwT : (JV.text l).wt ≤ 90000) (hMT : (JV.text l).may = true) (hwZ : Z.wt ≤ 90000) (hcZ : Z.cnt ≤ 90000) (hC1 : decide (((Z.cnt : Nat) : Int) ≤ 8192) = true) {D2 : Bool} (hD2 : decide (((Z.dep : Nat) : Int) ≤ 12) = D2) (hMZ : Z.may = D2)
    (fin : ∀ (f : Nat → Value) u, FD (.val (.bool false)) u (f 124) → Below w1.heap.size w1 u → Q .normal (putR A pwd f) u) : (Code.region id ops true).wp Try.prog Q A w1 := by
  refine wp_region_grow2 (by kernel_rfl) Twd hkey hlow pwd Dwd ?_ injwd (Fl [(.jv Y), (.val (.bool true)), (.val (.bool true)), (.val (.string (S l))), (.jv (JV.text l)), (.val (.bool true)), (.val (.bool true)), (.val (.bool true)), (.jv Z), (.val (.bool D2)), (.jv Z), (.val (.int .i64 ((Z.cnt : Nat) : Int))), (.val (.bool true)), (.val (.bool true)), (.jv Z), (.val (.int .i64 ((Z.dep : Nat) : Int))), (.val (.bool D2)), (.val (.bool D2)), (.val (.bool false)), (.val (.bool false))]) (fun k u u2 v hb h => Fl.below _ k u u2 v hb h) (Gl [(.jv Y), (.val (.bool true)), (.val (.bool true)), (.val (.string (S l))), (.jv (JV.text l)), (.val (.bool true)), (.val (.bool true)), (.val (.bool true)), (.jv Z), (.val (.bool D2)), (.jv Z), (.val (.int .i64 ((Z.cnt : Nat) : Int))), (.val (.bool true)), (.val (.bool true)), (.jv Z), (.val (.int .i64 ((Z.dep : Nat) : Int))), (.val (.bool D2)), (.val (.bool D2)), (.val (.bool false)), (.val (.bool false))]) (fun k c u v h1 h2 => Gl.val _ k c u v h1 h2) ?_ ?_ ?_ ?_
  · intro k y hy
    rcases k with _ | _ | _ | _ | _ | _ | _ | _ | _ | _ | _ | _ | _ | _ | _ | _ | _ | _ | _ | _ | k
    all_goals simp only [Twd, List.getElem?_cons_zero, List.getElem?_cons_succ, List.getElem?_nil, Option.some.injEq, reduceCtorEq] at hy
    all_goals subst hy
    all_goals exact ⟨rfl, rfl, Nat.lt_of_le_of_lt (by show (_ : Nat) ≤ 124; decide) hsz⟩
  · intro k y g b hy hg
    rcases k with _ | _ | _ | _ | _ | _ | _ | _ | _ | _ | _ | _ | _ | _ | _ | _ | _ | _ | _ | _ | k
    all_goals simp only [Twd, List.getElem?_cons_zero, List.getElem?_cons_succ, List.getElem?_nil, Option.some.injEq, reduceCtorEq] at hy
    all_goals subst hy
    all_goals first | (cases hg; done) | (have h2 := Prod.mk.inj (Option.some.inj hg); obtain ⟨rfl, rfl⟩ := h2; exact ⟨by simp, (by first | exact .inl ⟨_, rfl⟩ | exact .inr ⟨rfl, fun _ _ h => h⟩)⟩)
  · intro k y u hy hw
    rcases k with _ | _ | _ | _ | _ | _ | _ | _ | _ | _ | _ | _ | _ | _ | _ | _ | _ | _ | _ | _ | k
    all_goals simp only [Twd, List.getElem?_cons_zero, List.getElem?_cons_succ, List.getElem?_nil, Option.some.injEq, reduceCtorEq] at hy
    all_goals subst hy
    all_goals first | exact rfl | exact Bool.noConfusion (show true = false from hw)
  · intro k y a u hy hw hb hout hdep o hd hop
    rcases k with _ | _ | _ | _ | _ | _ | _ | _ | _ | _ | _ | _ | _ | _ | _ | _ | _ | _ | _ | _ | k
    all_goals simp only [Twd, List.getElem?_cons_zero, List.getElem?_cons_succ, List.getElem?_nil, Option.some.injEq, reduceCtorEq] at hy
    all_goals subst hy
    · exact gl_load hop ((hout 5 rfl).trans e5) (V5.below hb) (H5.below hb)
    · exact gl_call (d := (.val (.bool true))) 15 (args := #[a.eval (.tmp 105)]) hop (by simp only [List.map_toArray, List.map_cons, List.map_nil] <;> rfl) (fun args w => by kernel_rfl) (gl_ret (may_any Y u _ hwY (show FD (.jv Y) u (a.eval (.tmp 105)) from hdep 0 (by simp)) hMX))
    · exact gl_move (d := (.val (.bool true))) hop (show FD (.val (.bool true)) u (a.eval (.tmp 106)) from hdep 1 (by simp))
    · exact gl_move (d := (.val (.string (S l)))) hop ((hout 2 rfl).trans e2)
    · exact gl_call (d := (.jv (JV.text l))) 31 (args := #[a.eval (.tmp 108)]) hop (by simp only [List.map_toArray, List.map_cons, List.map_nil] <;> rfl) (fun args w => by kernel_rfl) (text_fd l hll (show FD (.val (.string (S l))) u (a.eval (.tmp 108)) from hdep 3 (by simp)))
    · exact gl_call (d := (.val (.bool true))) 15 (args := #[a.eval (.tmp 109)]) hop (by simp only [List.map_toArray, List.map_cons, List.map_nil] <;> rfl) (fun args w => by kernel_rfl) (gl_ret (may_any (JV.text l) u _ hwT (show FD (.jv (JV.text l)) u (a.eval (.tmp 109)) from hdep 4 (by simp)) hMT))
    · exact gl_and hop (show FD (.val (.bool true)) u (a.eval (.tmp 107)) from hdep 2 (by simp)) (fun _ => (show FD (.val (.bool true)) u (a.eval (.tmp 110)) from hdep 5 (by simp))) rfl
    · exact gl_move (d := (.val (.bool true))) hop (show FD (.val (.bool true)) u (a.eval (.tmp 111)) from hdep 6 (by simp))
    · exact gl_load hop ((hout 9 rfl).trans e9) (V9.below hb) (H9.below hb)
    · exact gl_call (d := (.val (.bool D2))) 15 (args := #[a.eval (.tmp 113)]) hop (by simp only [List.map_toArray, List.map_cons, List.map_nil] <;> rfl) (fun args w => by kernel_rfl) (gl_ret (may_any Z u _ hwZ (show FD (.jv Z) u (a.eval (.tmp 113)) from hdep 8 (by simp)) hMZ))
    · exact gl_load hop ((hout 9 rfl).trans e9) (V9.below hb) (H9.below hb)
    · exact gl_call (d := (.val (.int .i64 ((Z.cnt : Nat) : Int)))) 19 (args := #[a.eval (.tmp 115)]) hop (by simp only [List.map_toArray, List.map_cons, List.map_nil] <;> rfl) (fun args w => by kernel_rfl) (gl_ret (count_any _ Z (Nat.le_refl _) hcZ u _ (show FD (.jv Z) u (a.eval (.tmp 115)) from hdep 10 (by simp))))
    · exact gl_lei hop (show FD (.val (.int .i64 ((Z.cnt : Nat) : Int))) u (a.eval (.tmp 116)) from hdep 11 (by simp)) hC1
    · exact gl_move (d := (.val (.bool true))) hop (show FD (.val (.bool true)) u (a.eval (.tmp 117)) from hdep 12 (by simp))
    · exact gl_load hop ((hout 9 rfl).trans e9) (V9.below hb) (H9.below hb)
    · exact gl_call (d := (.val (.int .i64 ((Z.dep : Nat) : Int)))) 21 (args := #[a.eval (.tmp 119)]) hop (by simp only [List.map_toArray, List.map_cons, List.map_nil] <;> rfl) (fun args w => by kernel_rfl) (gl_ret (depth_any _ Z (Nat.le_refl _) hcZ u _ (show FD (.jv Z) u (a.eval (.tmp 119)) from hdep 14 (by simp))))
    · exact gl_lei hop (show FD (.val (.int .i64 ((Z.dep : Nat) : Int))) u (a.eval (.tmp 120)) from hdep 15 (by simp)) hD2
    · exact gl_and hop (show FD (.val (.bool true)) u (a.eval (.tmp 118)) from hdep 13 (by simp)) (fun _ => (show FD (.val (.bool D2)) u (a.eval (.tmp 121)) from hdep 16 (by simp))) rfl
    · exact gl_eqv (gl_neb hop (show FD (.val (.bool D2)) u (a.eval (.tmp 114)) from hdep 9 (by simp)) (show FD (.val (.bool D2)) u (a.eval (.tmp 122)) from hdep 17 (by simp))) (by simp)
    · exact gl_and hop (show FD (.val (.bool true)) u (a.eval (.tmp 112)) from hdep 7 (by simp)) (fun _ => (show FD (.val (.bool false)) u (a.eval (.tmp 123)) from hdep 18 (by simp))) rfl
  · intro f u hall hb
    exact fin f u (hall 19 (by decide)) hb
end Go.Proofs.Ytcmalaabggohmaa
