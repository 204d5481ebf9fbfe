/-
  A list of two texts is read exactly if both are.
  The library's and the program's own tables, and the library's error, that the program's functions come to are what its text lays (the card ties them); nothing else is asked; nothing else is asked.
-/
import Derived.Test.YtpifbmcgadjhbaaGreatDoorFrame
import Derived.Test.YtpifbmcgadjhbaaGreatDoorLexTabs
import Derived.MakeChecks
import Derived.Lay
import Derived.Stop.LaidErr
import Derived.Test.YtpifbmcgadjhbaaGreatDoorRegCalls
import Derived.Test.YtpifbmcgadjhbaaGreatDoorBunR
import Derived.Test.YtpifbmcgadjhbaaGreatDoorValRise
import Derived.Laws.MakeOwn
import Derived.Laws.IdiomStrings
import Derived.Test.YtpifbmcgadjhbaaGreatDoorValRefDep
import Derived.Test.YtpifbmcgadjhbaaGreatDoorBunS
namespace Go.Proofs.YtpifbmcgadjhbaaGreatDoor
section
open Go.ChangeShapes Go.WideShapes Go.ChangeAt Go.RowKit

/-- what every row of the seat lays -/
def LAID : List (String × DataW Unit) := Rows.readFrontRow.laid
theorem gDig : Tryz.prog.globalNamed "legate/hex.digits" = some 8 := by kernel_rfl
theorem gDigType : (Tryz.prog.globals[8]?).map (·.type) = some 220 := by kernel_rfl
theorem cellsDig : Tryz.prog.cellsOf 220 = 16 := by kernel_rfl
theorem cellsU8 : Tryz.prog.cellsOf 5 = 1 := by kernel_rfl
theorem row_of {name : String} {k : IntKind} {zs : List Int} {W : World} {g : Nat} (hg : Tryz.prog.globalNamed name = some g) (ht : Lib.TabIs Tryz.prog W name k zs) :
    ∃ t fr, W.heap[g]? = some (.cells (zs.map fun z => Value.int k z).toArray t fr) := by
  unfold Lib.TabIs World.var? at ht
  rw [hg] at ht
  simp only [Option.bind_some] at ht
  split at ht
  · rename_i cs t fr hx
    exact ⟨t, fr, by rw [hx]; simp only [Option.some.injEq] at ht; rw [ht]⟩
  · cases ht
theorem gPowType : (Tryz.prog.globals[0]?).map (·.type) = some 150 := by kernel_rfl
theorem cellsPow : Tryz.prog.cellsOf 150 = 20 := by kernel_rfl
theorem cellsU64 : Tryz.prog.cellsOf 139 = 1 := by kernel_rfl
theorem gRngType : (Tryz.prog.globals[5]?).map (·.type) = some 81 := by kernel_rfl
theorem rngRow : ∀ u, Tryz.prog.typeName? 3 u = some "*errors.errorString" → u = 207 := fun u h =>
  have star : "*" ++ "errors.errorString" = "*errors.errorString" := by decide
  typeName_ptr_named (nm := "errors.errorString") (by rw [star]; kernel_rfl) (by kernel_rfl) (by decide) u (by rw [star]; exact h)
theorem tabs_of {W : World} (h0 : laidMetH Tryz.prog LAID W) : TabL W := by
  have h : laidMet Tryz.prog LAID W := by rw [← MakeChecks.laidMetH_plain _ _ _ (by kernel_rfl)]; exact h0
  have h3 := laidMet_tail (laidMet_tail (laidMet_tail h))
  have h5 := laidMet_tail (laidMet_tail h3)
  have h1 : Lib.TabIs Tryz.prog W "legate/hex.digits" .u8 [48, 49, 50, 51, 52, 53, 54, 55, 56, 57, 97, 98, 99, 100, 101, 102] :=
    Lib.tabIs_of_head gDig gDigType Tryz.underlying220 Tryz.underlying5 cellsU8 cellsDig h
  refine ⟨row_of gDig h1, Lib.tabIs_of_head gPow gPowType Tryz.underlying150 Tryz.underlying139 cellsU64 cellsPow h3, ?_⟩
  obtain ⟨a, s, hv, _⟩ := laid_sentinel h5 gRng gRngType Tryz.underlying81 rngRow Tryz.underlying207 Tryz.underlying209 rfl rfl Tryz.underlying9 (by kernel_rfl) (by kernel_rfl)
  exact ⟨_, _, hv⟩
/-- a world in which the variables are laid: for the witness -/
noncomputable def laidWorld (os : Os) : World := World.laidAll Tryz.prog os LAID
theorem laid_fits (os : Os) : (World.holding Tryz.prog os ⟨#[], #[], []⟩).layFits Tryz.prog LAID [] = true := by kernel_rfl
theorem laid_ifaces (os : Os) : (World.holding Tryz.prog os ⟨#[], #[], []⟩).layIfaces Tryz.prog LAID (World.laidAll Tryz.prog os LAID) = true := by kernel_rfl
theorem laid_plain : (LAID.all fun x => x.2.handleName?.isNone) = true := by kernel_rfl
theorem laid_any (os : Os) (args : Array Value) : laidMetH Tryz.prog LAID ((laidWorld os).forCall (fun _ _ => 0) ⟨#[], args, []⟩).memory := by
  rw [MakeChecks.laidMetH_plain _ _ _ laid_plain]
  exact laidMet_laidAll args (laid_fits os) (laid_ifaces os)
end

section
open Go.RowKit

def keyG (o : Oper) : Option Tmp × Op × Option (Nat × Bool) × List Nat := (o.dst, o.op, o.guard, (o.after.toList.filter (Region.binds .any)).map (·.on))
/-- is operation k carried out, if the guards yield what G says? -/
def wantG (G : Nat → Option Bool) (g : Option (Nat × Bool)) : Bool := match g with | none => true | some (j, b) => G j == some b
theorem wp_region_grow {P : Program} {ops : Array Oper} {Q : Exit → Act → World → Prop} {A : Act} {id : Nat} {w : World} (hm : P.follows .mixedOrders = true) (T : List (Option Tmp × Op × Option (Nat × Bool) × List Nat))
    (hkey : ops.toList.map keyG = T) (hlow : (List.range ops.size).all (fun i => match ops[i]? with | some o => o.after.all (fun e => !Region.binds .any e || decide (e.on < i)) | none => true) = true)
    (p : Nat → Bool) (D : Nat → Nat) (hD : ∀ k x, T[k]? = some x → x.1 = some (D k) ∧ p (D k) = true ∧ D k < A.tmps.size) (hinj : ∀ i, i < T.length → ∀ j, j < T.length → D i = D j → i = j)
    (F : Nat → World → Value → Prop) (hF : ∀ k u u' v, Below u.heap.size u u' → F k u v → F k u' v)
    (G : Nat → Option Bool) (hG : ∀ k c u v, G k = some c → F k u v → v = .bool c)
    (hgd : ∀ (k : Nat) (x : Option Tmp × Op × Option (Nat × Bool) × List Nat) (g : Nat) (b : Bool), T[k]? = some x → x.2.2.1 = some (g, b) → g ∈ x.2.2.2 ∧ ∃ c, G g = some c)
    (skip : ∀ (k : Nat) (x : Option Tmp × Op × Option (Nat × Bool) × List Nat) (u : World), T[k]? = some x → wantG G x.2.2.1 = false → F k u undef)
    (step : ∀ (k : Nat) (x : Option Tmp × Op × Option (Nat × Bool) × List Nat) (a : Act) (u : World), T[k]? = some x → wantG G x.2.2.1 = true → Below w.heap.size w u → (∀ j, p j = false → a.eval (.tmp j) = A.eval (.tmp j)) → (∀ n, n ∈ x.2.2.2 → F n u (a.eval (.tmp (D n)))) → ∀ o : Oper, o.dst = x.1 → o.op = x.2.1 →
      o.wp P a u (fun a' u' => ∃ v, a' = a.put o.dst v ∧ F k u' v ∧ Below u.heap.size u u') Q)
    (fin : ∀ f u, (∀ k, k < T.length → F k u (f (D k))) → Below w.heap.size w u → Q .normal (putR A p f) u) : (Code.region id ops true).wp P Q A w := by
  have hlen : ops.size = T.length := by have := congrArg List.length hkey; simpa using this
  refine wp_region_inv hm p (fun listed f u => (∀ k, listed.getD k false = true → k < T.length ∧ F k u (f (D k))) ∧ Below w.heap.size w u) ?_ (fun listed f u i o hs hI hi hun hdep => ?_) (fun listed f u hs hI hr => ?_)
  · refine ⟨fun k h => ?_, (Below.refl _ _).drew⟩
    have hk := lt_of_listed h
    simp at hk
    simp [hk] at h
  · obtain ⟨hV, hb⟩ := hI
    have hl : ops.toList[i]? = some o := by rw [Array.getElem?_toList]; exact hi
    have hx : T[i]? = some (keyG o) := by rw [← hkey, List.getElem?_map, hl]; rfl
    have hil : i < T.length := (List.getElem?_eq_some_iff.1 hx).1
    obtain ⟨hd1, hd2, hd3⟩ := hD i _ hx
    have hd1 : o.dst = some (D i) := hd1
    have hdeps : ∀ n, n ∈ (keyG o).2.2.2 → F n u ((putR A p f).eval (.tmp (D n))) := fun n hn => by
      obtain ⟨e, he, rfl⟩ := List.mem_map.1 hn
      have hm := List.mem_filter.1 he
      obtain ⟨h1, h2⟩ := hV _ (hdep e (by simpa using hm.1) hm.2)
      obtain ⟨_, h3, h4⟩ := hD e.on T[e.on] (List.getElem?_eq_getElem h1)
      rw [putR_in A p f (D e.on) h3 h4]
      exact h2
    -- what is known behind it
    have next : ∀ (v : Value) (u' : World), F i u' v → Below u.heap.size u u' → ∃ f', (putR A p f).put o.dst v = putR A p f' ∧ (∀ k, (listed.setIfInBounds i true).getD k false = true → k < T.length ∧ F k u' (f' (D k))) ∧ Below w.heap.size w u' := fun v u' hv hb' => by
      refine ⟨fun j => if j = D i then v else f j, ?_, fun k hk => ?_, hb.trans (hb'.mono hb.size)⟩
      · rw [hd1]
        exact putR_put _ _ _ _ _ hd2
      · by_cases e : k = i
        · subst e
          simp only [if_true]
          exact ⟨hil, hv⟩
        · have hk2 : listed.getD k false = true := by rwa [getD_set_other e] at hk
          obtain ⟨hk3, hk4⟩ := hV k hk2
          have hne : ¬ D k = D i := fun h => e (hinj k hk3 i hil h)
          simp only [hne, if_false]
          exact ⟨hk3, hF k u u' _ hb' hk4⟩
    -- the guard
    have hw : Region.wanted o (yielded ops (putR A p f).tmps) = wantG G o.guard := by
      unfold Region.wanted wantG
      rcases hg : o.guard with _ | ⟨g, b⟩
      · rfl
      · obtain ⟨h1, c, h2⟩ := hgd i _ g b hx hg
        have h3 := hG g c u _ h2 (hdeps g h1)
        obtain ⟨e, he, hge⟩ := List.mem_map.1 h1
        have hm := List.mem_filter.1 he
        have h4 := (hV _ (hdep e (by simpa using hm.1) hm.2)).1
        rw [hge] at h4
        obtain ⟨h5, h6, h7⟩ := hD g T[g] (List.getElem?_eq_getElem h4)
        have hog : ∃ og, ops[g]? = some og ∧ og.dst = some (D g) := by
          have hg2 : g < ops.size := by omega
          refine ⟨ops[g], Array.getElem?_eq_getElem hg2, ?_⟩
          have hTg : T[g]? = some (keyG ops[g]) := by rw [← hkey, List.getElem?_map, Array.getElem?_toList, Array.getElem?_eq_getElem hg2]; rfl
          have := hD g _ hTg
          exact this.1
        obtain ⟨og, ho1, ho2⟩ := hog
        have hy : yielded ops (putR A p f).tmps g = some c := by
          unfold yielded
          rw [ho1]
          have h8 : (putR A p f).eval (.tmp (D g)) = .bool c := h3
          have h9 : (putR A p f).tmps[D g]? = some (.bool c) := by
            have hsz : D g < (putR A p f).tmps.size := by simp [putR]; exact h7
            rw [Array.getElem?_eq_getElem hsz]
            simp [Act.eval, hsz] at h8
            rw [h8]
          simp [ho2, h9]
        show (yielded ops (putR A p f).tmps g == some b) = (G g == some b)
        rw [hy, h2]
    unfold wpOp
    simp only [hi]
    cases hc : wantG G o.guard with
    | true =>
      rw [hw, hc]
      simp only [if_true]
      refine .inl (Oper.wp_mono (fun a' u' ⟨v, ha, hv, hb'⟩ => ?_) (step i _ (putR A p f) u hx hc hb (fun j hj => putR_out _ _ _ j hj) hdeps o rfl rfl))
      rw [ha]
      exact next v u' hv hb'
    | false =>
      rw [hw, hc]
      simp only [Bool.false_eq_true, if_false]
      exact next undef u (skip i _ u hx hc) (Below.refl _ _)
  · obtain ⟨hV, hb⟩ := hI
    exact fin f u (fun k hk => (hV k (all_of_ready hs hr hlow (k + 1) k (Nat.lt_succ_self k) (by omega))).2) hb
end

section
section
open Go.RowKit

theorem fd_add (b o j : Nat) : (⟨b, o, none⟩ : Addr).add j = ⟨b, o + j, none⟩ := by unfold Addr.add; split <;> simp_all
/-- n zero bytes -/
def Zs (n : Nat) : List UInt8 := List.replicate n 0
def ZA (n : Nat) : Array Value := (V (Zs n)).toArray
theorem Zs_length (n : Nat) : (Zs n).length = n := by simp [Zs]
theorem cnt_zeros : ∀ n : Nat, Um.cnt (Zs n) = some n
  | 0 => rfl
  | n + 1 => by
    have h : Um.nx (Zs (n + 1)) = (0, 1, 0) := by
      unfold Um.nx
      rw [show Um.bt (Zs (n + 1)) 0 = 0 from rfl]
      unfold Um.nxN
      rw [if_neg (by rw [Zs_length]; omega), if_pos (by omega)]
    rw [Um.cnt_ok h]
    show (Um.cnt (Zs n)).map (· + 1) = _
    rw [cnt_zeros n]
    rfl
theorem txt_zeros (n : Nat) : Jn.txt (Zs n) = decide (n ≤ 4096) := by
  unfold Jn.txt
  rw [LEN_some (cnt_zeros n), Zs_length]
  rfl
theorem made_zs (n : Nat) : madeCells (Value.int .u8 0).cells (n * 1) = ZA n := by
  rw [Nat.mul_one]
  apply Array.ext
  · rw [size_madeCells]
    simp [ZA, V, Zs]
  · intro i h1 h2
    simp [madeCells, ZA, V, Zs, Value.cells, Nat.mod_one]
theorem run_make_zs (n : Nat) (c : Int) (hc : c = (n : Int)) (hn : n ≤ 100000000) (w : World) :
    (Instr.makeSlice 36 (.int .i64 c) (.int .i64 c)).run Tryz.prog w = .ok (.slice (some ⟨w.heap.size, 0, none⟩) n n) (w.alloc (.cells (ZA n) 5)) := by
  subst hc
  obtain ⟨i0, hi, hz, hs, hb⟩ := info_parts info5
  have h := run_make (P := Tryz.prog) w 36 5 i0 _ Tryz.underlying36 hi hz .i64 .i64 (n : Int) (n : Int) (by omega) (by omega) (by rw [hb]; omega) (by omega)
  rw [h, Int.toNat_natCast, hs, made_zs]
theorem conv_zs (w : World) (b n : Nat) (h : w.heap[b]? = some (.cells (ZA n) 5 (0, 0))) :
    (convert 36 9 (.slice (some ⟨b, 0, none⟩) n n)).run Tryz.prog w = .ok (.string (S (Zs n))) w := by
  have := run_convert_bytes_back (P := Tryz.prog) w 36 9 5 ⟨b, 0, none⟩ n (Zs n) Tryz.underlying36 Tryz.underlying5 Tryz.underlying9 (by
    intro j hj
    rw [fd_add, Nat.zero_add, cell_of_row w b j _ _ _ h]
    simp [ZA, V, List.getElem?_eq_getElem hj])
  rwa [Zs_length] at this
end

section
open Go.RowKit

/-- kinds of what an operation leaves -/
inductive Fd where
  | val (v : Value)
  | jv (x : JV)
  | names (ns : List (List UInt8))
  | items (is : List JV)
  | zs (n : Nat)
def FD : Fd → World → Value → Prop
  | .val x, _, v => v = x
  | .jv x, u, v => HV u v x
  | .names ns, u, v => ∃ b, v = .slice (some ⟨b, 0, none⟩) ns.length ns.length ∧ u.heap[b]? = some (.cells (NC ns).toArray 9 (0, 0))
  | .items is, u, v => ∃ b cs, v = .slice (some ⟨b, 0, none⟩) is.length is.length ∧ u.heap[b]? = some (.cells (cs : List Value).toArray 26 (0, 0)) ∧ HCS u cs is
  | .zs n, u, v => ∃ b, v = .slice (some ⟨b, 0, none⟩) n n ∧ u.heap[b]? = some (.cells (ZA n) 5 (0, 0))
theorem FD.below {u u' : World} (hb : Below u.heap.size u u') : ∀ {d : Fd} {v : Value}, FD d u v → FD d u' v
  | .val _, _, h => h
  | .jv _, _, h => HV.below h hb
  | .names _, _, ⟨b, h1, h2⟩ => ⟨b, h1, (hb.block b (Array.getElem?_eq_some_iff.1 h2).1).trans h2⟩
  | .items _, _, ⟨b, cs, h1, h2, h3⟩ => ⟨b, cs, h1, (hb.block b (Array.getElem?_eq_some_iff.1 h2).1).trans h2, HCS.below hb _ _ h3⟩
  | .zs _, _, ⟨b, h1, h2⟩ => ⟨b, h1, (hb.block b (Array.getElem?_eq_some_iff.1 h2).1).trans h2⟩
def Fl (l : List Fd) (k : Nat) (u : World) (v : Value) : Prop := match l[k]? with | some d => FD d u v | none => True
theorem Fl.below (l : List Fd) (k : Nat) (u u' : World) (v : Value) (hb : Below u.heap.size u u') (h : Fl l k u v) : Fl l k u' v := by
  unfold Fl at *
  split
  · rename_i d hd
    rw [hd] at h
    exact FD.below hb h
  · trivial
def Gl (l : List Fd) (k : Nat) : Option Bool := match l[k]? with | some (.val (.bool b)) => some b | _ => none
theorem Gl.val (l : List Fd) (k : Nat) (c : Bool) (u : World) (v : Value) (h : Gl l k = some c) (h2 : Fl l k u v) : v = .bool c := by
  unfold Gl at h
  unfold Fl at h2
  split at h
  · rename_i b hb
    rw [hb] at h2
    simp only [Option.some.injEq] at h
    rw [← h]
    exact h2
  · cases h
section
variable {Q : Exit → Act → World → Prop} {a : Act} {u : World} {o : Oper} {d : Fd}
abbrev Gw (o : Oper) (a : Act) (u : World) (Q : Exit → Act → World → Prop) (d : Fd) : Prop := o.wp Tryz.prog a u (fun a' u' => ∃ v, a' = a.put o.dst v ∧ FD d u' v ∧ Below u.heap.size u u') Q
theorem gl_val {v : Value} (h : (execOp a.eval o).run Tryz.prog u = .ok (.value v) u) : Gw o a u Q (.val v) := wp_val h ⟨v, rfl, rfl, Below.refl _ _⟩
theorem eval_c (v : Value) : a.eval (.const v) = v := rfl
theorem gl_move {x : Operand} (ho : o.op = .move x) (hx : FD d u (a.eval x)) : Gw o a u Q d := wp_val (by simp only [execOp, ho]; rfl) ⟨_, rfl, hx, Below.refl _ _⟩
theorem gl_assign {x : Operand} (ho : o.op = .assign x) (hx : FD d u (a.eval x)) : Gw o a u Q d := wp_val (by simp only [execOp, ho]; rfl) ⟨_, rfl, hx, Below.refl _ _⟩
theorem ld_box {b : Nat} {c0 c1 c2 c3 c4 : Value} (h : VAt b u c0 c1 c2 c3 c4) : (Instr.loadAt 26 (.pointer (some ⟨b, 0, none⟩))).run Tryz.prog u = .ok (.agg #[c0, c1, c2, c3, c4]) u := ld_val _ fun j z hj => by
  obtain ⟨⟨p0, p1, p2, p3, p4⟩, _⟩ := h.cells
  rw [Nat.zero_add]
  rcases j with _ | _ | _ | _ | _ | j
  all_goals simp only [List.getElem?_cons_zero, List.getElem?_cons_succ, List.getElem?_nil, Option.some.injEq, reduceCtorEq] at hj
  all_goals subst hj
  all_goals assumption
theorem gl_load {x : Operand} {b : Nat} {c0 c1 c2 c3 c4 : Value} {X : JV} (ho : o.op = .load 26 x) (hx : a.eval x = .pointer (some ⟨b, 0, none⟩)) (h : VAt b u c0 c1 c2 c3 c4) (hh : HV u (.agg #[c0, c1, c2, c3, c4]) X) : Gw o a u Q (.jv X) :=
  wp_val (by simp [execOp, ho, hx, ld_box h]) ⟨_, rfl, hh, Below.refl _ _⟩
/-- a call of a function by its name -/
theorem gl_call (f : FuncId) {xs : Array Operand} {ts : Array TypeId} {args : Array Value} (ho : o.op = .call { callee := .value (.func f), args := xs, argTypes := ts }) (hx : xs.map a.eval = args)
    (hf : ∀ args w, (callFunc f args).run Tryz.prog w = .ok (.enter f args) w) (hc : Calls Tryz.prog f args u fun e w' => ∃ v, e = .returned v ∧ FD d w' v ∧ Below u.heap.size u w') : Gw o a u Q d := by
  unfold Gw Oper.wp
  rw [exec_call f ho hx hf, Oper.upon_enter]
  refine hc.mono fun e w' ⟨v, he, hr⟩ => ?_
  subst he
  exact ⟨v, rfl, hr⟩
theorem gl_ret {f : FuncId} {args : Array Value} {v : Value} (h : Calls Tryz.prog f args u fun e w' => e = .returned v ∧ Below u.heap.size u w') : Calls Tryz.prog f args u fun e w' => ∃ z, e = .returned z ∧ FD (.val v) w' z ∧ Below u.heap.size u w' :=
  h.mono fun _ _ ⟨h1, h2⟩ => ⟨v, h1, rfl, h2⟩
theorem gl_not {x : Operand} {c : Bool} (ho : o.op = .unOp .not 4 x) (hx : a.eval x = .bool c) : Gw o a u Q (.val (.bool (!c))) := gl_val (by simp [execOp, ho, hx]; simp [go_sem])
theorem gl_eqi {t : TypeId} {x : Operand} {y z : Int} {r : Bool} (ho : o.op = .binOp .eql t x (.const (.int .i64 z)) t) (hx : a.eval x = .int .i64 y) (hr : (y == z) = r) : Gw o a u Q (.val (.bool r)) := gl_val (by
  subst hr
  have hc : a.eval (.const (.int .i64 z)) = .int .i64 z := rfl
  simp [execOp, ho, hx, hc, eqGuard]
  simp [go_sem, binOp])
theorem gl_eqb {x y : Operand} {b c : Bool} (ho : o.op = .binOp .eql 4 x y 4) (hx : a.eval x = .bool b) (hy : a.eval y = .bool c) : Gw o a u Q (.val (.bool (b == c))) := gl_val (by
  have he := run_equal_bool u 4 b c Tryz.underlying4
  simp [execOp, ho, hx, hy, eqGuard]
  simp [binOp, he])
theorem gl_neb {x y : Operand} {b c : Bool} (ho : o.op = .binOp .neq 4 x y 4) (hx : a.eval x = .bool b) (hy : a.eval y = .bool c) : Gw o a u Q (.val (.bool (b != c))) := gl_val (by
  have he := run_equal_bool u 4 b c Tryz.underlying4
  simp [execOp, ho, hx, hy, eqGuard]
  simp [binOp, he]
  cases b <;> cases c <;> rfl)
theorem gl_eqii {x y : Operand} {b c : Int} (ho : o.op = .binOp .eql 3 x y 3) (hx : a.eval x = .int .i64 b) (hy : a.eval y = .int .i64 c) : Gw o a u Q (.val (.bool (b == c))) := gl_val (by simp [execOp, ho, hx, hy, eqGuard]; simp [go_sem, binOp])
/-- '&&' behind what is true: what stands on the right; behind what is false: false -/
theorem gl_and {x y : Operand} {b c r : Bool} (ho : o.op = .pick x y (.const (.bool false))) (hx : a.eval x = .bool b) (hy : b = true → a.eval y = .bool c) (hr : r = (b && c)) : Gw o a u Q (.val (.bool r)) := by
  subst hr
  have hc : a.eval (.const (.bool false)) = .bool false := rfl
  cases b with
  | true => exact gl_val (by simp [execOp, ho, hx, hy rfl]; first | done | simp [go_sem])
  | false => exact gl_val (by simp [execOp, ho, hx, hc]; first | done | simp [go_sem])
/-- '||' -/
theorem gl_or {x y : Operand} {b c r : Bool} (ho : o.op = .pick x (.const (.bool true)) y) (hx : a.eval x = .bool b) (hy : b = false → a.eval y = .bool c) (hr : r = (b || c)) : Gw o a u Q (.val (.bool r)) := by
  subst hr
  have hc : a.eval (.const (.bool true)) = .bool true := rfl
  cases b with
  | false => exact gl_val (by simp [execOp, ho, hx, hy rfl]; first | done | simp [go_sem])
  | true => exact gl_val (by simp [execOp, ho, hx, hc]; first | done | simp [go_sem])
theorem gl_names1 {l : List UInt8} (t : ByteArray) (ho : o.op = .buildSlice 23 1 #[(0, .const (.string t))]) (ht : t = S l) : Gw o a u Q (.names [l]) := by
  subst ht
  obtain ⟨i0, hi0, hz0, hz1, hz2⟩ := info_parts info_name
  refine wp_buildSlice 23 9 1 _ ho #[.string (S l)] i0 _ Tryz.underlying23 hi0 hz0 (by rw [hz1]; decide) (by rw [hz1]; decide) ?_ ⟨_, rfl, ⟨_, rfl, heap_alloc_new u _⟩, (Below.refl _ _).alloc (Nat.le_refl _) _⟩
  rw [hz1, show (#[(0, Operand.const (.string (S l)))].map fun y : Nat × Operand => (y.1, a.eval y.2)).toList = [(0, Value.string (S l))] by simp [Act.eval]]
  exact fill_str (S l)
theorem fill_str2 (t t' : ByteArray) : Instr.fill (fun i => some (i * 1, 1)) ((Array.range (2 * 1)).map ((Value.string ⟨#[]⟩).cells[· % (Value.string ⟨#[]⟩).cells.size]!)) [(0, .string t), (1, .string t')] = some #[.string t, .string t'] := by kernel_rfl
theorem gl_names2 {l l' : List UInt8} (t t' : ByteArray) (ho : o.op = .buildSlice 23 2 #[(0, .const (.string t)), (1, .const (.string t'))]) (ht : t = S l) (ht' : t' = S l') : Gw o a u Q (.names [l, l']) := by
  subst ht ht'
  obtain ⟨i0, hi0, hz0, hz1, hz2⟩ := info_parts info_name
  refine wp_buildSlice 23 9 2 _ ho #[.string (S l), .string (S l')] i0 _ Tryz.underlying23 hi0 hz0 (by rw [hz1]; decide) (by rw [hz1]; decide) ?_ ⟨_, rfl, ⟨_, rfl, heap_alloc_new u _⟩, (Below.refl _ _).alloc (Nat.le_refl _) _⟩
  rw [hz1, show (#[(0, Operand.const (.string (S l))), (1, Operand.const (.string (S l')))].map fun y : Nat × Operand => (y.1, a.eval y.2)).toList = [(0, Value.string (S l)), (1, Value.string (S l'))] by simp [Act.eval]]
  exact fill_str2 (S l) (S l')
theorem gl_items1 {x : Operand} {X : JV} (ho : o.op = .buildSlice 24 1 #[(0, x)]) (hx : HV u (a.eval x) X) : Gw o a u Q (.items [X]) := by
  obtain ⟨i0, hi0, hz0, hz1, hz2⟩ := info_parts info_val
  obtain ⟨cs, he, hc⟩ := hx
  obtain ⟨ya, yb, yca, ycb, rfl, _⟩ := hc.form
  have ba : Below u.heap.size u (u.alloc (.cells #[.int .u8 (X.k : Int), .int .i64 X.n, .string (S X.t), .slice ya X.ns.length yca, .slice yb X.is.length ycb] 26)) := (Below.refl _ _).alloc (Nat.le_refl _) _
  refine wp_buildSlice 24 26 1 _ ho #[.int .u8 (X.k : Int), .int .i64 X.n, .string (S X.t), .slice ya X.ns.length yca, .slice yb X.is.length ycb] i0 _ Tryz.underlying24 hi0 hz0 (by rw [hz1]; decide) (by rw [hz1]; decide) ?_ ⟨_, rfl, ⟨u.heap.size, _, rfl, heap_alloc_new u _, HCS.one (HC.below ba _ _ hc)⟩, ba⟩
  rw [hz1, show (#[(0, x)].map fun y : Nat × Operand => (y.1, a.eval y.2)).toList = [(0, Value.agg #[.int .u8 (X.k : Int), .int .i64 X.n, .string (S X.t), .slice ya X.ns.length yca, .slice yb X.is.length ycb])] by simp [he]]
  exact fill_val _ _ _ _ _
theorem fill_val2 (c0 c1 c2 c3 c4 d0 d1 d2 d3 d4 : Value) : Instr.fill (fun i => some (i * 5, 5)) ((Array.range (2 * 5)).map ((Value.agg V5).cells[· % (Value.agg V5).cells.size]!)) [(0, .agg #[c0, c1, c2, c3, c4]), (1, .agg #[d0, d1, d2, d3, d4])] = some #[c0, c1, c2, c3, c4, d0, d1, d2, d3, d4] := by kernel_rfl
theorem gl_items2 {x y : Operand} {X Y : JV} (ho : o.op = .buildSlice 24 2 #[(0, x), (1, y)]) (hx : HV u (a.eval x) X) (hy : HV u (a.eval y) Y) : Gw o a u Q (.items [X, Y]) := by
  obtain ⟨i0, hi0, hz0, hz1, hz2⟩ := info_parts info_val
  obtain ⟨cs, he, hc⟩ := hx
  obtain ⟨ya, yb, yca, ycb, rfl, _⟩ := hc.form
  obtain ⟨cs, he', hc'⟩ := hy
  obtain ⟨za, zb, zca, zcb, rfl, _⟩ := hc'.form
  have ba : Below u.heap.size u (u.alloc (.cells #[.int .u8 (X.k : Int), .int .i64 X.n, .string (S X.t), .slice ya X.ns.length yca, .slice yb X.is.length ycb, .int .u8 (Y.k : Int), .int .i64 Y.n, .string (S Y.t), .slice za Y.ns.length zca, .slice zb Y.is.length zcb] 26)) := (Below.refl _ _).alloc (Nat.le_refl _) _
  refine wp_buildSlice 24 26 2 _ ho #[.int .u8 (X.k : Int), .int .i64 X.n, .string (S X.t), .slice ya X.ns.length yca, .slice yb X.is.length ycb, .int .u8 (Y.k : Int), .int .i64 Y.n, .string (S Y.t), .slice za Y.ns.length zca, .slice zb Y.is.length zcb] i0 _ Tryz.underlying24 hi0 hz0 (by rw [hz1]; decide) (by rw [hz1]; decide) ?_ ⟨_, rfl, ⟨u.heap.size, _, rfl, heap_alloc_new u _, HCS.snoc (HC.below ba _ _ hc') (HCS.one (HC.below ba _ _ hc))⟩, ba⟩
  rw [hz1, show (#[(0, x), (1, y)].map fun y : Nat × Operand => (y.1, a.eval y.2)).toList = [(0, Value.agg #[.int .u8 (X.k : Int), .int .i64 X.n, .string (S X.t), .slice ya X.ns.length yca, .slice yb X.is.length ycb]), (1, Value.agg #[.int .u8 (Y.k : Int), .int .i64 Y.n, .string (S Y.t), .slice za Y.ns.length zca, .slice zb Y.is.length zcb])] by simp [he, he']]
  exact fill_val2 _ _ _ _ _ _ _ _ _ _
theorem gl_mk {n : Nat} (ho : o.op = .makeSlice 36 (.const (.int .i64 (n : Int))) (.const (.int .i64 (n : Int)))) (hn : n ≤ 100000000) : Gw o a u Q (.zs n) := by
  have hc : a.eval (.const (.int .i64 (n : Int))) = .int .i64 (n : Int) := rfl
  exact wp_val (by simp only [execOp, ho, hc]; rw [Sem.run_bind, run_make_zs n n rfl hn u]; rfl) ⟨_, rfl, ⟨_, rfl, heap_alloc_new u _⟩, (Below.refl _ _).alloc (Nat.le_refl _) _⟩
theorem gl_conv {x : Operand} {n : Nat} (ho : o.op = .convert 36 9 x) (hx : FD (.zs n) u (a.eval x)) : Gw o a u Q (.val (.string (S (Zs n)))) := by
  obtain ⟨b, h1, h2⟩ := hx
  have := conv_zs u b n h2
  exact gl_val (by simp only [execOp, ho, h1]; rw [Sem.run_bind, this]; rfl)
end
end
end

section
open Go.RowKit

section
variable {Q : Exit → Act → World → Prop} {a : Act} {u : World} {o : Oper}
theorem gl_addi {x y : Operand} {b c : Int} (ho : o.op = .binOp .add 3 x y 3) (hx : a.eval x = .int .i64 b) (hy : a.eval y = .int .i64 c) (h0 : 0 ≤ b + c) (h1 : b + c ≤ 1000000) : Gw o a u Q (.val (.int .i64 (b + c))) := gl_val (by
  have hw : IntKind.i64.wrap (b + c) = b + c := by simp [IntKind.wrap, IntKind.bits, IntKind.signed]; omega
  simp [execOp, ho, hx, hy, eqGuard]
  simp [go_sem, binOp, hw])
theorem gl_addc {x : Operand} {b c : Int} (ho : o.op = .binOp .add 3 x (.const (.int .i64 c)) 3) (hx : a.eval x = .int .i64 b) (h0 : 0 ≤ b + c) (h1 : b + c ≤ 1000000) : Gw o a u Q (.val (.int .i64 (b + c))) := gl_addi ho hx rfl h0 h1
theorem gl_gtc {x : Operand} {b c : Int} {r : Bool} (ho : o.op = .binOp .gtr 3 x (.const (.int .i64 c)) 3) (hx : a.eval x = .int .i64 b) (hr : decide (b > c) = r) : Gw o a u Q (.val (.bool r)) := gl_val (by
  subst hr
  have hc : a.eval (.const (.int .i64 c)) = .int .i64 c := rfl
  simp [execOp, ho, hx, hc, eqGuard]
  simp [go_sem, binOp])
theorem gl_gec {x : Operand} {b c : Int} {r : Bool} (ho : o.op = .binOp .geq 3 x (.const (.int .i64 c)) 3) (hx : a.eval x = .int .i64 b) (hr : decide (b ≥ c) = r) : Gw o a u Q (.val (.bool r)) := gl_val (by
  subst hr
  have hc : a.eval (.const (.int .i64 c)) = .int .i64 c := rfl
  simp [execOp, ho, hx, hc, eqGuard]
  simp [go_sem, binOp])
end
def Tft : List (Option Tmp × Op × Option (Nat × Bool) × List Nat) :=
  [(some 6, Op.load 26 (Operand.tmp 2), none, []),
   (some 7, Op.call { callee := Callee.value (Operand.func 33), args := #[Operand.tmp 6], argTypes := #[26] }, none, [0]),
   (some 8, Op.load 26 (Operand.tmp 3), none, []),
   (some 9, Op.call { callee := Callee.value (Operand.func 33), args := #[Operand.tmp 8], argTypes := #[26] }, none, [2, 1]),
   (some 10, Op.binOp BinOp.add 3 (Operand.tmp 7) (Operand.tmp 9) 3, none, [1, 3]),
   (some 11, Op.binOp BinOp.add 3 (Operand.tmp 10) (Operand.const (Value.int IntKind.i64 1)) 3, none, [4]),
   (some 12, Op.binOp BinOp.gtr 3 (Operand.tmp 11) (Operand.const (Value.int IntKind.i64 8192)) 3, none, [5]),
   (some 13, Op.load 26 (Operand.tmp 2), none, []),
   (some 14, Op.call { callee := Callee.value (Operand.func 34), args := #[Operand.tmp 13], argTypes := #[26] }, none, [7, 3]),
   (some 15, Op.binOp BinOp.geq 3 (Operand.tmp 14) (Operand.const (Value.int IntKind.i64 12)) 3, none, [8]),
   (some 16, Op.move (Operand.tmp 15), none, [9, 8]),
   (some 17, Op.load 26 (Operand.tmp 3), some (10, false), [10]),
   (some 18, Op.call { callee := Callee.value (Operand.func 34), args := #[Operand.tmp 17], argTypes := #[26] }, some (10, false), [11, 10, 10]),
   (some 19, Op.binOp BinOp.geq 3 (Operand.tmp 18) (Operand.const (Value.int IntKind.i64 12)) 3, some (10, false), [12, 10]),
   (some 20, Op.pick (Operand.tmp 16) (Operand.const (Value.bool true)) (Operand.tmp 19), none, [10, 13]),
   (some 4, Op.assign (Operand.tmp 12), none, [6, 12, 0, 1, 2, 3, 4, 5, 6]),
   (some 5, Op.assign (Operand.tmp 20), none, [14, 15, 0, 1, 2, 3, 4, 5, 6, 7, 8, 9, 10, 11, 12, 13, 14, 15])]
def Sft : List Nat := [6, 7, 8, 9, 10, 11, 12, 13, 14, 15, 16, 17, 18, 19, 20, 4, 5]
def Dft (k : Nat) : Nat := Sft.getD k 0
def pft (i : Nat) : Bool := Sft.contains i
set_option maxRecDepth 100000 in
theorem injft : ∀ i, i < 17 → ∀ j, j < 17 → Dft i = Dft j → i = j := by decide +kernel
set_option maxHeartbeats 8000000 in
set_option maxRecDepth 100000 in
theorem region_ft {ops : Array Oper} {Q : Exit → Act → World → Prop} {A : Act} {id : Nat} {w1 : World}
    (hkey : ops.toList.map keyG = Tft) (hlow : (List.range ops.size).all (fun i => match ops[i]? with | some o => o.after.all (fun e => !Region.binds .any e || decide (e.on < i)) | none => true) = true)
    (hsz : 20 < A.tmps.size) {X Y : JV} {M E : Bool} {xb yb : Nat} {a0 a1 a2 a3 a4 b0 b1 b2 b3 b4 : Value} (e2 : A.eval (.tmp 2) = .pointer (some ⟨xb, 0, none⟩)) (e3 : A.eval (.tmp 3) = .pointer (some ⟨yb, 0, none⟩))
    (V2 : VAt xb w1 a0 a1 a2 a3 a4) (V3 : VAt yb w1 b0 b1 b2 b3 b4) (H2 : HV w1 (.agg #[a0, a1, a2, a3, a4]) X) (H3 : HV w1 (.agg #[b0, b1, b2, b3, b4]) Y) (hcX : X.cnt ≤ 90000) (hcY : Y.cnt ≤ 90000)
    (hM : decide (((X.cnt : Int) + (Y.cnt : Int) + 1) > 8192) = M) (hD : decide ((X.dep : Int) ≥ 12) = true) (_hE : decide ((Y.dep : Int) ≥ 12) = E)
    (fin : ∀ (f : Nat → Value) u, FD (.val (.bool M)) u (f 4) → FD (.val (.bool true)) u (f 5) → Below w1.heap.size w1 u → Q .normal (putR A pft f) u) : (Code.region id ops true).wp Tryz.prog Q A w1 := by
  refine wp_region_grow (by kernel_rfl) Tft hkey hlow pft Dft ?_ injft (Fl [(.jv X), (.val (.int .i64 (X.cnt : Int))), (.jv Y), (.val (.int .i64 (Y.cnt : Int))), (.val (.int .i64 ((X.cnt : Int) + (Y.cnt : Int)))), (.val (.int .i64 ((X.cnt : Int) + (Y.cnt : Int) + 1))), (.val (.bool M)), (.jv X), (.val (.int .i64 (X.dep : Int))), (.val (.bool true)), (.val (.bool true)), (.val undef), (.val undef), (.val undef), (.val (.bool true)), (.val (.bool M)), (.val (.bool true))]) (fun k u u2 v hb h => Fl.below _ k u u2 v hb h) (Gl [(.jv X), (.val (.int .i64 (X.cnt : Int))), (.jv Y), (.val (.int .i64 (Y.cnt : Int))), (.val (.int .i64 ((X.cnt : Int) + (Y.cnt : Int)))), (.val (.int .i64 ((X.cnt : Int) + (Y.cnt : Int) + 1))), (.val (.bool M)), (.jv X), (.val (.int .i64 (X.dep : Int))), (.val (.bool true)), (.val (.bool true)), (.val undef), (.val undef), (.val undef), (.val (.bool true)), (.val (.bool M)), (.val (.bool true))]) (fun k c u v h1 h2 => Gl.val _ k c u v h1 h2) ?_ ?_ ?_ ?_
  · intro k y hy
    rcases k with _ | _ | _ | _ | _ | _ | _ | _ | _ | _ | _ | _ | _ | _ | _ | _ | _ | k
    all_goals simp only [Tft, List.getElem?_cons_zero, List.getElem?_cons_succ, List.getElem?_nil, Option.some.injEq, reduceCtorEq] at hy
    all_goals subst hy
    all_goals exact ⟨rfl, rfl, Nat.lt_of_le_of_lt (by show (_ : Nat) ≤ 20; decide) hsz⟩
  · intro k y g b hy hg
    rcases k with _ | _ | _ | _ | _ | _ | _ | _ | _ | _ | _ | _ | _ | _ | _ | _ | _ | k
    all_goals simp only [Tft, List.getElem?_cons_zero, List.getElem?_cons_succ, List.getElem?_nil, Option.some.injEq, reduceCtorEq] at hy
    all_goals subst hy
    all_goals first | (cases hg; done) | (have h2 := Prod.mk.inj (Option.some.inj hg); obtain ⟨rfl, rfl⟩ := h2; exact ⟨by simp, _, rfl⟩)
  · intro k y u hy hw
    rcases k with _ | _ | _ | _ | _ | _ | _ | _ | _ | _ | _ | _ | _ | _ | _ | _ | _ | k
    all_goals simp only [Tft, List.getElem?_cons_zero, List.getElem?_cons_succ, List.getElem?_nil, Option.some.injEq, reduceCtorEq] at hy
    all_goals subst hy
    all_goals first | exact rfl | exact Bool.noConfusion (show true = false from hw)
  · intro k y a u hy hw hb hout hdep o hd hop
    rcases k with _ | _ | _ | _ | _ | _ | _ | _ | _ | _ | _ | _ | _ | _ | _ | _ | _ | k
    all_goals simp only [Tft, List.getElem?_cons_zero, List.getElem?_cons_succ, List.getElem?_nil, Option.some.injEq, reduceCtorEq] at hy
    all_goals subst hy
    · exact gl_load hop ((hout 2 rfl).trans e2) (V2.below hb) (H2.below hb)
    · exact gl_call (d := (.val (.int .i64 (X.cnt : Int)))) 33 (args := #[a.eval (.tmp 6)]) hop (by simp only [List.map_toArray, List.map_cons, List.map_nil] <;> rfl) (fun args w => by kernel_rfl) (gl_ret (refCount_any _ X (Nat.le_refl _) hcX u _ (show FD (.jv X) u (a.eval (.tmp 6)) from hdep 0 (by simp))))
    · exact gl_load hop ((hout 3 rfl).trans e3) (V3.below hb) (H3.below hb)
    · exact gl_call (d := (.val (.int .i64 (Y.cnt : Int)))) 33 (args := #[a.eval (.tmp 8)]) hop (by simp only [List.map_toArray, List.map_cons, List.map_nil] <;> rfl) (fun args w => by kernel_rfl) (gl_ret (refCount_any _ Y (Nat.le_refl _) hcY u _ (show FD (.jv Y) u (a.eval (.tmp 8)) from hdep 2 (by simp))))
    · exact gl_addi hop (show FD (.val (.int .i64 (X.cnt : Int))) u (a.eval (.tmp 7)) from hdep 1 (by simp)) (show FD (.val (.int .i64 (Y.cnt : Int))) u (a.eval (.tmp 9)) from hdep 3 (by simp)) (by omega) (by omega)
    · exact gl_addc hop (show FD (.val (.int .i64 ((X.cnt : Int) + (Y.cnt : Int)))) u (a.eval (.tmp 10)) from hdep 4 (by simp)) (by omega) (by omega)
    · exact gl_gtc hop (show FD (.val (.int .i64 ((X.cnt : Int) + (Y.cnt : Int) + 1))) u (a.eval (.tmp 11)) from hdep 5 (by simp)) hM
    · exact gl_load hop ((hout 2 rfl).trans e2) (V2.below hb) (H2.below hb)
    · exact gl_call (d := (.val (.int .i64 (X.dep : Int)))) 34 (args := #[a.eval (.tmp 13)]) hop (by simp only [List.map_toArray, List.map_cons, List.map_nil] <;> rfl) (fun args w => by kernel_rfl) (gl_ret (refDepth_any _ X (Nat.le_refl _) hcX u _ (show FD (.jv X) u (a.eval (.tmp 13)) from hdep 7 (by simp))))
    · exact gl_gec hop (show FD (.val (.int .i64 (X.dep : Int))) u (a.eval (.tmp 14)) from hdep 8 (by simp)) hD
    · exact gl_move (d := (.val (.bool true))) hop (show FD (.val (.bool true)) u (a.eval (.tmp 15)) from hdep 9 (by simp))
    · exact Bool.noConfusion (show false = true from hw)
    · exact Bool.noConfusion (show false = true from hw)
    · exact Bool.noConfusion (show false = true from hw)
    · exact gl_or (c := true) hop (show FD (.val (.bool true)) u (a.eval (.tmp 16)) from hdep 10 (by simp)) (fun h => Bool.noConfusion h) rfl
    · exact gl_assign (d := (.val (.bool M))) hop (show FD (.val (.bool M)) u (a.eval (.tmp 12)) from hdep 6 (by simp))
    · exact gl_assign (d := (.val (.bool true))) hop (show FD (.val (.bool true)) u (a.eval (.tmp 20)) from hdep 14 (by simp))
  · intro f u hall hb
    exact fin f u (hall 15 (by decide)) (hall 16 (by decide)) hb
def Tff : List (Option Tmp × Op × Option (Nat × Bool) × List Nat) :=
  [(some 6, Op.load 26 (Operand.tmp 2), none, []),
   (some 7, Op.call { callee := Callee.value (Operand.func 33), args := #[Operand.tmp 6], argTypes := #[26] }, none, [0]),
   (some 8, Op.load 26 (Operand.tmp 3), none, []),
   (some 9, Op.call { callee := Callee.value (Operand.func 33), args := #[Operand.tmp 8], argTypes := #[26] }, none, [2, 1]),
   (some 10, Op.binOp BinOp.add 3 (Operand.tmp 7) (Operand.tmp 9) 3, none, [1, 3]),
   (some 11, Op.binOp BinOp.add 3 (Operand.tmp 10) (Operand.const (Value.int IntKind.i64 1)) 3, none, [4]),
   (some 12, Op.binOp BinOp.gtr 3 (Operand.tmp 11) (Operand.const (Value.int IntKind.i64 8192)) 3, none, [5]),
   (some 13, Op.load 26 (Operand.tmp 2), none, []),
   (some 14, Op.call { callee := Callee.value (Operand.func 34), args := #[Operand.tmp 13], argTypes := #[26] }, none, [7, 3]),
   (some 15, Op.binOp BinOp.geq 3 (Operand.tmp 14) (Operand.const (Value.int IntKind.i64 12)) 3, none, [8]),
   (some 16, Op.move (Operand.tmp 15), none, [9, 8]),
   (some 17, Op.load 26 (Operand.tmp 3), some (10, false), [10]),
   (some 18, Op.call { callee := Callee.value (Operand.func 34), args := #[Operand.tmp 17], argTypes := #[26] }, some (10, false), [11, 10, 10]),
   (some 19, Op.binOp BinOp.geq 3 (Operand.tmp 18) (Operand.const (Value.int IntKind.i64 12)) 3, some (10, false), [12, 10]),
   (some 20, Op.pick (Operand.tmp 16) (Operand.const (Value.bool true)) (Operand.tmp 19), none, [10, 13]),
   (some 4, Op.assign (Operand.tmp 12), none, [6, 12, 0, 1, 2, 3, 4, 5, 6]),
   (some 5, Op.assign (Operand.tmp 20), none, [14, 15, 0, 1, 2, 3, 4, 5, 6, 7, 8, 9, 10, 11, 12, 13, 14, 15])]
def Sff : List Nat := [6, 7, 8, 9, 10, 11, 12, 13, 14, 15, 16, 17, 18, 19, 20, 4, 5]
def Dff (k : Nat) : Nat := Sff.getD k 0
def pff (i : Nat) : Bool := Sff.contains i
set_option maxRecDepth 100000 in
theorem injff : ∀ i, i < 17 → ∀ j, j < 17 → Dff i = Dff j → i = j := by decide +kernel
set_option maxHeartbeats 8000000 in
set_option maxRecDepth 100000 in
theorem region_ff {ops : Array Oper} {Q : Exit → Act → World → Prop} {A : Act} {id : Nat} {w1 : World}
    (hkey : ops.toList.map keyG = Tff) (hlow : (List.range ops.size).all (fun i => match ops[i]? with | some o => o.after.all (fun e => !Region.binds .any e || decide (e.on < i)) | none => true) = true)
    (hsz : 20 < A.tmps.size) {X Y : JV} {M E : Bool} {xb yb : Nat} {a0 a1 a2 a3 a4 b0 b1 b2 b3 b4 : Value} (e2 : A.eval (.tmp 2) = .pointer (some ⟨xb, 0, none⟩)) (e3 : A.eval (.tmp 3) = .pointer (some ⟨yb, 0, none⟩))
    (V2 : VAt xb w1 a0 a1 a2 a3 a4) (V3 : VAt yb w1 b0 b1 b2 b3 b4) (H2 : HV w1 (.agg #[a0, a1, a2, a3, a4]) X) (H3 : HV w1 (.agg #[b0, b1, b2, b3, b4]) Y) (hcX : X.cnt ≤ 90000) (hcY : Y.cnt ≤ 90000)
    (hM : decide (((X.cnt : Int) + (Y.cnt : Int) + 1) > 8192) = M) (hD : decide ((X.dep : Int) ≥ 12) = false) (hE : decide ((Y.dep : Int) ≥ 12) = E)
    (fin : ∀ (f : Nat → Value) u, FD (.val (.bool M)) u (f 4) → FD (.val (.bool (false || E))) u (f 5) → Below w1.heap.size w1 u → Q .normal (putR A pff f) u) : (Code.region id ops true).wp Tryz.prog Q A w1 := by
  refine wp_region_grow (by kernel_rfl) Tff hkey hlow pff Dff ?_ injff (Fl [(.jv X), (.val (.int .i64 (X.cnt : Int))), (.jv Y), (.val (.int .i64 (Y.cnt : Int))), (.val (.int .i64 ((X.cnt : Int) + (Y.cnt : Int)))), (.val (.int .i64 ((X.cnt : Int) + (Y.cnt : Int) + 1))), (.val (.bool M)), (.jv X), (.val (.int .i64 (X.dep : Int))), (.val (.bool false)), (.val (.bool false)), (.jv Y), (.val (.int .i64 (Y.dep : Int))), (.val (.bool E)), (.val (.bool (false || E))), (.val (.bool M)), (.val (.bool (false || E)))]) (fun k u u2 v hb h => Fl.below _ k u u2 v hb h) (Gl [(.jv X), (.val (.int .i64 (X.cnt : Int))), (.jv Y), (.val (.int .i64 (Y.cnt : Int))), (.val (.int .i64 ((X.cnt : Int) + (Y.cnt : Int)))), (.val (.int .i64 ((X.cnt : Int) + (Y.cnt : Int) + 1))), (.val (.bool M)), (.jv X), (.val (.int .i64 (X.dep : Int))), (.val (.bool false)), (.val (.bool false)), (.jv Y), (.val (.int .i64 (Y.dep : Int))), (.val (.bool E)), (.val (.bool (false || E))), (.val (.bool M)), (.val (.bool (false || E)))]) (fun k c u v h1 h2 => Gl.val _ k c u v h1 h2) ?_ ?_ ?_ ?_
  · intro k y hy
    rcases k with _ | _ | _ | _ | _ | _ | _ | _ | _ | _ | _ | _ | _ | _ | _ | _ | _ | k
    all_goals simp only [Tff, List.getElem?_cons_zero, List.getElem?_cons_succ, List.getElem?_nil, Option.some.injEq, reduceCtorEq] at hy
    all_goals subst hy
    all_goals exact ⟨rfl, rfl, Nat.lt_of_le_of_lt (by show (_ : Nat) ≤ 20; decide) hsz⟩
  · intro k y g b hy hg
    rcases k with _ | _ | _ | _ | _ | _ | _ | _ | _ | _ | _ | _ | _ | _ | _ | _ | _ | k
    all_goals simp only [Tff, List.getElem?_cons_zero, List.getElem?_cons_succ, List.getElem?_nil, Option.some.injEq, reduceCtorEq] at hy
    all_goals subst hy
    all_goals first | (cases hg; done) | (have h2 := Prod.mk.inj (Option.some.inj hg); obtain ⟨rfl, rfl⟩ := h2; exact ⟨by simp, _, rfl⟩)
  · intro k y u hy hw
    rcases k with _ | _ | _ | _ | _ | _ | _ | _ | _ | _ | _ | _ | _ | _ | _ | _ | _ | k
    all_goals simp only [Tff, List.getElem?_cons_zero, List.getElem?_cons_succ, List.getElem?_nil, Option.some.injEq, reduceCtorEq] at hy
    all_goals subst hy
    all_goals first | exact rfl | exact Bool.noConfusion (show true = false from hw)
  · intro k y a u hy hw hb hout hdep o hd hop
    rcases k with _ | _ | _ | _ | _ | _ | _ | _ | _ | _ | _ | _ | _ | _ | _ | _ | _ | k
    all_goals simp only [Tff, List.getElem?_cons_zero, List.getElem?_cons_succ, List.getElem?_nil, Option.some.injEq, reduceCtorEq] at hy
    all_goals subst hy
    · exact gl_load hop ((hout 2 rfl).trans e2) (V2.below hb) (H2.below hb)
    · exact gl_call (d := (.val (.int .i64 (X.cnt : Int)))) 33 (args := #[a.eval (.tmp 6)]) hop (by simp only [List.map_toArray, List.map_cons, List.map_nil] <;> rfl) (fun args w => by kernel_rfl) (gl_ret (refCount_any _ X (Nat.le_refl _) hcX u _ (show FD (.jv X) u (a.eval (.tmp 6)) from hdep 0 (by simp))))
    · exact gl_load hop ((hout 3 rfl).trans e3) (V3.below hb) (H3.below hb)
    · exact gl_call (d := (.val (.int .i64 (Y.cnt : Int)))) 33 (args := #[a.eval (.tmp 8)]) hop (by simp only [List.map_toArray, List.map_cons, List.map_nil] <;> rfl) (fun args w => by kernel_rfl) (gl_ret (refCount_any _ Y (Nat.le_refl _) hcY u _ (show FD (.jv Y) u (a.eval (.tmp 8)) from hdep 2 (by simp))))
    · exact gl_addi hop (show FD (.val (.int .i64 (X.cnt : Int))) u (a.eval (.tmp 7)) from hdep 1 (by simp)) (show FD (.val (.int .i64 (Y.cnt : Int))) u (a.eval (.tmp 9)) from hdep 3 (by simp)) (by omega) (by omega)
    · exact gl_addc hop (show FD (.val (.int .i64 ((X.cnt : Int) + (Y.cnt : Int)))) u (a.eval (.tmp 10)) from hdep 4 (by simp)) (by omega) (by omega)
    · exact gl_gtc hop (show FD (.val (.int .i64 ((X.cnt : Int) + (Y.cnt : Int) + 1))) u (a.eval (.tmp 11)) from hdep 5 (by simp)) hM
    · exact gl_load hop ((hout 2 rfl).trans e2) (V2.below hb) (H2.below hb)
    · exact gl_call (d := (.val (.int .i64 (X.dep : Int)))) 34 (args := #[a.eval (.tmp 13)]) hop (by simp only [List.map_toArray, List.map_cons, List.map_nil] <;> rfl) (fun args w => by kernel_rfl) (gl_ret (refDepth_any _ X (Nat.le_refl _) hcX u _ (show FD (.jv X) u (a.eval (.tmp 13)) from hdep 7 (by simp))))
    · exact gl_gec hop (show FD (.val (.int .i64 (X.dep : Int))) u (a.eval (.tmp 14)) from hdep 8 (by simp)) hD
    · exact gl_move (d := (.val (.bool false))) hop (show FD (.val (.bool false)) u (a.eval (.tmp 15)) from hdep 9 (by simp))
    · exact gl_load hop ((hout 3 rfl).trans e3) (V3.below hb) (H3.below hb)
    · exact gl_call (d := (.val (.int .i64 (Y.dep : Int)))) 34 (args := #[a.eval (.tmp 17)]) hop (by simp only [List.map_toArray, List.map_cons, List.map_nil] <;> rfl) (fun args w => by kernel_rfl) (gl_ret (refDepth_any _ Y (Nat.le_refl _) hcY u _ (show FD (.jv Y) u (a.eval (.tmp 17)) from hdep 11 (by simp))))
    · exact gl_gec hop (show FD (.val (.int .i64 (Y.dep : Int))) u (a.eval (.tmp 18)) from hdep 12 (by simp)) hE
    · exact gl_or hop (show FD (.val (.bool false)) u (a.eval (.tmp 16)) from hdep 10 (by simp)) (fun _ => (show FD (.val (.bool E)) u (a.eval (.tmp 19)) from hdep 13 (by simp))) rfl
    · exact gl_assign (d := (.val (.bool M))) hop (show FD (.val (.bool M)) u (a.eval (.tmp 12)) from hdep 6 (by simp))
    · exact gl_assign (d := (.val (.bool (false || E)))) hop (show FD (.val (.bool (false || E))) u (a.eval (.tmp 20)) from hdep 14 (by simp))
  · intro f u hall hb
    exact fin f u (hall 15 (by decide)) (hall 16 (by decide)) hb
set_option maxHeartbeats 4000000 in
set_option maxRecDepth 4000 in
theorem fits_any (x y : JV) (v u : Value) (w : World) (hv : HV w v x) (hu : HV w u y) (hx : x.cnt ≤ 90000) (hy : y.cnt ≤ 90000) {M D : Bool} (hM : decide (8192 < x.cnt + y.cnt + 1) = M) (hD : (decide (12 ≤ x.dep) || decide (12 ≤ y.dep)) = D) :
    Calls Tryz.prog 21 #[v, u] w fun e w' => e = .returned (.tuple #[.bool M, .bool D]) ∧ Below w.heap.size w w' := by
  obtain ⟨cs, rfl, hc⟩ := hv
  obtain ⟨a, c, ca, cb, rfl, _, _, _⟩ := hc.form
  obtain ⟨cs, rfl, hd⟩ := hu
  obtain ⟨a', c', ca', cb', rfl, _, _, _⟩ := hd.form
  obtain ⟨K, hK⟩ : ∃ z : Int, z = (x.k : Int) := ⟨_, rfl⟩
  obtain ⟨N, hNN⟩ : ∃ z : Int, z = x.n := ⟨_, rfl⟩
  obtain ⟨T, hTT⟩ : ∃ z : ByteArray, z = S x.t := ⟨_, rfl⟩
  obtain ⟨p, hp⟩ : ∃ z : Nat, z = x.ns.length := ⟨_, rfl⟩
  obtain ⟨r, hr⟩ : ∃ z : Nat, z = x.is.length := ⟨_, rfl⟩
  obtain ⟨K', hK'⟩ : ∃ z : Int, z = (y.k : Int) := ⟨_, rfl⟩
  obtain ⟨N', hNN'⟩ : ∃ z : Int, z = y.n := ⟨_, rfl⟩
  obtain ⟨T', hTT'⟩ : ∃ z : ByteArray, z = S y.t := ⟨_, rfl⟩
  obtain ⟨p', hp'⟩ : ∃ z : Nat, z = y.ns.length := ⟨_, rfl⟩
  obtain ⟨r', hr'⟩ : ∃ z : Nat, z = y.is.length := ⟨_, rfl⟩
  have hv : HV w (.agg #[.int .u8 K, .int .i64 N, .string T, .slice a p ca, .slice c r cb]) x := by rw [hK, hNN, hTT, hp, hr]; exact ⟨_, rfl, hc⟩
  have hu : HV w (.agg #[.int .u8 K', .int .i64 N', .string T', .slice a' p' ca', .slice c' r' cb']) y := by rw [hK', hNN', hTT', hp', hr']; exact ⟨_, rfl, hd⟩
  rw [← hK, ← hNN, ← hTT, ← hp, ← hr, ← hK', ← hNN', ← hTT', ← hp', ← hr']
  show Calls _ _ #[.agg #[.int .u8 K, .int .i64 N, .string T, .slice a p ca, .slice c r cb], .agg #[.int .u8 K', .int .i64 N', .string T', .slice a' p' ca', .slice c' r' cb']] w _
  clear hc hd hK hNN hTT hp hr hK' hNN' hTT' hp' hr'
  obtain ⟨q, hq⟩ : ∃ q, q = w.heap.size := ⟨_, rfl⟩
  obtain ⟨W1, hW1⟩ : ∃ W, W = w.alloc (.cells #[.int .u8 K, .int .i64 N, .string T, .slice a p ca, .slice c r cb] 26) := ⟨_, rfl⟩
  obtain ⟨W2, hW2⟩ : ∃ W, W = W1.alloc (.cells #[.int .u8 K', .int .i64 N', .string T', .slice a' p' ca', .slice c' r' cb'] 26) := ⟨_, rfl⟩
  have s1 : W1.heap.size = q + 1 := by rw [hW1, hq]; simp
  have b1 : Below w.heap.size w W1 := by rw [hW1]; exact (Below.refl _ _).alloc (Nat.le_refl _) _
  have b2 : Below W1.heap.size W1 W2 := by rw [hW2]; exact (Below.refl _ _).alloc (Nat.le_refl _) _
  have B2 : Below w.heap.size w W2 := b1.trans (b2.mono b1.size)
  have V1 : VAt q W1 (.int .u8 K) (.int .i64 N) (.string T) (.slice a p ca) (.slice c r cb) := by rw [hW1, hq]; exact VAt.new ..
  have V2 : VAt (q + 1) W2 (.int .u8 K') (.int .i64 N') (.string T') (.slice a' p' ca') (.slice c' r' cb') := by rw [hW2, ← s1]; exact VAt.new ..
  have V1' := V1.below b2
  have HX := hv.below B2
  have HY := hu.below B2
  have HB2 := Lib.hid B2
  have HMM := Lib.hid hM
  have HDD := Lib.hid hD
  have HVV1 := Lib.hid V1'
  have HVV2 := Lib.hid V2
  have HHX := Lib.hid HX
  have HHY := Lib.hid HY
  have HCX := Lib.hid hx
  have HCY := Lib.hid hy
  clear s1 b1 b2 B2 V1 V2 V1' hv hu HX HY hM hD hx hy
  go_enter Tryz.func21, Tryz.ntmps21
  go_wp2_with fail
  rw [← hW1, ← hW2, ← hq]
  clear hW1 hW2 hq
  have hM2 : decide (((x.cnt : Int) + (y.cnt : Int) + 1) > 8192) = M := by rw [← HMM.out]; congr 1; apply propext; omega
  cases hd : decide ((x.dep : Int) ≥ 12) with
  | true =>
    refine region_ft (by kernel_rfl) (by kernel_rfl) (by simp) (X := x) (Y := y) (E := decide ((y.dep : Int) ≥ 12)) rfl rfl HVV1.out HVV2.out HHX.out HHY.out HCX.out HCY.out hM2 hd rfl (fun f u f0 f1 b4 => ?_)
    have f0 : f 4 = .bool M := f0
    have f1 : f 5 = .bool true := f1
    rw [putR_lit]
    simp only [putL, show ∀ i, pft i = (Sft.contains i) from fun _ => rfl, Sft]
    simp
    rw [f0, f1]
    have hD2 : D = true := by rw [← HDD.out, decide_eq_true (show 12 ≤ x.dep by have := of_decide_eq_true hd; omega)]; rfl
    go_wp2_with fail
    go_ret2
    exact ⟨by rw [hD2]; rfl, HB2.out.trans (b4.mono HB2.out.size)⟩
  | false =>
    refine region_ff (by kernel_rfl) (by kernel_rfl) (by simp) (X := x) (Y := y) (E := decide ((y.dep : Int) ≥ 12)) rfl rfl HVV1.out HVV2.out HHX.out HHY.out HCX.out HCY.out hM2 hd rfl (fun f u f0 f1 b4 => ?_)
    have f0 : f 4 = .bool M := f0
    have f1 : f 5 = .bool (false || decide ((y.dep : Int) ≥ 12)) := f1
    rw [putR_lit]
    simp only [putL, show ∀ i, pff i = (Sff.contains i) from fun _ => rfl, Sff]
    simp
    rw [f0, f1]
    have hD2 : D = (false || decide ((y.dep : Int) ≥ 12)) := by
      rw [← HDD.out, decide_eq_false (show ¬ 12 ≤ x.dep by have := of_decide_eq_false hd; omega)]
      congr 1
      congr 1
      apply propext
      omega
    go_wp2_with fail
    go_ret2
    exact ⟨by rw [hD2]; rfl, HB2.out.trans (b4.mono HB2.out.size)⟩
end

section
open Go.RowKit

theorem NS0 (w : World) (a : Option Addr) : NS w a [] := fun i x h => by simp at h
set_option maxHeartbeats 8000000 in
set_option maxRecDepth 5000 in
theorem law_ReadLists (s t : ByteArray) (w : World) (hs : s.size ≤ maxLen) (ht : t.size ≤ maxLen) (hT : TabL w) :
    Calls Tryz.prog 7 #[.string s, .string t] w fun e w' => e = .returned (.bool true) ∧ Below w.heap.size w w' := by
  obtain ⟨l, rfl⟩ := as_S s
  obtain ⟨r, rfl⟩ := as_S t
  obtain ⟨L, hL⟩ : ∃ L : Int, L = (l.length : Int) := ⟨_, rfl⟩
  obtain ⟨R, hR⟩ : ∃ L : Int, L = (r.length : Int) := ⟨_, rfl⟩
  have hsz : ((S l).size : Int) = L := by rw [S_size, hL]
  have hrz : ((S r).size : Int) = R := by rw [S_size, hR]
  have HL := Lib.hid hL
  have HR := Lib.hid hR
  clear hL hR hs ht
  by_cases h2 : (10000 : Int) < L
  · go_enter Tryz.func7, Tryz.ntmps7
    go_wp2_with fail
    refine (awake_any _ hT).mono ?_; rintro e w1 ⟨rfl, b1⟩
    go_wp2_with fail
    go_ret
    exact ⟨rfl, b1⟩
  by_cases h3 : (10000 : Int) < R
  · go_enter Tryz.func7, Tryz.ntmps7
    go_wp2_with fail
    refine (awake_any _ hT).mono ?_; rintro e w1 ⟨rfl, b1⟩
    go_wp2_with fail
    go_ret
    exact ⟨rfl, b1⟩
  have hl1 : Hid (l.length ≤ 10000) := by have := HL.out; show l.length ≤ 10000; omega
  have hl2 : Hid (r.length ≤ 10000) := by have := HR.out; show r.length ≤ 10000; omega
  obtain ⟨X, hX⟩ : ∃ X, X = 91 :: (l ++ 44 :: (r ++ [93])) := ⟨_, rfl⟩
  obtain ⟨o1, ho1⟩ : ∃ o, o = [91] ++ l := ⟨_, rfl⟩
  obtain ⟨o2, ho2⟩ : ∃ o, o = o1 ++ [44] := ⟨_, rfl⟩
  obtain ⟨o3, ho3⟩ : ∃ o, o = o2 ++ r := ⟨_, rfl⟩
  have ho4 : o3 ++ [93] = X := by rw [ho3, ho2, ho1, hX]; simp
  have n1 : o1.length = l.length + 1 := by rw [ho1]; simp
  have n2 : o2.length = l.length + 2 := by rw [ho2, List.length_append, n1]; rfl
  have n3 : o3.length = l.length + 2 + r.length := by rw [ho3, List.length_append, n2]
  have A1 := add_S [91] l (by have := hl1.out; simp; omega)
  have A2 := add_S o1 [44] (by have := hl1.out; simp; omega)
  have A3 := add_S o2 r (by have := hl1.out; have := hl2.out; omega)
  have A4 := add_S o3 [93] (by have := hl1.out; have := hl2.out; simp; omega)
  rw [← ho1, show S [91] = (⟨#[91]⟩ : ByteArray) from rfl] at A1
  rw [← ho2, show S [44] = (⟨#[44]⟩ : ByteArray) from rfl] at A2
  rw [← ho3] at A3
  rw [ho4, show S [93] = (⟨#[93]⟩ : ByteArray) from rfl] at A4
  have HX := Lib.hid hX
  clear ho1 ho2 ho3 ho4 n1 n2 n3 hX
  go_enter Tryz.func7, Tryz.ntmps7
  go_wp2_with fail
  refine (awake_any _ hT).mono ?_; rintro e w1 ⟨rfl, b1⟩
  have T1 := hT.below b1
  have HB1 := Lib.hid b1
  have cR := readRead_any l w1 T1
  clear b1 T1
  go_wp2_with fail
  refine cR.mono ?_; rintro e w2 ⟨u, x, pl, er, rfl, hr, hu, b2⟩
  obtain ⟨uk, un, ut, ua, ub, ui, uj, uca, ucb, rfl⟩ := hu.open'
  obtain ⟨cs, ecs, hcp⟩ := hu
  have hv2 : HV w2 (.agg #[.int .u8 uk, .int .i64 un, .string ut, .slice ua ui uca, .slice ub uj ucb]) x := ⟨cs, ecs, hcp.hc⟩
  obtain ⟨q, hq⟩ : ∃ q, q = w2.heap.size := ⟨_, rfl⟩
  obtain ⟨W3, hW3⟩ : ∃ W, W = w2.alloc (.cells #[.int .u8 uk, .int .i64 un, .string ut, .slice ua ui uca, .slice ub uj ucb] 26) := ⟨_, rfl⟩
  have b3 : Below w2.heap.size w2 W3 := by rw [hW3]; exact (Below.refl _ _).alloc (Nat.le_refl _) _
  have V3 : VAt q W3 (.int .u8 uk) (.int .i64 un) (.string ut) (.slice ua ui uca) (.slice ub uj ucb) := by rw [hW3, hq]; exact VAt.new ..
  have B3 := HB1.out.trans ((b2.trans (b3.mono b2.size)).mono HB1.out.size)
  have HB3 := Lib.hid B3
  have HV3 := Lib.hid V3
  have HU3 := Lib.hid (hv2.below b3)
  have T3 := hT.below B3
  obtain ⟨eI, heI⟩ : ∃ z : Int, z = (er : Int) := ⟨_, rfl⟩
  obtain ⟨pI, hpI⟩ : ∃ z : Int, z = (pl : Int) := ⟨_, rfl⟩
  have HE := Lib.hid heI
  have HRD := Lib.hid hr
  have cR2 := readRead_any r W3 T3
  rw [← heI, ← hpI]
  clear cR hr b2 b3 hv2 hcp ecs heI hpI B3 V3
  go_wp2_with fail
  rw [← hW3, ← hq]
  clear hW3 hq
  refine cR2.mono ?_; rintro e w4 ⟨u2, y, pl2, er2, rfl, hr2, hu2, b4⟩
  obtain ⟨vk, vn, vt, va, vb, vi, vj, vca, vcb, rfl⟩ := hu2.open'
  obtain ⟨cs2, ecs2, hcp2⟩ := hu2
  have hv4 : HV w4 (.agg #[.int .u8 vk, .int .i64 vn, .string vt, .slice va vi vca, .slice vb vj vcb]) y := ⟨cs2, ecs2, hcp2.hc⟩
  obtain ⟨q2, hq2⟩ : ∃ q, q = w4.heap.size := ⟨_, rfl⟩
  obtain ⟨W5, hW5⟩ : ∃ W, W = w4.alloc (.cells #[.int .u8 vk, .int .i64 vn, .string vt, .slice va vi vca, .slice vb vj vcb] 26) := ⟨_, rfl⟩
  have b5 : Below w4.heap.size w4 W5 := by rw [hW5]; exact (Below.refl _ _).alloc (Nat.le_refl _) _
  have V5 : VAt q2 W5 (.int .u8 vk) (.int .i64 vn) (.string vt) (.slice va vi vca) (.slice vb vj vcb) := by rw [hW5, hq2]; exact VAt.new ..
  have b35 := b4.trans (b5.mono b4.size)
  have HB5 := Lib.hid (HB3.out.trans (b35.mono HB3.out.size))
  have HV5 := Lib.hid V5
  have HU5 := Lib.hid (hv4.below b5)
  have HX5 := Lib.hid (HU3.out.below b35)
  have HVX := Lib.hid (HV3.out.below b35)
  have T5 := T3.below b35
  obtain ⟨fI, hfI⟩ : ∃ z : Int, z = (er2 : Int) := ⟨_, rfl⟩
  obtain ⟨gI, hgI⟩ : ∃ z : Int, z = (pl2 : Int) := ⟨_, rfl⟩
  have HF := Lib.hid hfI
  have HRD2 := Lib.hid hr2
  rw [← hfI, ← hgI]
  clear cR2 hr2 b4 b5 b35 hv4 hcp2 ecs2 hfI hgI V5 T3
  by_cases he : eI = 0
  case neg =>
    have hb : (eI != 0) = true := bne_iff_ne.2 he
    clear he
    go_wp2_with fail
    rw [← hW5]
    go_ret
    exact ⟨rfl, HB5.out⟩
  subst he
  by_cases hf : fI = 0
  case neg =>
    have hb : (fI != 0) = true := bne_iff_ne.2 hf
    clear hf
    go_wp2_with fail
    rw [← hW5]
    go_ret
    exact ⟨rfl, HB5.out⟩
  subst hf
  have hrx : RdIs l x pl 0 := by have h0 : er = 0 := by have := HE.out; omega
                                 have := HRD.out; rw [h0] at this; exact this
  have hry : RdIs r y pl2 0 := by have h0 : er2 = 0 := by have := HF.out; omega
                                  have := HRD2.out; rw [h0] at this; exact this
  have hx4 := hrx.tx.2.1
  have hy4 := hry.tx.2.1
  obtain ⟨M, hM⟩ : ∃ M, decide (8192 < x.cnt + y.cnt + 1) = M := ⟨_, rfl⟩
  obtain ⟨D, hD⟩ : ∃ D, (decide (12 ≤ x.dep) || decide (12 ≤ y.dep)) = D := ⟨_, rfl⟩
  have cF := fun (u v : Value) W h1 h2 => fits_any x y u v W h1 h2 (by omega) (by omega) hM hD
  have CF := Lib.hid cF
  have hlen : l.length + r.length + 3 ≤ 65536 := by have := hl1.out; have := hl2.out; omega
  by_cases hgood : M = false ∧ D = false
  · obtain ⟨rfl, rfl⟩ := hgood
    have hM' := of_decide_eq_false hM
    rw [Bool.or_eq_false_iff] at hD
    have hD1 := of_decide_eq_false hD.1
    have hD2 := of_decide_eq_false hD.2
    have hok := list_ok hrx hry (by omega) (by omega) (by omega) hlen
    rw [← HX.out] at hok
    have cR3 := rd_call hok W5 T5
    clear cF hM hD hM' hD1 hD2 hok hrx hry hlen hx4 hy4
    go_wp2_with fail
    rw [← hW5, ← hq2]
    clear hW5 hq2
    refine cR3.mono ?_; rintro e w6 ⟨zk, zn, zt, za, zb, zi, zj, zca, zcb, rfl, hv6, b6⟩
    obtain ⟨q3, hq3⟩ : ∃ q, q = w6.heap.size := ⟨_, rfl⟩
    obtain ⟨W7, hW7⟩ : ∃ W, W = w6.alloc (.cells #[.int .u8 zk, .int .i64 zn, .string zt, .slice za zi zca, .slice zb zj zcb] 26) := ⟨_, rfl⟩
    have b7 : Below w6.heap.size w6 W7 := by rw [hW7]; exact (Below.refl _ _).alloc (Nat.le_refl _) _
    have V7 : VAt q3 W7 (.int .u8 zk) (.int .i64 zn) (.string zt) (.slice za zi zca) (.slice zb zj zcb) := by rw [hW7, hq3]; exact VAt.new ..
    have b57 := b6.trans (b7.mono b6.size)
    have HB7 := Lib.hid (HB5.out.trans (b57.mono HB5.out.size))
    have HZ7 := Lib.hid (hv6.below b7)
    have HX7 := Lib.hid (HX5.out.below b57)
    have HY7 := Lib.hid (HU5.out.below b57)
    have HVX7 := Lib.hid (HVX.out.below b57)
    have HVY7 := Lib.hid (HV5.out.below b57)
    have HVZ7 := Lib.hid V7
    have cF1 := CF.out _ _ W7 HX7.out HY7.out
    obtain ⟨⟨p0, p1, p2, p3, p4⟩, pf⟩ := HVX7.out.cells
    obtain ⟨⟨r0, r1, r2, r3, r4⟩, rf⟩ := HVY7.out.cells
    clear cR3 b6 b7 b57 V7 hv6 T5
    rw [hW7] at p0 p1 p2 p3 p4 pf r0 r1 r2 r3 r4 rf
    go_wp2_with fail
    rw [← hW7, ← hq3]
    clear hW7 hq3 p0 p1 p2 p3 p4 pf r0 r1 r2 r3 r4 rf
    refine cF1.mono ?_; rintro e w8 ⟨rfl, b8⟩
    have HB8 := Lib.hid (HB7.out.trans (b8.mono HB7.out.size))
    obtain ⟨⟨p0, p1, p2, p3, p4⟩, pf⟩ := (HVX7.out.below b8).cells
    obtain ⟨⟨r0, r1, r2, r3, r4⟩, rf⟩ := (HVY7.out.below b8).cells
    obtain ⟨⟨z0, z1, z2, z3, z4⟩, zf⟩ := (HVZ7.out.below b8).cells
    obtain ⟨W9, hW9⟩ : ∃ W, W = w8.alloc (.cells #[.int .u8 uk, .int .i64 un, .string ut, .slice ua ui uca, .slice ub uj ucb, .int .u8 vk, .int .i64 vn, .string vt, .slice va vi vca, .slice vb vj vcb] 26) := ⟨_, rfl⟩
    obtain ⟨q4, hq4⟩ : ∃ q, q = w8.heap.size := ⟨_, rfl⟩
    have b9 : Below w8.heap.size w8 W9 := by rw [hW9]; exact (Below.refl _ _).alloc (Nat.le_refl _) _
    have b79 := b8.trans (b9.mono b8.size)
    have HB9 := Lib.hid (HB8.out.trans (b9.mono HB8.out.size))
    have HL9 : HV W9 (.agg #[.int .u8 4, .int .i64 0, .string ⟨#[]⟩, .slice none 0 0, .slice (some ⟨q4, 0, none⟩) 2 2]) (.mk 4 0 [] [] [x, y]) := by
      obtain ⟨csx, hcsx, hcx⟩ := HX7.out.below b79
      obtain rfl : csx = [.int .u8 uk, .int .i64 un, .string ut, .slice ua ui uca, .slice ub uj ucb] := by simpa using hcsx.symm
      obtain ⟨csy, hcsy, hcy⟩ := HY7.out.below b79
      obtain rfl : csy = [.int .u8 vk, .int .i64 vn, .string vt, .slice va vi vca, .slice vb vj vcb] := by simpa using hcsy.symm
      have i9 : W9.heap[q4]? = some (.cells (([.int .u8 uk, .int .i64 un, .string ut, .slice ua ui uca, .slice ub uj ucb] : List Value) ++ ([.int .u8 vk, .int .i64 vn, .string vt, .slice va vi vca, .slice vb vj vcb] : List Value)).toArray 26 (0, 0)) := by rw [hW9, hq4]; exact heap_alloc_new w8 _
      exact HV.of W9 4 0 [] [] [x, y] none (some ⟨q4, 0, none⟩) 0 2 ⟨by omega, by omega, Nat.zero_le _, Nat.zero_le _, by show 2 ≤ maxLen; unfold maxLen; omega, fun x h => by simp at h⟩ (NS0 _ _) (.inr ⟨q4, 0, rfl, HI.of_block i9 (HCS.snoc hcy (HCS.one hcx))⟩)
    have cS := refSame_any _ (.mk 4 0 [] [] [x, y]) _ (Nat.le_refl _) W9 _ _ (HZ7.out.below b79) HL9
    rw [JV.same_yes] at cS
    clear cF1 b8 b9 b79 HL9
    go_wp2_with fail
    rw [← hq4, ← hW9]
    clear hW9 hq4 p0 p1 p2 p3 p4 pf r0 r1 r2 r3 r4 rf z0 z1 z2 z3 z4 zf
    refine cS.mono ?_; rintro e w10 ⟨rfl, b10⟩
    have HB10 := Lib.hid (HB9.out.trans (b10.mono HB9.out.size))
    clear cS b10
    go_wp2_with fail
    go_ret
    exact ⟨rfl, HB10.out⟩
  · have hbad : 8192 < x.cnt + y.cnt + 1 ∨ 12 ≤ x.dep ∨ 12 ≤ y.dep := by
      cases M with
      | true => exact .inl (of_decide_eq_true hM)
      | false =>
        cases D with
        | false => exact absurd ⟨rfl, rfl⟩ hgood
        | true =>
          rw [Bool.or_eq_true] at hD
          rcases hD with h | h
          · exact .inr (.inl (of_decide_eq_true h))
          · exact .inr (.inr (of_decide_eq_true h))
    obtain ⟨p, e, hb, hp0, hcase⟩ := list_bad hrx hry hbad hlen
    rw [← HX.out] at hb
    have cR3 := rd_call hb W5 T5
    have hcase2 : (M = true ∧ D = true ∧ (e = 5 ∨ e = 8)) ∨ (M = true ∧ D = false ∧ e = 5) ∨ (M = false ∧ D = true ∧ e = 8) := by
      cases M with
      | true =>
        cases D with
        | true => exact .inl ⟨rfl, rfl, by omega⟩
        | false =>
          rw [Bool.or_eq_false_iff] at hD
          have hD1 := of_decide_eq_false hD.1
          have hD2 := of_decide_eq_false hD.2
          exact .inr (.inl ⟨rfl, rfl, by omega⟩)
      | false =>
        have hM1 := of_decide_eq_false hM
        cases D with
        | true => exact .inr (.inr ⟨rfl, rfl, by omega⟩)
        | false => exact absurd ⟨rfl, rfl⟩ hgood
    obtain ⟨pI2, hpI2⟩ : ∃ z : Int, z = (p : Int) := ⟨_, rfl⟩
    have hp1 : 0 < pI2 := by omega
    rw [← hpI2] at cR3
    clear cF hM hD hb hcase hbad hgood hrx hry hlen hx4 hy4 hpI2 hp0
    have key : ∀ (eJ : Int), (M = true ∧ D = true ∧ (eJ = 5 ∨ eJ = 8)) ∨ (M = true ∧ D = false ∧ eJ = 5) ∨ (M = false ∧ D = true ∧ eJ = 8) → True := fun _ _ => trivial
    clear key
    rcases hcase2 with ⟨rfl, rfl, rfl | rfl⟩ | ⟨rfl, rfl, rfl⟩ | ⟨rfl, rfl, rfl⟩
    all_goals
      go_wp2_with fail
      rw [← hW5, ← hq2]
      clear hW5 hq2
      refine cR3.mono ?_; rintro e w6 ⟨zk, zn, zt, za, zb, zi, zj, zca, zcb, rfl, hv6, b6⟩
      obtain ⟨W7, hW7⟩ : ∃ W, W = w6.alloc (.cells #[.int .u8 zk, .int .i64 zn, .string zt, .slice za zi zca, .slice zb zj zcb] 26) := ⟨_, rfl⟩
      have b7 : Below w6.heap.size w6 W7 := by rw [hW7]; exact (Below.refl _ _).alloc (Nat.le_refl _) _
      have b57 := b6.trans (b7.mono b6.size)
      have HB7 := Lib.hid (HB5.out.trans (b57.mono HB5.out.size))
      have cF1 := CF.out _ _ W7 (HX5.out.below b57) (HU5.out.below b57)
      obtain ⟨⟨p0, p1, p2, p3, p4⟩, pf⟩ := (HVX.out.below b57).cells
      obtain ⟨⟨r0, r1, r2, r3, r4⟩, rf⟩ := (HV5.out.below b57).cells
      clear cR3 b6 b7 b57 hv6 T5
      rw [hW7] at p0 p1 p2 p3 p4 pf r0 r1 r2 r3 r4 rf
      go_wp2_with fail
      rw [← hW7]
      clear hW7 p0 p1 p2 p3 p4 pf r0 r1 r2 r3 r4 rf
      refine cF1.mono ?_; rintro e w8 ⟨rfl, b8⟩
      have HB8 := Lib.hid (HB7.out.trans (b8.mono HB7.out.size))
      clear cF1 b8
      go_wp2_with fail
      go_ret
      exact ⟨rfl, HB8.out⟩
end
end Go.Proofs.YtpifbmcgadjhbaaGreatDoor

namespace Go.Proofs.YtpifbmcgadjhbaaGreatDoor.readLists
open Go.ChangeShapes Go.WideShapes Go.ChangeAt Go.RowKit

theorem reads (os : Os) {H : Type} (enc : TypeId × Value → H) : ∃ places, DataW.whole enc Tryz.prog ((laidWorld os).forCall (fun _ _ => 0) ⟨#[], #[.string ⟨#[]⟩, .string ⟨#[]⟩], []⟩).memory Tryz.f7.params.toList Rows.readListsSpec.vars false (#[.string ⟨#[]⟩, .string ⟨#[]⟩] : Array Value).toList 8 = some ([.lit (.string []), .lit (.string [])], [], places) :=
  ⟨[], by kernel_rfl⟩

set_option maxRecDepth 100000 in
theorem lifted (os : Os) (started : os.Started) (H : Type) (enc : TypeId × Value → H) (F : Stop.Interp) :
    ReturnsInHanded {} Tryz.checked os 7 .any ((OpenSpec.ofChange Rows.readListsSpec).preRow enc Tryz.prog Tryz.f7 Rows.readListsRow.domain false Rows.readListsRow.laid) (((OpenSpec.ofChange Rows.readListsSpec).at F).post enc Tryz.prog Tryz.f7 false true false false) := by
  obtain ⟨places, hx⟩ := reads os enc
  refine returnsInHanded_of_row (C := Tryz.checked) (s := OpenSpec.ofChange Rows.readListsSpec) own started (by kernel_rfl) Tryz.func7
    (witness_row_at (enc := enc) (C := Tryz.checked) false (laidWorld os) #[.string ⟨#[]⟩, .string ⟨#[]⟩] rfl (by kernel_rfl) (by kernel_rfl) (by kernel_rfl)
      (OpenSpec.preRow_of_cond 8 hx (by kernel_rfl) (fun k hk => by cases hk) (by kernel_rfl) (laid_any os _))) ?_
  intro W base args ds gs before hval hW _ _ _ hL _ _
  have hW' := hW
  obtain ⟨p, q, hA, _, _, _, _⟩ := hW
  rw [Tryz.params7] at hA hval
  obtain ⟨v0, vs0, d0, ds0, p0, q0, hargs, _, _, h0, r0⟩ := trodAll_cons hA
  obtain ⟨v1, vs1, d1, ds1, p1, q1, rfl, _, _, h1, r1⟩ := trodAll_cons r0
  obtain ⟨rfl, _, _⟩ := trodAll_nil r1
  obtain rfl : args = #[v0, v1] := by cases args; simp_all
  obtain ⟨t0, rfl, b0⟩ := arg_string (hval 0 9 v0 rfl rfl) h0
  obtain ⟨t1, rfl, b1⟩ := arg_string (hval 1 9 v1 rfl rfl) h1
  exact contract (s := Rows.readListsSpec) rfl rfl (by kernel_rfl) (fun l hl => by
    rw [Tryz.params7] at hl
    match l, hl with
    | [_, _], _ => rfl) hW' (law_ReadLists t0 t1 W b0 b1 (tabs_of hL))

theorem said : Rows.ReadListsSaid :=
  OpenClaim.holds_of_cond 7 Tryz.f7 rfl rfl rfl rfl rfl rfl rfl ⟨rfl, rfl, rfl, rfl, rfl⟩ rfl rfl rfl rfl rfl (by kernel_rfl) Tryz.func7 (by kernel_rfl)
    (of_decide_eq_true (by kernel_rfl)) (by unfold Func.isWrapper; first | (rw [if_pos (by decide +kernel)]; kernel_rfl) | (rw [if_neg (by decide +kernel)]; exact ⟨rfl, rfl⟩))
    (fun os started H enc _ F => by rw [OpenClaim.pre_eq_preRow]; exact lifted os started H enc F)

theorem plain (f : FuncId) (fn : Func) (hf : Tryz.pinned.checked.prog.funcNamed "legate/legatelaw09.ReadLists" = some f) (hfn : Tryz.pinned.checked.prog.funcs[f]? = some fn) :
    true = Tryz.pinned.checked.prog.looks [] ∧ ∀ (j : Nat) t, fn.params[j]? = some t → Tryz.pinned.checked.prog.wantsStandIn t = false := by
  obtain rfl : f = 7 := Option.some.inj ((show Tryz.prog.funcNamed "legate/legatelaw09.ReadLists" = some 7 by kernel_rfl).symm.trans hf) |>.symm
  obtain rfl : fn = Tryz.f7 := (Option.some.inj (Tryz.func7.symm.trans hfn)).symm
  refine ⟨by kernel_rfl, fun j t ht => ?_⟩
  rw [Tryz.params7] at ht
  obtain rfl : t = 9 := by simpa using Array.mem_of_getElem? ht
  exact (show Tryz.prog.wantsStandIn 9 = false by kernel_rfl)

theorem card : Rows.ReadListsCardSaid :=
  Claim7.holds_tied_plain_at .later [] _ _ _ _ said (fun _ h => by cases h) (by kernel_rfl) (fun _ h => by cases h) readLists_row_tie rfl ⟨rfl, rfl⟩ (by kernel_rfl) rfl plain (by kernel_rfl)
end Go.Proofs.YtpifbmcgadjhbaaGreatDoor.readLists
