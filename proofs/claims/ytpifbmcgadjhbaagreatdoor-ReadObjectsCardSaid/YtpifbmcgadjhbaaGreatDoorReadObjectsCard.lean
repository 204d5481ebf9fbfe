/-
  An object of two names is read as both in one row; of the same name twice it is refused where it stands again.
  The library's and the program's own tables, and the library's error, that the program's functions come to are what its text lays (the card ties them); nothing else is asked; nothing else is asked.
-/
import Derived.Test.YtpifbmcgadjhbaaGreatDoorFrame
import Derived.Test.YtpifbmcgadjhbaaGreatDoorLexTabs
import Derived.MakeChecks
import Derived.Lay
import Derived.Stop.LaidErr
import Derived.Test.YtpifbmcgadjhbaaGreatDoorRegCalls
import Derived.Test.YtpifbmcgadjhbaaGreatDoorBunC
import Derived.Test.YtpifbmcgadjhbaaGreatDoorValRise
import Derived.Laws.MakeOwn
import Derived.Laws.IdiomStrings
import Derived.Test.YtpifbmcgadjhbaaGreatDoorValRefDep
import Derived.Test.YtpifbmcgadjhbaaGreatDoorBunS
import Derived.Test.YtpifbmcgadjhbaaGreatDoorText
import Derived.Test.YtpifbmcgadjhbaaGreatDoorQuoteRead
import Derived.Test.YtpifbmcgadjhbaaGreatDoorUtfRefBeg
import Derived.Test.YtpifbmcgadjhbaaGreatDoorQuoteProg
import Derived.Deep.AppendLies
namespace Go.Proofs.YtpifbmcgadjhbaaGreatDoor
section
open Go.ChangeShapes Go.WideShapes Go.ChangeAt Go.RowKit

/-- what every row of the seat lays -/
def LAID : List (String × DataW Unit) := Rows.readFrontRow.laid
theorem gDig : Tryz.prog.globalNamed "legate/hex.digits" = some 8 := by kernel_rfl
theorem gDigType : (Tryz.prog.globals[8]?).map (·.type) = some 220 := by kernel_rfl
theorem cellsDig : Tryz.prog.cellsOf 220 = 16 := by kernel_rfl
theorem cellsU8 : Tryz.prog.cellsOf 5 = 1 := by kernel_rfl
theorem row_of {name : String} {k : IntKind} {zs : List Int} {W : World} {g : Nat} (hg : Tryz.prog.globalNamed name = some g) (ht : Lib.TabIs Tryz.prog W name k zs) :
    ∃ t fr, W.heap[g]? = some (.cells (zs.map fun z => Value.int k z).toArray t fr) := by
  unfold Lib.TabIs World.var? at ht
  rw [hg] at ht
  simp only [Option.bind_some] at ht
  split at ht
  · rename_i cs t fr hx
    exact ⟨t, fr, by rw [hx]; simp only [Option.some.injEq] at ht; rw [ht]⟩
  · cases ht
theorem gPowType : (Tryz.prog.globals[0]?).map (·.type) = some 150 := by kernel_rfl
theorem cellsPow : Tryz.prog.cellsOf 150 = 20 := by kernel_rfl
theorem cellsU64 : Tryz.prog.cellsOf 139 = 1 := by kernel_rfl
theorem gRngType : (Tryz.prog.globals[5]?).map (·.type) = some 81 := by kernel_rfl
theorem rngRow : ∀ u, Tryz.prog.typeName? 3 u = some "*errors.errorString" → u = 207 := fun u h =>
  have star : "*" ++ "errors.errorString" = "*errors.errorString" := by decide
  typeName_ptr_named (nm := "errors.errorString") (by rw [star]; kernel_rfl) (by kernel_rfl) (by decide) u (by rw [star]; exact h)
theorem tabs_of {W : World} (h0 : laidMetH Tryz.prog LAID W) : TabL W := by
  have h : laidMet Tryz.prog LAID W := by rw [← MakeChecks.laidMetH_plain _ _ _ (by kernel_rfl)]; exact h0
  have h3 := laidMet_tail (laidMet_tail (laidMet_tail h))
  have h5 := laidMet_tail (laidMet_tail h3)
  have h1 : Lib.TabIs Tryz.prog W "legate/hex.digits" .u8 [48, 49, 50, 51, 52, 53, 54, 55, 56, 57, 97, 98, 99, 100, 101, 102] :=
    Lib.tabIs_of_head gDig gDigType Tryz.underlying220 Tryz.underlying5 cellsU8 cellsDig h
  refine ⟨row_of gDig h1, Lib.tabIs_of_head gPow gPowType Tryz.underlying150 Tryz.underlying139 cellsU64 cellsPow h3, ?_⟩
  obtain ⟨a, s, hv, _⟩ := laid_sentinel h5 gRng gRngType Tryz.underlying81 rngRow Tryz.underlying207 Tryz.underlying209 rfl rfl Tryz.underlying9 (by kernel_rfl) (by kernel_rfl)
  exact ⟨_, _, hv⟩
/-- a world in which the variables are laid: for the witness -/
noncomputable def laidWorld (os : Os) : World := World.laidAll Tryz.prog os LAID
theorem laid_fits (os : Os) : (World.holding Tryz.prog os ⟨#[], #[], []⟩).layFits Tryz.prog LAID [] = true := by kernel_rfl
theorem laid_ifaces (os : Os) : (World.holding Tryz.prog os ⟨#[], #[], []⟩).layIfaces Tryz.prog LAID (World.laidAll Tryz.prog os LAID) = true := by kernel_rfl
theorem laid_plain : (LAID.all fun x => x.2.handleName?.isNone) = true := by kernel_rfl
theorem laid_any (os : Os) (args : Array Value) : laidMetH Tryz.prog LAID ((laidWorld os).forCall (fun _ _ => 0) ⟨#[], args, []⟩).memory := by
  rw [MakeChecks.laidMetH_plain _ _ _ laid_plain]
  exact laidMet_laidAll args (laid_fits os) (laid_ifaces os)
end

section
open Go.RowKit

def keyG (o : Oper) : Option Tmp × Op × Option (Nat × Bool) × List Nat := (o.dst, o.op, o.guard, (o.after.toList.filter (Region.binds .any)).map (·.on))
/-- is operation k carried out, if the guards yield what G says? -/
def wantG (G : Nat → Option Bool) (g : Option (Nat × Bool)) : Bool := match g with | none => true | some (j, b) => G j == some b
theorem wp_region_grow {P : Program} {ops : Array Oper} {Q : Exit → Act → World → Prop} {A : Act} {id : Nat} {w : World} (hm : P.follows .mixedOrders = true) (T : List (Option Tmp × Op × Option (Nat × Bool) × List Nat))
    (hkey : ops.toList.map keyG = T) (hlow : (List.range ops.size).all (fun i => match ops[i]? with | some o => o.after.all (fun e => !Region.binds .any e || decide (e.on < i)) | none => true) = true)
    (p : Nat → Bool) (D : Nat → Nat) (hD : ∀ k x, T[k]? = some x → x.1 = some (D k) ∧ p (D k) = true ∧ D k < A.tmps.size) (hinj : ∀ i, i < T.length → ∀ j, j < T.length → D i = D j → i = j)
    (F : Nat → World → Value → Prop) (hF : ∀ k u u' v, Below u.heap.size u u' → F k u v → F k u' v)
    (G : Nat → Option Bool) (hG : ∀ k c u v, G k = some c → F k u v → v = .bool c)
    (hgd : ∀ (k : Nat) (x : Option Tmp × Op × Option (Nat × Bool) × List Nat) (g : Nat) (b : Bool), T[k]? = some x → x.2.2.1 = some (g, b) → g ∈ x.2.2.2 ∧ ∃ c, G g = some c)
    (skip : ∀ (k : Nat) (x : Option Tmp × Op × Option (Nat × Bool) × List Nat) (u : World), T[k]? = some x → wantG G x.2.2.1 = false → F k u undef)
    (step : ∀ (k : Nat) (x : Option Tmp × Op × Option (Nat × Bool) × List Nat) (a : Act) (u : World), T[k]? = some x → wantG G x.2.2.1 = true → Below w.heap.size w u → (∀ j, p j = false → a.eval (.tmp j) = A.eval (.tmp j)) → (∀ n, n ∈ x.2.2.2 → F n u (a.eval (.tmp (D n)))) → ∀ o : Oper, o.dst = x.1 → o.op = x.2.1 →
      o.wp P a u (fun a' u' => ∃ v, a' = a.put o.dst v ∧ F k u' v ∧ Below u.heap.size u u') Q)
    (fin : ∀ f u, (∀ k, k < T.length → F k u (f (D k))) → Below w.heap.size w u → Q .normal (putR A p f) u) : (Code.region id ops true).wp P Q A w := by
  have hlen : ops.size = T.length := by have := congrArg List.length hkey; simpa using this
  refine wp_region_inv hm p (fun listed f u => (∀ k, listed.getD k false = true → k < T.length ∧ F k u (f (D k))) ∧ Below w.heap.size w u) ?_ (fun listed f u i o hs hI hi hun hdep => ?_) (fun listed f u hs hI hr => ?_)
  · refine ⟨fun k h => ?_, (Below.refl _ _).drew⟩
    have hk := lt_of_listed h
    simp at hk
    simp [hk] at h
  · obtain ⟨hV, hb⟩ := hI
    have hl : ops.toList[i]? = some o := by rw [Array.getElem?_toList]; exact hi
    have hx : T[i]? = some (keyG o) := by rw [← hkey, List.getElem?_map, hl]; rfl
    have hil : i < T.length := (List.getElem?_eq_some_iff.1 hx).1
    obtain ⟨hd1, hd2, hd3⟩ := hD i _ hx
    have hd1 : o.dst = some (D i) := hd1
    have hdeps : ∀ n, n ∈ (keyG o).2.2.2 → F n u ((putR A p f).eval (.tmp (D n))) := fun n hn => by
      obtain ⟨e, he, rfl⟩ := List.mem_map.1 hn
      have hm := List.mem_filter.1 he
      obtain ⟨h1, h2⟩ := hV _ (hdep e (by simpa using hm.1) hm.2)
      obtain ⟨_, h3, h4⟩ := hD e.on T[e.on] (List.getElem?_eq_getElem h1)
      rw [putR_in A p f (D e.on) h3 h4]
      exact h2
    -- what is known behind it
    have next : ∀ (v : Value) (u' : World), F i u' v → Below u.heap.size u u' → ∃ f', (putR A p f).put o.dst v = putR A p f' ∧ (∀ k, (listed.setIfInBounds i true).getD k false = true → k < T.length ∧ F k u' (f' (D k))) ∧ Below w.heap.size w u' := fun v u' hv hb' => by
      refine ⟨fun j => if j = D i then v else f j, ?_, fun k hk => ?_, hb.trans (hb'.mono hb.size)⟩
      · rw [hd1]
        exact putR_put _ _ _ _ _ hd2
      · by_cases e : k = i
        · subst e
          simp only [if_true]
          exact ⟨hil, hv⟩
        · have hk2 : listed.getD k false = true := by rwa [getD_set_other e] at hk
          obtain ⟨hk3, hk4⟩ := hV k hk2
          have hne : ¬ D k = D i := fun h => e (hinj k hk3 i hil h)
          simp only [hne, if_false]
          exact ⟨hk3, hF k u u' _ hb' hk4⟩
    -- the guard
    have hw : Region.wanted o (yielded ops (putR A p f).tmps) = wantG G o.guard := by
      unfold Region.wanted wantG
      rcases hg : o.guard with _ | ⟨g, b⟩
      · rfl
      · obtain ⟨h1, c, h2⟩ := hgd i _ g b hx hg
        have h3 := hG g c u _ h2 (hdeps g h1)
        obtain ⟨e, he, hge⟩ := List.mem_map.1 h1
        have hm := List.mem_filter.1 he
        have h4 := (hV _ (hdep e (by simpa using hm.1) hm.2)).1
        rw [hge] at h4
        obtain ⟨h5, h6, h7⟩ := hD g T[g] (List.getElem?_eq_getElem h4)
        have hog : ∃ og, ops[g]? = some og ∧ og.dst = some (D g) := by
          have hg2 : g < ops.size := by omega
          refine ⟨ops[g], Array.getElem?_eq_getElem hg2, ?_⟩
          have hTg : T[g]? = some (keyG ops[g]) := by rw [← hkey, List.getElem?_map, Array.getElem?_toList, Array.getElem?_eq_getElem hg2]; rfl
          have := hD g _ hTg
          exact this.1
        obtain ⟨og, ho1, ho2⟩ := hog
        have hy : yielded ops (putR A p f).tmps g = some c := by
          unfold yielded
          rw [ho1]
          have h8 : (putR A p f).eval (.tmp (D g)) = .bool c := h3
          have h9 : (putR A p f).tmps[D g]? = some (.bool c) := by
            have hsz : D g < (putR A p f).tmps.size := by simp [putR]; exact h7
            rw [Array.getElem?_eq_getElem hsz]
            simp [Act.eval, hsz] at h8
            rw [h8]
          simp [ho2, h9]
        show (yielded ops (putR A p f).tmps g == some b) = (G g == some b)
        rw [hy, h2]
    unfold wpOp
    simp only [hi]
    cases hc : wantG G o.guard with
    | true =>
      rw [hw, hc]
      simp only [if_true]
      refine .inl (Oper.wp_mono (fun a' u' ⟨v, ha, hv, hb'⟩ => ?_) (step i _ (putR A p f) u hx hc hb (fun j hj => putR_out _ _ _ j hj) hdeps o rfl rfl))
      rw [ha]
      exact next v u' hv hb'
    | false =>
      rw [hw, hc]
      simp only [Bool.false_eq_true, if_false]
      exact next undef u (skip i _ u hx hc) (Below.refl _ _)
  · obtain ⟨hV, hb⟩ := hI
    exact fin f u (fun k hk => (hV k (all_of_ready hs hr hlow (k + 1) k (Nat.lt_succ_self k) (by omega))).2) hb
end

section
section
open Go.RowKit

theorem fd_add (b o j : Nat) : (⟨b, o, none⟩ : Addr).add j = ⟨b, o + j, none⟩ := by unfold Addr.add; split <;> simp_all
/-- n zero bytes -/
def Zs (n : Nat) : List UInt8 := List.replicate n 0
def ZA (n : Nat) : Array Value := (V (Zs n)).toArray
theorem Zs_length (n : Nat) : (Zs n).length = n := by simp [Zs]
theorem cnt_zeros : ∀ n : Nat, Um.cnt (Zs n) = some n
  | 0 => rfl
  | n + 1 => by
    have h : Um.nx (Zs (n + 1)) = (0, 1, 0) := by
      unfold Um.nx
      rw [show Um.bt (Zs (n + 1)) 0 = 0 from rfl]
      unfold Um.nxN
      rw [if_neg (by rw [Zs_length]; omega), if_pos (by omega)]
    rw [Um.cnt_ok h]
    show (Um.cnt (Zs n)).map (· + 1) = _
    rw [cnt_zeros n]
    rfl
theorem txt_zeros (n : Nat) : Jn.txt (Zs n) = decide (n ≤ 4096) := by
  unfold Jn.txt
  rw [LEN_some (cnt_zeros n), Zs_length]
  rfl
theorem made_zs (n : Nat) : madeCells (Value.int .u8 0).cells (n * 1) = ZA n := by
  rw [Nat.mul_one]
  apply Array.ext
  · rw [size_madeCells]
    simp [ZA, V, Zs]
  · intro i h1 h2
    simp [madeCells, ZA, V, Zs, Value.cells, Nat.mod_one]
theorem run_make_zs (n : Nat) (c : Int) (hc : c = (n : Int)) (hn : n ≤ 100000000) (w : World) :
    (Instr.makeSlice 36 (.int .i64 c) (.int .i64 c)).run Tryz.prog w = .ok (.slice (some ⟨w.heap.size, 0, none⟩) n n) (w.alloc (.cells (ZA n) 5)) := by
  subst hc
  obtain ⟨i0, hi, hz, hs, hb⟩ := info_parts info5
  have h := run_make (P := Tryz.prog) w 36 5 i0 _ Tryz.underlying36 hi hz .i64 .i64 (n : Int) (n : Int) (by omega) (by omega) (by rw [hb]; omega) (by omega)
  rw [h, Int.toNat_natCast, hs, made_zs]
theorem conv_zs (w : World) (b n : Nat) (h : w.heap[b]? = some (.cells (ZA n) 5 (0, 0))) :
    (convert 36 9 (.slice (some ⟨b, 0, none⟩) n n)).run Tryz.prog w = .ok (.string (S (Zs n))) w := by
  have := run_convert_bytes_back (P := Tryz.prog) w 36 9 5 ⟨b, 0, none⟩ n (Zs n) Tryz.underlying36 Tryz.underlying5 Tryz.underlying9 (by
    intro j hj
    rw [fd_add, Nat.zero_add, cell_of_row w b j _ _ _ h]
    simp [ZA, V, List.getElem?_eq_getElem hj])
  rwa [Zs_length] at this
end

section
open Go.RowKit

/-- kinds of what an operation leaves -/
inductive Fd where
  | val (v : Value)
  | jv (x : JV)
  | names (ns : List (List UInt8))
  | items (is : List JV)
  | zs (n : Nat)
def FD : Fd → World → Value → Prop
  | .val x, _, v => v = x
  | .jv x, u, v => HV u v x
  | .names ns, u, v => ∃ b, v = .slice (some ⟨b, 0, none⟩) ns.length ns.length ∧ u.heap[b]? = some (.cells (NC ns).toArray 9 (0, 0))
  | .items is, u, v => ∃ b cs, v = .slice (some ⟨b, 0, none⟩) is.length is.length ∧ u.heap[b]? = some (.cells (cs : List Value).toArray 26 (0, 0)) ∧ HCS u cs is
  | .zs n, u, v => ∃ b, v = .slice (some ⟨b, 0, none⟩) n n ∧ u.heap[b]? = some (.cells (ZA n) 5 (0, 0))
theorem FD.below {u u' : World} (hb : Below u.heap.size u u') : ∀ {d : Fd} {v : Value}, FD d u v → FD d u' v
  | .val _, _, h => h
  | .jv _, _, h => HV.below h hb
  | .names _, _, ⟨b, h1, h2⟩ => ⟨b, h1, (hb.block b (Array.getElem?_eq_some_iff.1 h2).1).trans h2⟩
  | .items _, _, ⟨b, cs, h1, h2, h3⟩ => ⟨b, cs, h1, (hb.block b (Array.getElem?_eq_some_iff.1 h2).1).trans h2, HCS.below hb _ _ h3⟩
  | .zs _, _, ⟨b, h1, h2⟩ => ⟨b, h1, (hb.block b (Array.getElem?_eq_some_iff.1 h2).1).trans h2⟩
def Fl (l : List Fd) (k : Nat) (u : World) (v : Value) : Prop := match l[k]? with | some d => FD d u v | none => True
theorem Fl.below (l : List Fd) (k : Nat) (u u' : World) (v : Value) (hb : Below u.heap.size u u') (h : Fl l k u v) : Fl l k u' v := by
  unfold Fl at *
  split
  · rename_i d hd
    rw [hd] at h
    exact FD.below hb h
  · trivial
def Gl (l : List Fd) (k : Nat) : Option Bool := match l[k]? with | some (.val (.bool b)) => some b | _ => none
theorem Gl.val (l : List Fd) (k : Nat) (c : Bool) (u : World) (v : Value) (h : Gl l k = some c) (h2 : Fl l k u v) : v = .bool c := by
  unfold Gl at h
  unfold Fl at h2
  split at h
  · rename_i b hb
    rw [hb] at h2
    simp only [Option.some.injEq] at h
    rw [← h]
    exact h2
  · cases h
section
variable {Q : Exit → Act → World → Prop} {a : Act} {u : World} {o : Oper} {d : Fd}
abbrev Gw (o : Oper) (a : Act) (u : World) (Q : Exit → Act → World → Prop) (d : Fd) : Prop := o.wp Tryz.prog a u (fun a' u' => ∃ v, a' = a.put o.dst v ∧ FD d u' v ∧ Below u.heap.size u u') Q
theorem gl_val {v : Value} (h : (execOp a.eval o).run Tryz.prog u = .ok (.value v) u) : Gw o a u Q (.val v) := wp_val h ⟨v, rfl, rfl, Below.refl _ _⟩
theorem eval_c (v : Value) : a.eval (.const v) = v := rfl
theorem gl_move {x : Operand} (ho : o.op = .move x) (hx : FD d u (a.eval x)) : Gw o a u Q d := wp_val (by simp only [execOp, ho]; rfl) ⟨_, rfl, hx, Below.refl _ _⟩
theorem gl_assign {x : Operand} (ho : o.op = .assign x) (hx : FD d u (a.eval x)) : Gw o a u Q d := wp_val (by simp only [execOp, ho]; rfl) ⟨_, rfl, hx, Below.refl _ _⟩
theorem ld_box {b : Nat} {c0 c1 c2 c3 c4 : Value} (h : VAt b u c0 c1 c2 c3 c4) : (Instr.loadAt 26 (.pointer (some ⟨b, 0, none⟩))).run Tryz.prog u = .ok (.agg #[c0, c1, c2, c3, c4]) u := ld_val _ fun j z hj => by
  obtain ⟨⟨p0, p1, p2, p3, p4⟩, _⟩ := h.cells
  rw [Nat.zero_add]
  rcases j with _ | _ | _ | _ | _ | j
  all_goals simp only [List.getElem?_cons_zero, List.getElem?_cons_succ, List.getElem?_nil, Option.some.injEq, reduceCtorEq] at hj
  all_goals subst hj
  all_goals assumption
theorem gl_load {x : Operand} {b : Nat} {c0 c1 c2 c3 c4 : Value} {X : JV} (ho : o.op = .load 26 x) (hx : a.eval x = .pointer (some ⟨b, 0, none⟩)) (h : VAt b u c0 c1 c2 c3 c4) (hh : HV u (.agg #[c0, c1, c2, c3, c4]) X) : Gw o a u Q (.jv X) :=
  wp_val (by simp [execOp, ho, hx, ld_box h]) ⟨_, rfl, hh, Below.refl _ _⟩
/-- a call of a function by its name -/
theorem gl_call (f : FuncId) {xs : Array Operand} {ts : Array TypeId} {args : Array Value} (ho : o.op = .call { callee := .value (.func f), args := xs, argTypes := ts }) (hx : xs.map a.eval = args)
    (hf : ∀ args w, (callFunc f args).run Tryz.prog w = .ok (.enter f args) w) (hc : Calls Tryz.prog f args u fun e w' => ∃ v, e = .returned v ∧ FD d w' v ∧ Below u.heap.size u w') : Gw o a u Q d := by
  unfold Gw Oper.wp
  rw [exec_call f ho hx hf, Oper.upon_enter]
  refine hc.mono fun e w' ⟨v, he, hr⟩ => ?_
  subst he
  exact ⟨v, rfl, hr⟩
theorem gl_ret {f : FuncId} {args : Array Value} {v : Value} (h : Calls Tryz.prog f args u fun e w' => e = .returned v ∧ Below u.heap.size u w') : Calls Tryz.prog f args u fun e w' => ∃ z, e = .returned z ∧ FD (.val v) w' z ∧ Below u.heap.size u w' :=
  h.mono fun _ _ ⟨h1, h2⟩ => ⟨v, h1, rfl, h2⟩
theorem gl_not {x : Operand} {c : Bool} (ho : o.op = .unOp .not 4 x) (hx : a.eval x = .bool c) : Gw o a u Q (.val (.bool (!c))) := gl_val (by simp [execOp, ho, hx]; simp [go_sem])
theorem gl_eqi {t : TypeId} {x : Operand} {y z : Int} {r : Bool} (ho : o.op = .binOp .eql t x (.const (.int .i64 z)) t) (hx : a.eval x = .int .i64 y) (hr : (y == z) = r) : Gw o a u Q (.val (.bool r)) := gl_val (by
  subst hr
  have hc : a.eval (.const (.int .i64 z)) = .int .i64 z := rfl
  simp [execOp, ho, hx, hc, eqGuard]
  simp [go_sem, binOp])
theorem gl_eqb {x y : Operand} {b c : Bool} (ho : o.op = .binOp .eql 4 x y 4) (hx : a.eval x = .bool b) (hy : a.eval y = .bool c) : Gw o a u Q (.val (.bool (b == c))) := gl_val (by
  have he := run_equal_bool u 4 b c Tryz.underlying4
  simp [execOp, ho, hx, hy, eqGuard]
  simp [binOp, he])
theorem gl_neb {x y : Operand} {b c : Bool} (ho : o.op = .binOp .neq 4 x y 4) (hx : a.eval x = .bool b) (hy : a.eval y = .bool c) : Gw o a u Q (.val (.bool (b != c))) := gl_val (by
  have he := run_equal_bool u 4 b c Tryz.underlying4
  simp [execOp, ho, hx, hy, eqGuard]
  simp [binOp, he]
  cases b <;> cases c <;> rfl)
theorem gl_eqii {x y : Operand} {b c : Int} (ho : o.op = .binOp .eql 3 x y 3) (hx : a.eval x = .int .i64 b) (hy : a.eval y = .int .i64 c) : Gw o a u Q (.val (.bool (b == c))) := gl_val (by simp [execOp, ho, hx, hy, eqGuard]; simp [go_sem, binOp])
/-- '&&' behind what is true: what stands on the right; behind what is false: false -/
theorem gl_and {x y : Operand} {b c r : Bool} (ho : o.op = .pick x y (.const (.bool false))) (hx : a.eval x = .bool b) (hy : b = true → a.eval y = .bool c) (hr : r = (b && c)) : Gw o a u Q (.val (.bool r)) := by
  subst hr
  have hc : a.eval (.const (.bool false)) = .bool false := rfl
  cases b with
  | true => exact gl_val (by simp [execOp, ho, hx, hy rfl]; first | done | simp [go_sem])
  | false => exact gl_val (by simp [execOp, ho, hx, hc]; first | done | simp [go_sem])
/-- '||' -/
theorem gl_or {x y : Operand} {b c r : Bool} (ho : o.op = .pick x (.const (.bool true)) y) (hx : a.eval x = .bool b) (hy : b = false → a.eval y = .bool c) (hr : r = (b || c)) : Gw o a u Q (.val (.bool r)) := by
  subst hr
  have hc : a.eval (.const (.bool true)) = .bool true := rfl
  cases b with
  | false => exact gl_val (by simp [execOp, ho, hx, hy rfl]; first | done | simp [go_sem])
  | true => exact gl_val (by simp [execOp, ho, hx, hc]; first | done | simp [go_sem])
theorem gl_names1 {l : List UInt8} (t : ByteArray) (ho : o.op = .buildSlice 23 1 #[(0, .const (.string t))]) (ht : t = S l) : Gw o a u Q (.names [l]) := by
  subst ht
  obtain ⟨i0, hi0, hz0, hz1, hz2⟩ := info_parts info_name
  refine wp_buildSlice 23 9 1 _ ho #[.string (S l)] i0 _ Tryz.underlying23 hi0 hz0 (by rw [hz1]; decide) (by rw [hz1]; decide) ?_ ⟨_, rfl, ⟨_, rfl, heap_alloc_new u _⟩, (Below.refl _ _).alloc (Nat.le_refl _) _⟩
  rw [hz1, show (#[(0, Operand.const (.string (S l)))].map fun y : Nat × Operand => (y.1, a.eval y.2)).toList = [(0, Value.string (S l))] by simp [Act.eval]]
  exact fill_str (S l)
theorem fill_str2 (t t' : ByteArray) : Instr.fill (fun i => some (i * 1, 1)) ((Array.range (2 * 1)).map ((Value.string ⟨#[]⟩).cells[· % (Value.string ⟨#[]⟩).cells.size]!)) [(0, .string t), (1, .string t')] = some #[.string t, .string t'] := by kernel_rfl
theorem gl_names2 {l l' : List UInt8} (t t' : ByteArray) (ho : o.op = .buildSlice 23 2 #[(0, .const (.string t)), (1, .const (.string t'))]) (ht : t = S l) (ht' : t' = S l') : Gw o a u Q (.names [l, l']) := by
  subst ht ht'
  obtain ⟨i0, hi0, hz0, hz1, hz2⟩ := info_parts info_name
  refine wp_buildSlice 23 9 2 _ ho #[.string (S l), .string (S l')] i0 _ Tryz.underlying23 hi0 hz0 (by rw [hz1]; decide) (by rw [hz1]; decide) ?_ ⟨_, rfl, ⟨_, rfl, heap_alloc_new u _⟩, (Below.refl _ _).alloc (Nat.le_refl _) _⟩
  rw [hz1, show (#[(0, Operand.const (.string (S l))), (1, Operand.const (.string (S l')))].map fun y : Nat × Operand => (y.1, a.eval y.2)).toList = [(0, Value.string (S l)), (1, Value.string (S l'))] by simp [Act.eval]]
  exact fill_str2 (S l) (S l')
theorem gl_items1 {x : Operand} {X : JV} (ho : o.op = .buildSlice 24 1 #[(0, x)]) (hx : HV u (a.eval x) X) : Gw o a u Q (.items [X]) := by
  obtain ⟨i0, hi0, hz0, hz1, hz2⟩ := info_parts info_val
  obtain ⟨cs, he, hc⟩ := hx
  obtain ⟨ya, yb, yca, ycb, rfl, _⟩ := hc.form
  have ba : Below u.heap.size u (u.alloc (.cells #[.int .u8 (X.k : Int), .int .i64 X.n, .string (S X.t), .slice ya X.ns.length yca, .slice yb X.is.length ycb] 26)) := (Below.refl _ _).alloc (Nat.le_refl _) _
  refine wp_buildSlice 24 26 1 _ ho #[.int .u8 (X.k : Int), .int .i64 X.n, .string (S X.t), .slice ya X.ns.length yca, .slice yb X.is.length ycb] i0 _ Tryz.underlying24 hi0 hz0 (by rw [hz1]; decide) (by rw [hz1]; decide) ?_ ⟨_, rfl, ⟨u.heap.size, _, rfl, heap_alloc_new u _, HCS.one (HC.below ba _ _ hc)⟩, ba⟩
  rw [hz1, show (#[(0, x)].map fun y : Nat × Operand => (y.1, a.eval y.2)).toList = [(0, Value.agg #[.int .u8 (X.k : Int), .int .i64 X.n, .string (S X.t), .slice ya X.ns.length yca, .slice yb X.is.length ycb])] by simp [he]]
  exact fill_val _ _ _ _ _
theorem fill_val2 (c0 c1 c2 c3 c4 d0 d1 d2 d3 d4 : Value) : Instr.fill (fun i => some (i * 5, 5)) ((Array.range (2 * 5)).map ((Value.agg V5).cells[· % (Value.agg V5).cells.size]!)) [(0, .agg #[c0, c1, c2, c3, c4]), (1, .agg #[d0, d1, d2, d3, d4])] = some #[c0, c1, c2, c3, c4, d0, d1, d2, d3, d4] := by kernel_rfl
theorem gl_items2 {x y : Operand} {X Y : JV} (ho : o.op = .buildSlice 24 2 #[(0, x), (1, y)]) (hx : HV u (a.eval x) X) (hy : HV u (a.eval y) Y) : Gw o a u Q (.items [X, Y]) := by
  obtain ⟨i0, hi0, hz0, hz1, hz2⟩ := info_parts info_val
  obtain ⟨cs, he, hc⟩ := hx
  obtain ⟨ya, yb, yca, ycb, rfl, _⟩ := hc.form
  obtain ⟨cs, he', hc'⟩ := hy
  obtain ⟨za, zb, zca, zcb, rfl, _⟩ := hc'.form
  have ba : Below u.heap.size u (u.alloc (.cells #[.int .u8 (X.k : Int), .int .i64 X.n, .string (S X.t), .slice ya X.ns.length yca, .slice yb X.is.length ycb, .int .u8 (Y.k : Int), .int .i64 Y.n, .string (S Y.t), .slice za Y.ns.length zca, .slice zb Y.is.length zcb] 26)) := (Below.refl _ _).alloc (Nat.le_refl _) _
  refine wp_buildSlice 24 26 2 _ ho #[.int .u8 (X.k : Int), .int .i64 X.n, .string (S X.t), .slice ya X.ns.length yca, .slice yb X.is.length ycb, .int .u8 (Y.k : Int), .int .i64 Y.n, .string (S Y.t), .slice za Y.ns.length zca, .slice zb Y.is.length zcb] i0 _ Tryz.underlying24 hi0 hz0 (by rw [hz1]; decide) (by rw [hz1]; decide) ?_ ⟨_, rfl, ⟨u.heap.size, _, rfl, heap_alloc_new u _, HCS.snoc (HC.below ba _ _ hc') (HCS.one (HC.below ba _ _ hc))⟩, ba⟩
  rw [hz1, show (#[(0, x), (1, y)].map fun y : Nat × Operand => (y.1, a.eval y.2)).toList = [(0, Value.agg #[.int .u8 (X.k : Int), .int .i64 X.n, .string (S X.t), .slice ya X.ns.length yca, .slice yb X.is.length ycb]), (1, Value.agg #[.int .u8 (Y.k : Int), .int .i64 Y.n, .string (S Y.t), .slice za Y.ns.length zca, .slice zb Y.is.length zcb])] by simp [he, he']]
  exact fill_val2 _ _ _ _ _ _ _ _ _ _
theorem gl_mk {n : Nat} (ho : o.op = .makeSlice 36 (.const (.int .i64 (n : Int))) (.const (.int .i64 (n : Int)))) (hn : n ≤ 100000000) : Gw o a u Q (.zs n) := by
  have hc : a.eval (.const (.int .i64 (n : Int))) = .int .i64 (n : Int) := rfl
  exact wp_val (by simp only [execOp, ho, hc]; rw [Sem.run_bind, run_make_zs n n rfl hn u]; rfl) ⟨_, rfl, ⟨_, rfl, heap_alloc_new u _⟩, (Below.refl _ _).alloc (Nat.le_refl _) _⟩
theorem gl_conv {x : Operand} {n : Nat} (ho : o.op = .convert 36 9 x) (hx : FD (.zs n) u (a.eval x)) : Gw o a u Q (.val (.string (S (Zs n)))) := by
  obtain ⟨b, h1, h2⟩ := hx
  have := conv_zs u b n h2
  exact gl_val (by simp only [execOp, ho, h1]; rw [Sem.run_bind, this]; rfl)
end
end
end

section
open Go.RowKit

section
variable {Q : Exit → Act → World → Prop} {a : Act} {u : World} {o : Oper}
theorem gl_addi {x y : Operand} {b c : Int} (ho : o.op = .binOp .add 3 x y 3) (hx : a.eval x = .int .i64 b) (hy : a.eval y = .int .i64 c) (h0 : 0 ≤ b + c) (h1 : b + c ≤ 1000000) : Gw o a u Q (.val (.int .i64 (b + c))) := gl_val (by
  have hw : IntKind.i64.wrap (b + c) = b + c := by simp [IntKind.wrap, IntKind.bits, IntKind.signed]; omega
  simp [execOp, ho, hx, hy, eqGuard]
  simp [go_sem, binOp, hw])
theorem gl_addc {x : Operand} {b c : Int} (ho : o.op = .binOp .add 3 x (.const (.int .i64 c)) 3) (hx : a.eval x = .int .i64 b) (h0 : 0 ≤ b + c) (h1 : b + c ≤ 1000000) : Gw o a u Q (.val (.int .i64 (b + c))) := gl_addi ho hx rfl h0 h1
theorem gl_gtc {x : Operand} {b c : Int} {r : Bool} (ho : o.op = .binOp .gtr 3 x (.const (.int .i64 c)) 3) (hx : a.eval x = .int .i64 b) (hr : decide (b > c) = r) : Gw o a u Q (.val (.bool r)) := gl_val (by
  subst hr
  have hc : a.eval (.const (.int .i64 c)) = .int .i64 c := rfl
  simp [execOp, ho, hx, hc, eqGuard]
  simp [go_sem, binOp])
theorem gl_gec {x : Operand} {b c : Int} {r : Bool} (ho : o.op = .binOp .geq 3 x (.const (.int .i64 c)) 3) (hx : a.eval x = .int .i64 b) (hr : decide (b ≥ c) = r) : Gw o a u Q (.val (.bool r)) := gl_val (by
  subst hr
  have hc : a.eval (.const (.int .i64 c)) = .int .i64 c := rfl
  simp [execOp, ho, hx, hc, eqGuard]
  simp [go_sem, binOp])
end
def Tft : List (Option Tmp × Op × Option (Nat × Bool) × List Nat) :=
  [(some 6, Op.load 26 (Operand.tmp 2), none, []),
   (some 7, Op.call { callee := Callee.value (Operand.func 33), args := #[Operand.tmp 6], argTypes := #[26] }, none, [0]),
   (some 8, Op.load 26 (Operand.tmp 3), none, []),
   (some 9, Op.call { callee := Callee.value (Operand.func 33), args := #[Operand.tmp 8], argTypes := #[26] }, none, [2, 1]),
   (some 10, Op.binOp BinOp.add 3 (Operand.tmp 7) (Operand.tmp 9) 3, none, [1, 3]),
   (some 11, Op.binOp BinOp.add 3 (Operand.tmp 10) (Operand.const (Value.int IntKind.i64 1)) 3, none, [4]),
   (some 12, Op.binOp BinOp.gtr 3 (Operand.tmp 11) (Operand.const (Value.int IntKind.i64 8192)) 3, none, [5]),
   (some 13, Op.load 26 (Operand.tmp 2), none, []),
   (some 14, Op.call { callee := Callee.value (Operand.func 34), args := #[Operand.tmp 13], argTypes := #[26] }, none, [7, 3]),
   (some 15, Op.binOp BinOp.geq 3 (Operand.tmp 14) (Operand.const (Value.int IntKind.i64 12)) 3, none, [8]),
   (some 16, Op.move (Operand.tmp 15), none, [9, 8]),
   (some 17, Op.load 26 (Operand.tmp 3), some (10, false), [10]),
   (some 18, Op.call { callee := Callee.value (Operand.func 34), args := #[Operand.tmp 17], argTypes := #[26] }, some (10, false), [11, 10, 10]),
   (some 19, Op.binOp BinOp.geq 3 (Operand.tmp 18) (Operand.const (Value.int IntKind.i64 12)) 3, some (10, false), [12, 10]),
   (some 20, Op.pick (Operand.tmp 16) (Operand.const (Value.bool true)) (Operand.tmp 19), none, [10, 13]),
   (some 4, Op.assign (Operand.tmp 12), none, [6, 12, 0, 1, 2, 3, 4, 5, 6]),
   (some 5, Op.assign (Operand.tmp 20), none, [14, 15, 0, 1, 2, 3, 4, 5, 6, 7, 8, 9, 10, 11, 12, 13, 14, 15])]
def Sft : List Nat := [6, 7, 8, 9, 10, 11, 12, 13, 14, 15, 16, 17, 18, 19, 20, 4, 5]
def Dft (k : Nat) : Nat := Sft.getD k 0
def pft (i : Nat) : Bool := Sft.contains i
set_option maxRecDepth 100000 in
theorem injft : ∀ i, i < 17 → ∀ j, j < 17 → Dft i = Dft j → i = j := by decide +kernel
set_option maxHeartbeats 8000000 in
set_option maxRecDepth 100000 in
theorem region_ft {ops : Array Oper} {Q : Exit → Act → World → Prop} {A : Act} {id : Nat} {w1 : World}
    (hkey : ops.toList.map keyG = Tft) (hlow : (List.range ops.size).all (fun i => match ops[i]? with | some o => o.after.all (fun e => !Region.binds .any e || decide (e.on < i)) | none => true) = true)
    (hsz : 20 < A.tmps.size) {X Y : JV} {M E : Bool} {xb yb : Nat} {a0 a1 a2 a3 a4 b0 b1 b2 b3 b4 : Value} (e2 : A.eval (.tmp 2) = .pointer (some ⟨xb, 0, none⟩)) (e3 : A.eval (.tmp 3) = .pointer (some ⟨yb, 0, none⟩))
    (V2 : VAt xb w1 a0 a1 a2 a3 a4) (V3 : VAt yb w1 b0 b1 b2 b3 b4) (H2 : HV w1 (.agg #[a0, a1, a2, a3, a4]) X) (H3 : HV w1 (.agg #[b0, b1, b2, b3, b4]) Y) (hcX : X.cnt ≤ 90000) (hcY : Y.cnt ≤ 90000)
    (hM : decide (((X.cnt : Int) + (Y.cnt : Int) + 1) > 8192) = M) (hD : decide ((X.dep : Int) ≥ 12) = true) (_hE : decide ((Y.dep : Int) ≥ 12) = E)
    (fin : ∀ (f : Nat → Value) u, FD (.val (.bool M)) u (f 4) → FD (.val (.bool true)) u (f 5) → Below w1.heap.size w1 u → Q .normal (putR A pft f) u) : (Code.region id ops true).wp Tryz.prog Q A w1 := by
  refine wp_region_grow (by kernel_rfl) Tft hkey hlow pft Dft ?_ injft (Fl [(.jv X), (.val (.int .i64 (X.cnt : Int))), (.jv Y), (.val (.int .i64 (Y.cnt : Int))), (.val (.int .i64 ((X.cnt : Int) + (Y.cnt : Int)))), (.val (.int .i64 ((X.cnt : Int) + (Y.cnt : Int) + 1))), (.val (.bool M)), (.jv X), (.val (.int .i64 (X.dep : Int))), (.val (.bool true)), (.val (.bool true)), (.val undef), (.val undef), (.val undef), (.val (.bool true)), (.val (.bool M)), (.val (.bool true))]) (fun k u u2 v hb h => Fl.below _ k u u2 v hb h) (Gl [(.jv X), (.val (.int .i64 (X.cnt : Int))), (.jv Y), (.val (.int .i64 (Y.cnt : Int))), (.val (.int .i64 ((X.cnt : Int) + (Y.cnt : Int)))), (.val (.int .i64 ((X.cnt : Int) + (Y.cnt : Int) + 1))), (.val (.bool M)), (.jv X), (.val (.int .i64 (X.dep : Int))), (.val (.bool true)), (.val (.bool true)), (.val undef), (.val undef), (.val undef), (.val (.bool true)), (.val (.bool M)), (.val (.bool true))]) (fun k c u v h1 h2 => Gl.val _ k c u v h1 h2) ?_ ?_ ?_ ?_
  · intro k y hy
    rcases k with _ | _ | _ | _ | _ | _ | _ | _ | _ | _ | _ | _ | _ | _ | _ | _ | _ | k
    all_goals simp only [Tft, List.getElem?_cons_zero, List.getElem?_cons_succ, List.getElem?_nil, Option.some.injEq, reduceCtorEq] at hy
    all_goals subst hy
    all_goals exact ⟨rfl, rfl, Nat.lt_of_le_of_lt (by show (_ : Nat) ≤ 20; decide) hsz⟩
  · intro k y g b hy hg
    rcases k with _ | _ | _ | _ | _ | _ | _ | _ | _ | _ | _ | _ | _ | _ | _ | _ | _ | k
    all_goals simp only [Tft, List.getElem?_cons_zero, List.getElem?_cons_succ, List.getElem?_nil, Option.some.injEq, reduceCtorEq] at hy
    all_goals subst hy
    all_goals first | (cases hg; done) | (have h2 := Prod.mk.inj (Option.some.inj hg); obtain ⟨rfl, rfl⟩ := h2; exact ⟨by simp, _, rfl⟩)
  · intro k y u hy hw
    rcases k with _ | _ | _ | _ | _ | _ | _ | _ | _ | _ | _ | _ | _ | _ | _ | _ | _ | k
    all_goals simp only [Tft, List.getElem?_cons_zero, List.getElem?_cons_succ, List.getElem?_nil, Option.some.injEq, reduceCtorEq] at hy
    all_goals subst hy
    all_goals first | exact rfl | exact Bool.noConfusion (show true = false from hw)
  · intro k y a u hy hw hb hout hdep o hd hop
    rcases k with _ | _ | _ | _ | _ | _ | _ | _ | _ | _ | _ | _ | _ | _ | _ | _ | _ | k
    all_goals simp only [Tft, List.getElem?_cons_zero, List.getElem?_cons_succ, List.getElem?_nil, Option.some.injEq, reduceCtorEq] at hy
    all_goals subst hy
    · exact gl_load hop ((hout 2 rfl).trans e2) (V2.below hb) (H2.below hb)
    · exact gl_call (d := (.val (.int .i64 (X.cnt : Int)))) 33 (args := #[a.eval (.tmp 6)]) hop (by simp only [List.map_toArray, List.map_cons, List.map_nil] <;> rfl) (fun args w => by kernel_rfl) (gl_ret (refCount_any _ X (Nat.le_refl _) hcX u _ (show FD (.jv X) u (a.eval (.tmp 6)) from hdep 0 (by simp))))
    · exact gl_load hop ((hout 3 rfl).trans e3) (V3.below hb) (H3.below hb)
    · exact gl_call (d := (.val (.int .i64 (Y.cnt : Int)))) 33 (args := #[a.eval (.tmp 8)]) hop (by simp only [List.map_toArray, List.map_cons, List.map_nil] <;> rfl) (fun args w => by kernel_rfl) (gl_ret (refCount_any _ Y (Nat.le_refl _) hcY u _ (show FD (.jv Y) u (a.eval (.tmp 8)) from hdep 2 (by simp))))
    · exact gl_addi hop (show FD (.val (.int .i64 (X.cnt : Int))) u (a.eval (.tmp 7)) from hdep 1 (by simp)) (show FD (.val (.int .i64 (Y.cnt : Int))) u (a.eval (.tmp 9)) from hdep 3 (by simp)) (by omega) (by omega)
    · exact gl_addc hop (show FD (.val (.int .i64 ((X.cnt : Int) + (Y.cnt : Int)))) u (a.eval (.tmp 10)) from hdep 4 (by simp)) (by omega) (by omega)
    · exact gl_gtc hop (show FD (.val (.int .i64 ((X.cnt : Int) + (Y.cnt : Int) + 1))) u (a.eval (.tmp 11)) from hdep 5 (by simp)) hM
    · exact gl_load hop ((hout 2 rfl).trans e2) (V2.below hb) (H2.below hb)
    · exact gl_call (d := (.val (.int .i64 (X.dep : Int)))) 34 (args := #[a.eval (.tmp 13)]) hop (by simp only [List.map_toArray, List.map_cons, List.map_nil] <;> rfl) (fun args w => by kernel_rfl) (gl_ret (refDepth_any _ X (Nat.le_refl _) hcX u _ (show FD (.jv X) u (a.eval (.tmp 13)) from hdep 7 (by simp))))
    · exact gl_gec hop (show FD (.val (.int .i64 (X.dep : Int))) u (a.eval (.tmp 14)) from hdep 8 (by simp)) hD
    · exact gl_move (d := (.val (.bool true))) hop (show FD (.val (.bool true)) u (a.eval (.tmp 15)) from hdep 9 (by simp))
    · exact Bool.noConfusion (show false = true from hw)
    · exact Bool.noConfusion (show false = true from hw)
    · exact Bool.noConfusion (show false = true from hw)
    · exact gl_or (c := true) hop (show FD (.val (.bool true)) u (a.eval (.tmp 16)) from hdep 10 (by simp)) (fun h => Bool.noConfusion h) rfl
    · exact gl_assign (d := (.val (.bool M))) hop (show FD (.val (.bool M)) u (a.eval (.tmp 12)) from hdep 6 (by simp))
    · exact gl_assign (d := (.val (.bool true))) hop (show FD (.val (.bool true)) u (a.eval (.tmp 20)) from hdep 14 (by simp))
  · intro f u hall hb
    exact fin f u (hall 15 (by decide)) (hall 16 (by decide)) hb
def Tff : List (Option Tmp × Op × Option (Nat × Bool) × List Nat) :=
  [(some 6, Op.load 26 (Operand.tmp 2), none, []),
   (some 7, Op.call { callee := Callee.value (Operand.func 33), args := #[Operand.tmp 6], argTypes := #[26] }, none, [0]),
   (some 8, Op.load 26 (Operand.tmp 3), none, []),
   (some 9, Op.call { callee := Callee.value (Operand.func 33), args := #[Operand.tmp 8], argTypes := #[26] }, none, [2, 1]),
   (some 10, Op.binOp BinOp.add 3 (Operand.tmp 7) (Operand.tmp 9) 3, none, [1, 3]),
   (some 11, Op.binOp BinOp.add 3 (Operand.tmp 10) (Operand.const (Value.int IntKind.i64 1)) 3, none, [4]),
   (some 12, Op.binOp BinOp.gtr 3 (Operand.tmp 11) (Operand.const (Value.int IntKind.i64 8192)) 3, none, [5]),
   (some 13, Op.load 26 (Operand.tmp 2), none, []),
   (some 14, Op.call { callee := Callee.value (Operand.func 34), args := #[Operand.tmp 13], argTypes := #[26] }, none, [7, 3]),
   (some 15, Op.binOp BinOp.geq 3 (Operand.tmp 14) (Operand.const (Value.int IntKind.i64 12)) 3, none, [8]),
   (some 16, Op.move (Operand.tmp 15), none, [9, 8]),
   (some 17, Op.load 26 (Operand.tmp 3), some (10, false), [10]),
   (some 18, Op.call { callee := Callee.value (Operand.func 34), args := #[Operand.tmp 17], argTypes := #[26] }, some (10, false), [11, 10, 10]),
   (some 19, Op.binOp BinOp.geq 3 (Operand.tmp 18) (Operand.const (Value.int IntKind.i64 12)) 3, some (10, false), [12, 10]),
   (some 20, Op.pick (Operand.tmp 16) (Operand.const (Value.bool true)) (Operand.tmp 19), none, [10, 13]),
   (some 4, Op.assign (Operand.tmp 12), none, [6, 12, 0, 1, 2, 3, 4, 5, 6]),
   (some 5, Op.assign (Operand.tmp 20), none, [14, 15, 0, 1, 2, 3, 4, 5, 6, 7, 8, 9, 10, 11, 12, 13, 14, 15])]
def Sff : List Nat := [6, 7, 8, 9, 10, 11, 12, 13, 14, 15, 16, 17, 18, 19, 20, 4, 5]
def Dff (k : Nat) : Nat := Sff.getD k 0
def pff (i : Nat) : Bool := Sff.contains i
set_option maxRecDepth 100000 in
theorem injff : ∀ i, i < 17 → ∀ j, j < 17 → Dff i = Dff j → i = j := by decide +kernel
set_option maxHeartbeats 8000000 in
set_option maxRecDepth 100000 in
theorem region_ff {ops : Array Oper} {Q : Exit → Act → World → Prop} {A : Act} {id : Nat} {w1 : World}
    (hkey : ops.toList.map keyG = Tff) (hlow : (List.range ops.size).all (fun i => match ops[i]? with | some o => o.after.all (fun e => !Region.binds .any e || decide (e.on < i)) | none => true) = true)
    (hsz : 20 < A.tmps.size) {X Y : JV} {M E : Bool} {xb yb : Nat} {a0 a1 a2 a3 a4 b0 b1 b2 b3 b4 : Value} (e2 : A.eval (.tmp 2) = .pointer (some ⟨xb, 0, none⟩)) (e3 : A.eval (.tmp 3) = .pointer (some ⟨yb, 0, none⟩))
    (V2 : VAt xb w1 a0 a1 a2 a3 a4) (V3 : VAt yb w1 b0 b1 b2 b3 b4) (H2 : HV w1 (.agg #[a0, a1, a2, a3, a4]) X) (H3 : HV w1 (.agg #[b0, b1, b2, b3, b4]) Y) (hcX : X.cnt ≤ 90000) (hcY : Y.cnt ≤ 90000)
    (hM : decide (((X.cnt : Int) + (Y.cnt : Int) + 1) > 8192) = M) (hD : decide ((X.dep : Int) ≥ 12) = false) (hE : decide ((Y.dep : Int) ≥ 12) = E)
    (fin : ∀ (f : Nat → Value) u, FD (.val (.bool M)) u (f 4) → FD (.val (.bool (false || E))) u (f 5) → Below w1.heap.size w1 u → Q .normal (putR A pff f) u) : (Code.region id ops true).wp Tryz.prog Q A w1 := by
  refine wp_region_grow (by kernel_rfl) Tff hkey hlow pff Dff ?_ injff (Fl [(.jv X), (.val (.int .i64 (X.cnt : Int))), (.jv Y), (.val (.int .i64 (Y.cnt : Int))), (.val (.int .i64 ((X.cnt : Int) + (Y.cnt : Int)))), (.val (.int .i64 ((X.cnt : Int) + (Y.cnt : Int) + 1))), (.val (.bool M)), (.jv X), (.val (.int .i64 (X.dep : Int))), (.val (.bool false)), (.val (.bool false)), (.jv Y), (.val (.int .i64 (Y.dep : Int))), (.val (.bool E)), (.val (.bool (false || E))), (.val (.bool M)), (.val (.bool (false || E)))]) (fun k u u2 v hb h => Fl.below _ k u u2 v hb h) (Gl [(.jv X), (.val (.int .i64 (X.cnt : Int))), (.jv Y), (.val (.int .i64 (Y.cnt : Int))), (.val (.int .i64 ((X.cnt : Int) + (Y.cnt : Int)))), (.val (.int .i64 ((X.cnt : Int) + (Y.cnt : Int) + 1))), (.val (.bool M)), (.jv X), (.val (.int .i64 (X.dep : Int))), (.val (.bool false)), (.val (.bool false)), (.jv Y), (.val (.int .i64 (Y.dep : Int))), (.val (.bool E)), (.val (.bool (false || E))), (.val (.bool M)), (.val (.bool (false || E)))]) (fun k c u v h1 h2 => Gl.val _ k c u v h1 h2) ?_ ?_ ?_ ?_
  · intro k y hy
    rcases k with _ | _ | _ | _ | _ | _ | _ | _ | _ | _ | _ | _ | _ | _ | _ | _ | _ | k
    all_goals simp only [Tff, List.getElem?_cons_zero, List.getElem?_cons_succ, List.getElem?_nil, Option.some.injEq, reduceCtorEq] at hy
    all_goals subst hy
    all_goals exact ⟨rfl, rfl, Nat.lt_of_le_of_lt (by show (_ : Nat) ≤ 20; decide) hsz⟩
  · intro k y g b hy hg
    rcases k with _ | _ | _ | _ | _ | _ | _ | _ | _ | _ | _ | _ | _ | _ | _ | _ | _ | k
    all_goals simp only [Tff, List.getElem?_cons_zero, List.getElem?_cons_succ, List.getElem?_nil, Option.some.injEq, reduceCtorEq] at hy
    all_goals subst hy
    all_goals first | (cases hg; done) | (have h2 := Prod.mk.inj (Option.some.inj hg); obtain ⟨rfl, rfl⟩ := h2; exact ⟨by simp, _, rfl⟩)
  · intro k y u hy hw
    rcases k with _ | _ | _ | _ | _ | _ | _ | _ | _ | _ | _ | _ | _ | _ | _ | _ | _ | k
    all_goals simp only [Tff, List.getElem?_cons_zero, List.getElem?_cons_succ, List.getElem?_nil, Option.some.injEq, reduceCtorEq] at hy
    all_goals subst hy
    all_goals first | exact rfl | exact Bool.noConfusion (show true = false from hw)
  · intro k y a u hy hw hb hout hdep o hd hop
    rcases k with _ | _ | _ | _ | _ | _ | _ | _ | _ | _ | _ | _ | _ | _ | _ | _ | _ | k
    all_goals simp only [Tff, List.getElem?_cons_zero, List.getElem?_cons_succ, List.getElem?_nil, Option.some.injEq, reduceCtorEq] at hy
    all_goals subst hy
    · exact gl_load hop ((hout 2 rfl).trans e2) (V2.below hb) (H2.below hb)
    · exact gl_call (d := (.val (.int .i64 (X.cnt : Int)))) 33 (args := #[a.eval (.tmp 6)]) hop (by simp only [List.map_toArray, List.map_cons, List.map_nil] <;> rfl) (fun args w => by kernel_rfl) (gl_ret (refCount_any _ X (Nat.le_refl _) hcX u _ (show FD (.jv X) u (a.eval (.tmp 6)) from hdep 0 (by simp))))
    · exact gl_load hop ((hout 3 rfl).trans e3) (V3.below hb) (H3.below hb)
    · exact gl_call (d := (.val (.int .i64 (Y.cnt : Int)))) 33 (args := #[a.eval (.tmp 8)]) hop (by simp only [List.map_toArray, List.map_cons, List.map_nil] <;> rfl) (fun args w => by kernel_rfl) (gl_ret (refCount_any _ Y (Nat.le_refl _) hcY u _ (show FD (.jv Y) u (a.eval (.tmp 8)) from hdep 2 (by simp))))
    · exact gl_addi hop (show FD (.val (.int .i64 (X.cnt : Int))) u (a.eval (.tmp 7)) from hdep 1 (by simp)) (show FD (.val (.int .i64 (Y.cnt : Int))) u (a.eval (.tmp 9)) from hdep 3 (by simp)) (by omega) (by omega)
    · exact gl_addc hop (show FD (.val (.int .i64 ((X.cnt : Int) + (Y.cnt : Int)))) u (a.eval (.tmp 10)) from hdep 4 (by simp)) (by omega) (by omega)
    · exact gl_gtc hop (show FD (.val (.int .i64 ((X.cnt : Int) + (Y.cnt : Int) + 1))) u (a.eval (.tmp 11)) from hdep 5 (by simp)) hM
    · exact gl_load hop ((hout 2 rfl).trans e2) (V2.below hb) (H2.below hb)
    · exact gl_call (d := (.val (.int .i64 (X.dep : Int)))) 34 (args := #[a.eval (.tmp 13)]) hop (by simp only [List.map_toArray, List.map_cons, List.map_nil] <;> rfl) (fun args w => by kernel_rfl) (gl_ret (refDepth_any _ X (Nat.le_refl _) hcX u _ (show FD (.jv X) u (a.eval (.tmp 13)) from hdep 7 (by simp))))
    · exact gl_gec hop (show FD (.val (.int .i64 (X.dep : Int))) u (a.eval (.tmp 14)) from hdep 8 (by simp)) hD
    · exact gl_move (d := (.val (.bool false))) hop (show FD (.val (.bool false)) u (a.eval (.tmp 15)) from hdep 9 (by simp))
    · exact gl_load hop ((hout 3 rfl).trans e3) (V3.below hb) (H3.below hb)
    · exact gl_call (d := (.val (.int .i64 (Y.dep : Int)))) 34 (args := #[a.eval (.tmp 17)]) hop (by simp only [List.map_toArray, List.map_cons, List.map_nil] <;> rfl) (fun args w => by kernel_rfl) (gl_ret (refDepth_any _ Y (Nat.le_refl _) hcY u _ (show FD (.jv Y) u (a.eval (.tmp 17)) from hdep 11 (by simp))))
    · exact gl_gec hop (show FD (.val (.int .i64 (Y.dep : Int))) u (a.eval (.tmp 18)) from hdep 12 (by simp)) hE
    · exact gl_or hop (show FD (.val (.bool false)) u (a.eval (.tmp 16)) from hdep 10 (by simp)) (fun _ => (show FD (.val (.bool E)) u (a.eval (.tmp 19)) from hdep 13 (by simp))) rfl
    · exact gl_assign (d := (.val (.bool M))) hop (show FD (.val (.bool M)) u (a.eval (.tmp 12)) from hdep 6 (by simp))
    · exact gl_assign (d := (.val (.bool (false || E)))) hop (show FD (.val (.bool (false || E))) u (a.eval (.tmp 20)) from hdep 14 (by simp))
  · intro f u hall hb
    exact fin f u (hall 15 (by decide)) (hall 16 (by decide)) hb
set_option maxHeartbeats 4000000 in
set_option maxRecDepth 4000 in
theorem fits_any (x y : JV) (v u : Value) (w : World) (hv : HV w v x) (hu : HV w u y) (hx : x.cnt ≤ 90000) (hy : y.cnt ≤ 90000) {M D : Bool} (hM : decide (8192 < x.cnt + y.cnt + 1) = M) (hD : (decide (12 ≤ x.dep) || decide (12 ≤ y.dep)) = D) :
    Calls Tryz.prog 21 #[v, u] w fun e w' => e = .returned (.tuple #[.bool M, .bool D]) ∧ Below w.heap.size w w' := by
  obtain ⟨cs, rfl, hc⟩ := hv
  obtain ⟨a, c, ca, cb, rfl, _, _, _⟩ := hc.form
  obtain ⟨cs, rfl, hd⟩ := hu
  obtain ⟨a', c', ca', cb', rfl, _, _, _⟩ := hd.form
  obtain ⟨K, hK⟩ : ∃ z : Int, z = (x.k : Int) := ⟨_, rfl⟩
  obtain ⟨N, hNN⟩ : ∃ z : Int, z = x.n := ⟨_, rfl⟩
  obtain ⟨T, hTT⟩ : ∃ z : ByteArray, z = S x.t := ⟨_, rfl⟩
  obtain ⟨p, hp⟩ : ∃ z : Nat, z = x.ns.length := ⟨_, rfl⟩
  obtain ⟨r, hr⟩ : ∃ z : Nat, z = x.is.length := ⟨_, rfl⟩
  obtain ⟨K', hK'⟩ : ∃ z : Int, z = (y.k : Int) := ⟨_, rfl⟩
  obtain ⟨N', hNN'⟩ : ∃ z : Int, z = y.n := ⟨_, rfl⟩
  obtain ⟨T', hTT'⟩ : ∃ z : ByteArray, z = S y.t := ⟨_, rfl⟩
  obtain ⟨p', hp'⟩ : ∃ z : Nat, z = y.ns.length := ⟨_, rfl⟩
  obtain ⟨r', hr'⟩ : ∃ z : Nat, z = y.is.length := ⟨_, rfl⟩
  have hv : HV w (.agg #[.int .u8 K, .int .i64 N, .string T, .slice a p ca, .slice c r cb]) x := by rw [hK, hNN, hTT, hp, hr]; exact ⟨_, rfl, hc⟩
  have hu : HV w (.agg #[.int .u8 K', .int .i64 N', .string T', .slice a' p' ca', .slice c' r' cb']) y := by rw [hK', hNN', hTT', hp', hr']; exact ⟨_, rfl, hd⟩
  rw [← hK, ← hNN, ← hTT, ← hp, ← hr, ← hK', ← hNN', ← hTT', ← hp', ← hr']
  show Calls _ _ #[.agg #[.int .u8 K, .int .i64 N, .string T, .slice a p ca, .slice c r cb], .agg #[.int .u8 K', .int .i64 N', .string T', .slice a' p' ca', .slice c' r' cb']] w _
  clear hc hd hK hNN hTT hp hr hK' hNN' hTT' hp' hr'
  obtain ⟨q, hq⟩ : ∃ q, q = w.heap.size := ⟨_, rfl⟩
  obtain ⟨W1, hW1⟩ : ∃ W, W = w.alloc (.cells #[.int .u8 K, .int .i64 N, .string T, .slice a p ca, .slice c r cb] 26) := ⟨_, rfl⟩
  obtain ⟨W2, hW2⟩ : ∃ W, W = W1.alloc (.cells #[.int .u8 K', .int .i64 N', .string T', .slice a' p' ca', .slice c' r' cb'] 26) := ⟨_, rfl⟩
  have s1 : W1.heap.size = q + 1 := by rw [hW1, hq]; simp
  have b1 : Below w.heap.size w W1 := by rw [hW1]; exact (Below.refl _ _).alloc (Nat.le_refl _) _
  have b2 : Below W1.heap.size W1 W2 := by rw [hW2]; exact (Below.refl _ _).alloc (Nat.le_refl _) _
  have B2 : Below w.heap.size w W2 := b1.trans (b2.mono b1.size)
  have V1 : VAt q W1 (.int .u8 K) (.int .i64 N) (.string T) (.slice a p ca) (.slice c r cb) := by rw [hW1, hq]; exact VAt.new ..
  have V2 : VAt (q + 1) W2 (.int .u8 K') (.int .i64 N') (.string T') (.slice a' p' ca') (.slice c' r' cb') := by rw [hW2, ← s1]; exact VAt.new ..
  have V1' := V1.below b2
  have HX := hv.below B2
  have HY := hu.below B2
  have HB2 := Lib.hid B2
  have HMM := Lib.hid hM
  have HDD := Lib.hid hD
  have HVV1 := Lib.hid V1'
  have HVV2 := Lib.hid V2
  have HHX := Lib.hid HX
  have HHY := Lib.hid HY
  have HCX := Lib.hid hx
  have HCY := Lib.hid hy
  clear s1 b1 b2 B2 V1 V2 V1' hv hu HX HY hM hD hx hy
  go_enter Tryz.func21, Tryz.ntmps21
  go_wp2_with fail
  rw [← hW1, ← hW2, ← hq]
  clear hW1 hW2 hq
  have hM2 : decide (((x.cnt : Int) + (y.cnt : Int) + 1) > 8192) = M := by rw [← HMM.out]; congr 1; apply propext; omega
  cases hd : decide ((x.dep : Int) ≥ 12) with
  | true =>
    refine region_ft (by kernel_rfl) (by kernel_rfl) (by simp) (X := x) (Y := y) (E := decide ((y.dep : Int) ≥ 12)) rfl rfl HVV1.out HVV2.out HHX.out HHY.out HCX.out HCY.out hM2 hd rfl (fun f u f0 f1 b4 => ?_)
    have f0 : f 4 = .bool M := f0
    have f1 : f 5 = .bool true := f1
    rw [putR_lit]
    simp only [putL, show ∀ i, pft i = (Sft.contains i) from fun _ => rfl, Sft]
    simp
    rw [f0, f1]
    have hD2 : D = true := by rw [← HDD.out, decide_eq_true (show 12 ≤ x.dep by have := of_decide_eq_true hd; omega)]; rfl
    go_wp2_with fail
    go_ret2
    exact ⟨by rw [hD2]; rfl, HB2.out.trans (b4.mono HB2.out.size)⟩
  | false =>
    refine region_ff (by kernel_rfl) (by kernel_rfl) (by simp) (X := x) (Y := y) (E := decide ((y.dep : Int) ≥ 12)) rfl rfl HVV1.out HVV2.out HHX.out HHY.out HCX.out HCY.out hM2 hd rfl (fun f u f0 f1 b4 => ?_)
    have f0 : f 4 = .bool M := f0
    have f1 : f 5 = .bool (false || decide ((y.dep : Int) ≥ 12)) := f1
    rw [putR_lit]
    simp only [putL, show ∀ i, pff i = (Sff.contains i) from fun _ => rfl, Sff]
    simp
    rw [f0, f1]
    have hD2 : D = (false || decide ((y.dep : Int) ≥ 12)) := by
      rw [← HDD.out, decide_eq_false (show ¬ 12 ≤ x.dep by have := of_decide_eq_false hd; omega)]
      congr 1
      congr 1
      apply propext
      omega
    go_wp2_with fail
    go_ret2
    exact ⟨by rw [hD2]; rfl, HB2.out.trans (b4.mono HB2.out.size)⟩
end

section
open Go.RowKit

/-- a name's text that begins with its mark -/
def NTx0 (l : List UInt8) (u : List UInt8) : Prop := ∃ m, Ful u [m] ∧ m.k = 10 ∧ m.t = l ∧ m.a = 0
theorem NTx0.ntx {l u : List UInt8} (h : NTx0 l u) : NTx l u := by
  obtain ⟨m, h1, h2, h3, _⟩ := h
  exact ⟨m, h1, h2, h3⟩
theorem NTx0.of {r l : List UInt8} (h : Qm.RDF r 0 = (l, r.length, 0)) : NTx0 l (34 :: r) := by
  refine ⟨⟨10, 0, 1 + r.length, 0, l⟩, stop_nil_tok ?_ (show (10 : Nat) ≠ 11 by decide) (by simp; omega), rfl, rfl, rfl⟩
  rw [Lm.tok, if_neg (by decide), if_pos rfl, h]
  rfl
theorem NTx0.quo {l : List UInt8} (hv : Um.cnt l ≠ none) (hl : l.length ≤ 4096) (h : Qm.lowB l = false) : NTx0 l (Qm.quo l) := by
  refine NTx0.of ?_
  rw [Qm.RDF_esc (l.length + 1) l [34] 0 (by omega) hv h (by omega), Qm.RDF_end, Qm.cons_ok]
  simp
theorem object_twice {s t : List UInt8} {x y : JV} {pl pl' : Nat} {l u v : List UInt8} (hu : NTx l u) (hv : NTx0 l v) (h : RdIs s x pl 0) (g : RdIs t y pl' 0) (hc : x.cnt + y.cnt + 1 ≤ 8192) (hd : x.dep < 12) (hlen : s.length + t.length + u.length + v.length + 5 ≤ 65536) :
    RdIs (123 :: (u ++ 58 :: (s ++ 44 :: (v ++ 58 :: (t ++ [125]))))) J0 (3 + u.length + s.length) 7 := by
  obtain ⟨m1, n1, k1, t1⟩ := hu
  obtain ⟨m2, n2, k2, t2, a2⟩ := hv
  obtain ⟨a, h1, h2⟩ := h.tx.1
  obtain ⟨b, g1, _⟩ := g.tx.1
  have hB := n2.glue (stop58 _) (Ful.one (c := 58) (k := 6) rfl (by decide) (g1.glue (stop125 []) (Ful.one (c := 125) (k := 2) rfl (by decide) Ful.nil)))
  obtain ⟨R, hR⟩ : ∃ R : List Lm.Mark, R = List.map (Rd.sh v.length) (⟨6, 0, 1, 0, []⟩ :: List.map (Rd.sh 1) (b ++ List.map (Rd.sh t.length) (⟨2, 0, 1, 0, []⟩ :: List.map (Rd.sh 1) []))) := ⟨_, rfl⟩
  rw [← hR] at hB
  have hW := Ful.one (c := 123) (k := 1) rfl (by decide) (n1.glue (stop58 _) (Ful.one (c := 58) (k := 6) rfl (by decide) (h1.glue (stop44 _) (Ful.one (c := 44) (k := 5) rfl (by decide) hB))))
  clear hB hR g1 n1 n2
  obtain ⟨F, hF⟩ : ∃ F : Lm.Mark → Lm.Mark, F = Rd.sh 1 ∘ (Rd.sh u.length ∘ Rd.sh 1) := ⟨_, rfl⟩
  have alF : ∀ m, Rd.Al m (F m) := fun m => by rw [hF]; exact ⟨rfl, rfl, rfl⟩
  obtain ⟨mN, hmN, kN, tN⟩ : ∃ m : Lm.Mark, m = Rd.sh 1 m1 ∧ m.k = 10 ∧ m.t = l := ⟨_, rfl, k1, t1⟩
  obtain ⟨mC, hmC, kC⟩ : ∃ m : Lm.Mark, m = Rd.sh 1 (Rd.sh u.length ⟨6, 0, 1, 0, []⟩) ∧ m.k = 6 := ⟨_, rfl, rfl⟩
  obtain ⟨m5, hm5, k5⟩ : ∃ m : Lm.Mark, m = Rd.sh 1 (Rd.sh u.length (Rd.sh 1 (Rd.sh s.length ⟨5, 0, 1, 0, []⟩))) ∧ m.k = 5 := ⟨_, rfl, rfl⟩
  obtain ⟨mT, hmT, kT, tT, aT⟩ : ∃ m : Lm.Mark, m = Rd.sh 1 (Rd.sh u.length (Rd.sh 1 (Rd.sh s.length (Rd.sh 1 m2)))) ∧ m.k = 10 ∧ m.t = l ∧ m.a = 3 + u.length + s.length :=
    ⟨_, rfl, k2, t2, by show m2.a + 1 + s.length + 1 + u.length + 1 = _; omega⟩
  obtain ⟨Z, hZ⟩ : ∃ Z : List Lm.Mark, Z = List.map (Rd.sh 1 ∘ (Rd.sh u.length ∘ (Rd.sh 1 ∘ (Rd.sh s.length ∘ Rd.sh 1)))) R := ⟨_, rfl⟩
  have hW2 : Ful (123 :: (u ++ 58 :: (s ++ 44 :: (v ++ 58 :: (t ++ [125]))))) (⟨1, 0, 1, 0, []⟩ :: mN :: mC :: (a.map F ++ (m5 :: mT :: Z))) := by
    rw [hmN, hmC, hm5, hmT, hZ, hF]
    simp only [List.map_append, List.map_cons, List.map_map, List.cons_append, List.nil_append] at hW ⊢
    exact hW
  obtain ⟨f, hP⟩ := h2 (a.map F) (als_comp F alF a) ((123 :: (u ++ 58 :: (s ++ 44 :: (v ++ 58 :: (t ++ [125]))))).length, 0) (m5 :: mT :: Z) 1 1 (by have := y.cnt_pos; omega) (by omega)
  have hQ : Rd.P ((123 :: (u ++ 58 :: (s ++ 44 :: (v ++ 58 :: (t ++ [125]))))).length, 0) (f + 1) (.o (Rd.insN mN.t []) (Rd.insI mN.t x [] [])) (mT :: Z) (1 + x.cnt) 0 = some (.bad mT.a 7) :=
    Rd.P_o' (.twice kT (by rw [tN, tT]; simp [Rd.insN]))
  have hS := Rd.P_o' (.next kN (by simp) kC (Rd.P_more hP (Nat.le_succ f)) k5 hQ)
  exact .inr ⟨by simp only [List.length_cons, List.length_append, List.length_nil]; omega, _, _, _, .bad mT.a 7, J0, mT.a, hW2, Rd.P_v' (.obj rfl (by omega) (by omega) (by omega) hS), ⟨rfl, rfl, by omega⟩, fun h => by omega, fun _ => ⟨rfl, aT.symm⟩⟩
end

section
open Go.RowKit

theorem lowB_step {l : List UInt8} {k : Nat} (h : k < l.length) : Qm.lowB (l.take (k + 1)) = (Qm.lowB (l.take k) || decide (Um.bt l k < 32)) := by
  have hb : Um.bt l k = (l[k]).toNat := by unfold Um.bt; rw [List.getD_eq_getElem?_getD, List.getElem?_eq_getElem h, Option.getD_some]
  rw [List.take_add_one, List.getElem?_eq_getElem h, Qm.lowB_append, hb]
  simp [Qm.lowB, UInt8.lt_iff_toNat_lt]
theorem lowB_part {l : List UInt8} {k : Nat} (h : Qm.lowB (l.take k) = true) : Qm.lowB l = true := by
  have h2 := Qm.lowB_append (l.take k) (l.drop k)
  rw [List.take_append_drop, h] at h2
  exact h2
set_option maxHeartbeats 2000000 in
theorem low_any (l : List UInt8) (w : World) (hl : l.length ≤ 100000000) :
    Calls Tryz.prog 22 #[.string (S l)] w fun e w' => e = .returned (.bool (Qm.lowB l)) ∧ w = w' := by
  have z1 := S_size l
  have hat := S_at l
  go_enter Tryz.func22, Tryz.ntmps22
  go_wp2_with fail
  go_loopw [3] (fun iv wr => ∃ (i : Nat), iv = .int .i64 (i : Int) ∧ i ≤ l.length ∧ wr = w ∧ Hid (Qm.lowB (l.take i) = false)) (fun iv _ => l.length - (intOf iv).toNat)
  case atStart => exact ⟨0, rfl, Nat.zero_le _, rfl, by show _ = _; rw [List.take_zero]; rfl⟩
  case round =>
    obtain ⟨i, rfl, hi, rfl, HB⟩ := hrel
    by_cases hlt : i < l.length
    · have hst := lowB_step hlt
      rw [HB.out, Bool.false_or] at hst
      have HST := Lib.hid hst
      clear hst
      by_cases h32 : (Um.bt l i : Int) < 32
      · have hr : Hid (Qm.lowB l = true) := by
          refine lowB_part (k := i + 1) ?_
          rw [HST.out]
          exact decide_eq_true (by omega)
        go_wp2_with fail
        go_ret
        exact ⟨congrArg (fun b => Ending.returned (.bool b)) hr.out.symm, rfl⟩
      · have hr : Hid (Qm.lowB (l.take (i + 1)) = false) := by
          show _ = _
          rw [HST.out]
          exact decide_eq_false (by omega)
        go_wp2_with fail
        go_roundw
        case rel => exact ⟨i + 1, by go_num, by omega, trivial, hr⟩
        case measure => simp [intOf]; omega
    · have hr : Hid (Qm.lowB l = false) := by
        have := HB.out
        rw [List.take_of_length_le (by omega)] at this
        exact this
      go_wp2_with fail
      go_ret
      exact ⟨congrArg (fun b => Ending.returned (.bool b)) hr.out.symm, rfl⟩
end

section
open Go.RowKit

def QUO (l : List UInt8) : List UInt8 × Nat := if 4096 < l.length then ([], 5) else if (LEN l).2 = true then (Qm.quo l, 0) else ([], 12)
theorem QUO_long {l : List UInt8} (h : 4096 < l.length) : QUO l = ([], 5) := by unfold QUO; rw [if_pos h]
theorem QUO_ok {l : List UInt8} (h : l.length ≤ 4096) (hv : (LEN l).2 = true) : QUO l = (Qm.quo l, 0) := by unfold QUO; rw [if_neg (by omega), if_pos hv]
theorem QUO_no {l : List UInt8} (h : l.length ≤ 4096) (hv : (LEN l).2 = false) : QUO l = ([], 12) := by unfold QUO; rw [if_neg (by omega), if_neg (by rw [hv]; decide)]
theorem ret_quo {x : List UInt8 × Nat} {a : List UInt8} {c : Nat} (h : x = (a, c)) : Ending.returned (.tuple #[.string (S a), .int .i64 (c : Int)]) = .returned (.tuple #[.string (S x.1), .int .i64 (x.2 : Int)]) := by rw [h]
theorem own_new (w : World) (B : Nat) (x : Value) (h : B ≤ w.heap.size) : (w.alloc (.cells #[x] 5)).ownsRow B 5 1 (.slice (some ⟨w.heap.size, 0, none⟩) 1 1) 1 [x] :=
  ⟨rfl, .inr ⟨w.heap.size, 1, #[x], rfl, h, heap_alloc_new w _, Nat.le_refl _, by decide, rfl, rfl⟩⟩
namespace Qm
/-- what is written behind k bytes -/
def mid (l : List UInt8) (k : Nat) : List UInt8 := 34 :: esc (l.take k)
theorem mid_zero (l : List UInt8) : mid l 0 = [34] := rfl
theorem mid_len (l : List UInt8) (k : Nat) : (mid l k).length ≤ 2 * k + 1 := by
  have := (esc_len (l.take k)).2
  have h2 : (l.take k).length ≤ k := by rw [List.length_take]; omega
  unfold mid
  rw [List.length_cons]
  omega
theorem mid_full (l : List UInt8) : mid l l.length ++ [34] = quo l := by
  unfold mid quo
  rw [List.take_length]
  rfl
theorem mid_mark {l : List UInt8} {k : Nat} (h : k < l.length) {c : UInt8} (hc : l[k] = c) (h1 : c = 34 ∨ c = 92) : mid l (k + 1) = mid l k ++ [92] ++ [c] := by
  unfold mid
  rw [List.take_succ_eq_append_getElem h, esc_append, hc, esc_one, if_pos h1]
  simp
theorem mid_plain {l : List UInt8} {k : Nat} (h : k < l.length) {c : UInt8} (hc : l[k] = c) (h1 : ¬ (c = 34 ∨ c = 92)) : mid l (k + 1) = mid l k ++ [c] := by
  unfold mid
  rw [List.take_succ_eq_append_getElem h, esc_append, hc, esc_one, if_neg h1]
  simp
end Qm
theorem bt_get {l : List UInt8} {k : Nat} (h : k < l.length) : Um.bt l k = l[k].toNat := by
  unfold Um.bt
  simp [List.getD_eq_getElem?_getD, List.getElem?_eq_getElem h]
set_option maxRecDepth 100000 in
set_option maxHeartbeats 1600000 in
theorem Quote_any (l : List UInt8) (w : World) (hl : l.length ≤ 100000000) :
    Calls Tryz.prog 23 #[.string (S l)] w fun e w' => e = .returned (.tuple #[.string (S (QUO l).1), .int .i64 ((QUO l).2 : Int)]) ∧ Below w.heap.size w w' := by
  have z1 := S_size l
  have hat := S_at l
  by_cases h1 : (4096 : Int) < (l.length : Int)
  · have HR := Lib.hid (QUO_long (l := l) (by omega))
    go_enter Tryz.func23, Tryz.ntmps23
    go_wp2_with fail
    go_ret2
    exact ⟨ret_quo HR.out, Below.refl _ _⟩
  cases hv : (LEN l).2
  · have HR := Lib.hid (QUO_no (l := l) (by omega) hv)
    have HV := Lib.hid hv
    clear hv
    go_enter Tryz.func23, Tryz.ntmps23
    go_wp2_with fail
    refine (Valid_at (Below.refl _ _) l hl HV.out).mono ?_; rintro e w1 ⟨rfl, h1⟩
    go_wp2_with fail
    go_ret2
    exact ⟨ret_quo HR.out, h1⟩
  · have HR := Lib.hid (QUO_ok (l := l) (by omega) hv)
    have HV := Lib.hid hv
    clear hv
    obtain ⟨i0, hi0, hz0, hz1, hz2⟩ := info_parts info5
    go_enter Tryz.func23, Tryz.ntmps23
    go_wp2_with fail
    refine (Valid_at (Below.refl _ _) l hl HV.out).mono ?_; rintro e w1 ⟨rfl, hb1⟩
    have hown0 := own_new w1 w.heap.size (.int .u8 34) hb1.size
    have hb2 : Below w.heap.size w (w1.alloc (.cells #[.int .u8 34] 5)) := hb1.alloc hb1.size _
    have HO := Lib.hid hown0
    clear hown0
    go_wp2_with fail
    go_loopw [4, 5, 15] (fun v _ i wr => ∃ (k : Nat) (o : List UInt8), k ≤ l.length ∧ i = .int .i64 (k : Int) ∧ Hid (o = Qm.mid l k) ∧ o.length ≤ 2 * k + 1 ∧ wr.ownsRow w.heap.size 5 1 v o.length (V o) ∧ Below w.heap.size w wr) (fun _ _ i _ => l.length - (intOf i).toNat)
    case atStart => exact ⟨0, [34], Nat.zero_le _, rfl, rfl, by simp, HO.out, hb2⟩
    case round =>
      clear HO hb2 hb1
      obtain ⟨k, o, hk, rfl, HM, ho, hown, hbel⟩ := hrel
      have hsz := hbel.size
      by_cases hlt : k < l.length
      · have hbt := bt_get hlt
        obtain ⟨c, hc⟩ : ∃ c, l[k] = c := ⟨_, rfl⟩
        rw [hc] at hbt
        have hml := Qm.mid_len l (k + 1)
        by_cases h3 : c = 34 ∨ c = 92
        · have HM2 : Hid (Qm.mid l (k + 1) = o ++ [92] ++ [c]) := by unfold Hid; rw [Qm.mid_mark hlt hc h3, HM.out]
          clear hc HM
          rcases h3 with rfl | rfl
          all_goals
            go_wp2_with (first
              | (at_builtin; refine wpList_append_own _ rfl _ _ 36 rfl w.heap.size 5 i0 (.int .u8 0) 1 1 Tryz.underlying36 hi0 hz0 hz1 hz2 rfl (by decide) _ _ _ rfl (hown.alloc _) ⟨wr.heap.size, 0, none⟩ 1 1 [.int .u8 92] rfl rfl (World.news_of_block (cs := #[.int .u8 92]) (t := 5) (fr := (0, 0)) (heap_alloc_new wr _)) (by simp [Value.oneCell']) (by unfold maxLen; omega) (by omega) (by simp; omega) ?_; intro v' w2 hown1 hgrow _; have hb3 : Below w.heap.size w w2 := (hbel.alloc hsz _).grown hgrow (by simp <;> omega) (fun g e => (hown.lt _ e).1); have hsz2 := hb3.size)
              | (at_builtin; refine wpList_append_own _ rfl _ _ 36 rfl w.heap.size 5 i0 (.int .u8 0) 1 1 Tryz.underlying36 hi0 hz0 hz1 hz2 rfl (by decide) _ _ _ rfl (hown1.alloc _) ⟨w2.heap.size, 0, none⟩ 1 1 [.int .u8 _] rfl rfl (World.news_of_block (cs := #[.int .u8 _]) (t := 5) (fr := (0, 0)) (heap_alloc_new w2 _)) (by simp [Value.oneCell']) (by unfold maxLen; omega) (by omega) (by simp; omega) ?_; intro v'' w3 hown2 hgrow2 _))
            have hb4 := (hb3.alloc hsz2 _).grown hgrow2 (by simp <;> omega) (fun g e => (hown1.lt _ e).1)
            have HL := Lib.hid (show o.length + 1 + 1 ≤ 2 * (k + 1) + 1 by omega)
            clear hown hgrow hgrow2 hown1
            go_wp2_with fail
            go_roundw
            case rel =>
              refine ⟨k + 1, _, by omega, by go_num, HM2.out.symm, by rw [List.length_append, List.length_append]; exact HL.out, ?_, hb4⟩
              rw [V_append, V_append, List.length_append, List.length_append]
              exact hown2
            case measure => simp [intOf]; omega
        · have HM2 : Hid (Qm.mid l (k + 1) = o ++ [c]) := by unfold Hid; rw [Qm.mid_plain hlt hc h3, HM.out]
          have n1 : ((c.toNat : Int) == 34) = false := by
            rw [beq_eq_false_iff_ne]
            intro e
            exact h3 (.inl (UInt8.toNat_inj.1 (show c.toNat = 34 by omega)))
          have n2 : ((c.toNat : Int) == 92) = false := by
            rw [beq_eq_false_iff_ne]
            intro e
            exact h3 (.inr (UInt8.toNat_inj.1 (show c.toNat = 92 by omega)))
          clear hc HM h3
          go_wp2_with (at_builtin; refine wpList_append_own _ rfl _ _ 36 rfl w.heap.size 5 i0 (.int .u8 0) 1 1 Tryz.underlying36 hi0 hz0 hz1 hz2 rfl (by decide) _ _ _ rfl (hown.alloc _) ⟨wr.heap.size, 0, none⟩ 1 1 [.int .u8 (c.toNat : Int)] rfl rfl (World.news_of_block (cs := #[.int .u8 (c.toNat : Int)]) (t := 5) (fr := (0, 0)) (heap_alloc_new wr _)) (by simp [Value.oneCell']) (by unfold maxLen; omega) (by omega) (by simp; omega) ?_; intro v' w2 hown1 hgrow _)
          have hb3 : Below w.heap.size w w2 := (hbel.alloc hsz _).grown hgrow (by simp <;> omega) (fun g e => (hown.lt _ e).1)
          have HL := Lib.hid (show o.length + 1 ≤ 2 * (k + 1) + 1 by omega)
          clear hown hgrow
          go_wp2_with fail
          go_roundw
          case rel =>
            refine ⟨k + 1, _, by omega, by go_num, HM2.out.symm, by rw [List.length_append]; exact HL.out, ?_, hb3⟩
            rw [V_append, List.length_append]
            exact hown1
          case measure => simp [intOf]; omega
      · obtain rfl : k = l.length := by omega
        have HQ : Hid (o ++ [34] = Qm.quo l) := by unfold Hid; rw [HM.out, Qm.mid_full]
        clear HM
        go_wp2_with (at_builtin; refine wpList_append_own _ rfl _ _ 36 rfl w.heap.size 5 i0 (.int .u8 0) 1 1 Tryz.underlying36 hi0 hz0 hz1 hz2 rfl (by decide) _ _ _ rfl (hown.alloc _) ⟨wr.heap.size, 0, none⟩ 1 1 [.int .u8 34] rfl rfl (World.news_of_block (cs := #[.int .u8 34]) (t := 5) (fr := (0, 0)) (heap_alloc_new wr _)) (by simp [Value.oneCell']) (by unfold maxLen; omega) (by omega) (by simp; omega) ?_; intro v' w2 hown1 hgrow _; have hcv := conv_own w2 w.heap.size _ (o ++ [34]) (by rw [V_append, List.length_append]; exact hown1))
        have hb3 : Below w.heap.size w w2 := (hbel.alloc hsz _).grown hgrow (by simp <;> omega) (fun g e => (hown.lt _ e).1)
        go_ret2
        exact ⟨ret_quo (by rw [HR.out, HQ.out]), hb3⟩
end

section
open Go.RowKit

theorem NS0' (w : World) (a : Option Addr) : NS w a [] := fun i x h => by simp at h
theorem quo_zero {l P : List UInt8} (h : QUO l = (P, 0)) : P = Qm.quo l ∧ Um.cnt l ≠ none := by
  unfold QUO at h
  split at h
  · cases h
  · split at h
    · rename_i h2
      refine ⟨(Prod.ext_iff.1 h).1.symm, fun e => ?_⟩
      rw [LEN_none e] at h2
      cases h2
    · cases h
theorem quo_length (s : List UInt8) : (Qm.quo s).length ≤ 2 * s.length + 2 := by
  have h : ∀ s : List UInt8, (Qm.esc s).length ≤ 2 * s.length := fun s => by
    have := Qm.mid_len s s.length
    unfold Qm.mid at this
    rw [List.take_length] at this
    simp at this
    omega
  unfold Qm.quo
  have := h s
  simp
  omega
/-- a text of an object of two members, put together as the law does -/
theorem put_together (P l Q r : List UInt8) (h : P.length + l.length + Q.length + r.length ≤ 1000000) : ∃ o1 o2 o3 o4 o5 o6 o7 X : List UInt8, X = 123 :: (P ++ 58 :: (l ++ 44 :: (Q ++ 58 :: (r ++ [125])))) ∧
    (∀ w, (Op.stringOp .add ⟨#[123]⟩ (S P)).run Tryz.prog w = .ok (.string (S o1)) w) ∧ (∀ w, (Op.stringOp .add (S o1) ⟨#[58]⟩).run Tryz.prog w = .ok (.string (S o2)) w) ∧ (∀ w, (Op.stringOp .add (S o2) (S l)).run Tryz.prog w = .ok (.string (S o3)) w) ∧ (∀ w, (Op.stringOp .add (S o3) ⟨#[44]⟩).run Tryz.prog w = .ok (.string (S o4)) w) ∧
    (∀ w, (Op.stringOp .add (S o4) (S Q)).run Tryz.prog w = .ok (.string (S o5)) w) ∧ (∀ w, (Op.stringOp .add (S o5) ⟨#[58]⟩).run Tryz.prog w = .ok (.string (S o6)) w) ∧ (∀ w, (Op.stringOp .add (S o6) (S r)).run Tryz.prog w = .ok (.string (S o7)) w) ∧ (∀ w, (Op.stringOp .add (S o7) ⟨#[125]⟩).run Tryz.prog w = .ok (.string (S X)) w) := by
  refine ⟨[123] ++ P, [123] ++ P ++ [58], [123] ++ P ++ [58] ++ l, [123] ++ P ++ [58] ++ l ++ [44], [123] ++ P ++ [58] ++ l ++ [44] ++ Q, [123] ++ P ++ [58] ++ l ++ [44] ++ Q ++ [58], [123] ++ P ++ [58] ++ l ++ [44] ++ Q ++ [58] ++ r, [123] ++ P ++ [58] ++ l ++ [44] ++ Q ++ [58] ++ r ++ [125], by simp, add_S [123] P ?_, add_S _ [58] ?_, add_S _ l ?_, add_S _ [44] ?_, add_S _ Q ?_, add_S _ [58] ?_, add_S _ r ?_, add_S _ [125] ?_⟩
  all_goals (simp only [List.length_append, List.length_cons, List.length_nil]; omega)
theorem newB' {u W : World} {o : Obj} (h : W = u.alloc o) : W.heap[u.heap.size]? = some o := by rw [h]; exact heap_alloc_new u _
theorem newA' {u W : World} {o : Obj} (h : W = u.alloc o) : Below u.heap.size u W := by rw [h]; exact (Below.refl _ _).alloc (Nat.le_refl _) _
theorem newS' {u W : World} {o : Obj} (h : W = u.alloc o) : W.heap.size = u.heap.size + 1 := by rw [h]; simp
theorem kept' {u W : World} (h : Below u.heap.size u W) {i : Nat} {o : Obj} (hi : u.heap[i]? = some o) : W.heap[i]? = some o := (h.block _ (Array.getElem?_eq_some_iff.1 hi).1).trans hi
/-- four blocks laid one after the other -/
theorem chain4 (w : World) (A N I C : Obj) (W : World) (hW : W = (((w.alloc A).alloc N).alloc I).alloc C) : Below w.heap.size w W ∧ W.heap.size = w.heap.size + 1 + 1 + 1 + 1 ∧ W.heap[w.heap.size]? = some A ∧ W.heap[w.heap.size + 1]? = some N ∧ W.heap[w.heap.size + 1 + 1]? = some I ∧ W.heap[w.heap.size + 1 + 1 + 1]? = some C := by
  obtain ⟨V1, h1⟩ : ∃ V, V = w.alloc A := ⟨_, rfl⟩
  obtain ⟨V2, h2⟩ : ∃ V, V = V1.alloc N := ⟨_, rfl⟩
  obtain ⟨V3, h3⟩ : ∃ V, V = V2.alloc I := ⟨_, rfl⟩
  rw [← h1, ← h2, ← h3] at hW
  have b1 := newA' h1
  have b2 := newA' h2
  have b3 := newA' h3
  have b4 := newA' hW
  have s1 := newS' h1
  have s2 := newS' h2
  have s3 := newS' h3
  have s4 := newS' hW
  have n1 := newB' h1
  have n2 := newB' h2
  have n3 := newB' h3
  have n4 := newB' hW
  have B2 := b1.trans (b2.mono b1.size)
  have B3 := B2.trans (b3.mono B2.size)
  rw [s1] at s2 n2
  rw [s2] at s3 n3
  rw [s3] at s4 n4
  exact ⟨B3.trans (b4.mono B3.size), s4, kept' b4 (kept' b3 (kept' b2 n1)), kept' b4 (kept' b3 n2), kept' b4 n3, n4⟩
theorem chain6 (w : World) (A N I C N2 I2 : Obj) (W : World) (hW : W = (((((w.alloc A).alloc N).alloc I).alloc C).alloc N2).alloc I2) : Below w.heap.size w W ∧ W.heap[w.heap.size]? = some A ∧ W.heap[w.heap.size + 1 + 1 + 1]? = some C ∧ W.heap[w.heap.size + 1 + 1 + 1 + 1]? = some N2 ∧ W.heap[w.heap.size + 1 + 1 + 1 + 1 + 1]? = some I2 := by
  obtain ⟨V, hV⟩ : ∃ V, V = (((w.alloc A).alloc N).alloc I).alloc C := ⟨_, rfl⟩
  obtain ⟨B4, s4, n1, _, _, n4⟩ := chain4 w A N I C V hV
  rw [← hV] at hW
  obtain ⟨V5, h5⟩ : ∃ V5, V5 = V.alloc N2 := ⟨_, rfl⟩
  rw [← h5] at hW
  have b5 := newA' h5
  have b6 := newA' hW
  have s5 := newS' h5
  have n5 := newB' h5
  have n6 := newB' hW
  rw [s4] at s5 n5
  rw [s5] at n6
  have B5 := B4.trans (b5.mono B4.size)
  exact ⟨B5.trans (b6.mono B5.size), kept' b6 (kept' b5 n1), kept' b6 (kept' b5 n4), kept' b6 n5, n6⟩
theorem want_at (w : World) (A N I N2 I2 : Obj) (c0 c1 c2 c3 c4 : Value) : VAt (w.heap.size + 1 + 1 + 1) ((((((w.alloc A).alloc N).alloc I).alloc (.cells #[c0, c1, c2, c3, c4] 26)).alloc N2).alloc I2) c0 c1 c2 c3 c4 :=
  (chain6 w A N I _ N2 I2 _ rfl).2.2.1
theorem after_store {w W W' : World} {b : Nat} (hb : Below w.heap.size w W) (hbw : w.heap.size ≤ b) (h : W'.os = W.os ∧ W'.tape = W.tape ∧ W'.output = W.output ∧ W'.heap.size = W.heap.size ∧ ∀ k, k ≠ b → W'.heap[k]? = W.heap[k]?) : Below w.heap.size w W' :=
  ⟨h.1.trans hb.os, h.2.1.trans hb.tape, h.2.2.1.trans hb.output, by rw [h.2.2.2.1]; exact hb.size, fun k hk => (h.2.2.2.2 k (by omega)).trans (hb.block k hk)⟩
theorem after6 {w W W' : World} {A N I C N2 I2 : Obj} (hW : W = (((((w.alloc A).alloc N).alloc I).alloc C).alloc N2).alloc I2) (h : W'.os = W.os ∧ W'.tape = W.tape ∧ W'.output = W.output ∧ W'.heap.size = W.heap.size ∧ ∀ k, k ≠ w.heap.size + 1 + 1 + 1 → W'.heap[k]? = W.heap[k]?) :
    Below w.heap.size w W' ∧ W'.heap[w.heap.size]? = some A ∧ W'.heap[w.heap.size + 1 + 1 + 1 + 1]? = some N2 ∧ W'.heap[w.heap.size + 1 + 1 + 1 + 1 + 1]? = some I2 := by
  obtain ⟨b, n1, _, n5, n6⟩ := chain6 w A N I C N2 I2 W hW
  have h5 := h.2.2.2.2
  exact ⟨after_store b (by omega) h, (h5 _ (by omega)).trans n1, (h5 _ (by omega)).trans n5, (h5 _ (by omega)).trans n6⟩
/-- the object that the law wants -/
theorem wantV {W : World} {d b : Nat} {n m : List UInt8} {x y : JV} {c0 c1 c2 c3 c4 d0 d1 d2 d3 d4 : Value} (hn : n.length ≤ 4096) (hm : m.length ≤ 4096) (hN : W.heap[d]? = some (.cells #[.string (S n), .string (S m)] 9 (0, 0))) (hI : W.heap[b]? = some (.cells #[c0, c1, c2, c3, c4, d0, d1, d2, d3, d4] 26 (0, 0)))
    (hx : HV W (.agg #[c0, c1, c2, c3, c4]) x) (hy : HV W (.agg #[d0, d1, d2, d3, d4]) y) : HV W (.agg #[.int .u8 5, .int .i64 0, .string ⟨#[]⟩, .slice (some ⟨d, 0, none⟩) 2 2, .slice (some ⟨b, 0, none⟩) 2 2]) (.mk 5 0 [] [n, m] [x, y]) := by
  obtain ⟨cs, h1, hcx⟩ := hx
  obtain rfl : cs = [c0, c1, c2, c3, c4] := by simpa using h1.symm
  obtain ⟨cs, h1, hcy⟩ := hy
  obtain rfl : cs = [d0, d1, d2, d3, d4] := by simpa using h1.symm
  have hN2 : W.heap[d]? = some (.cells (NC [n, m]).toArray 9 (0, 0)) := hN
  have hI2 : W.heap[b]? = some (.cells (([c0, c1, c2, c3, c4] : List Value) ++ ([d0, d1, d2, d3, d4] : List Value)).toArray 26 (0, 0)) := hI
  exact HV.of W 5 0 [] [n, m] [x, y] (some ⟨d, 0, none⟩) (some ⟨b, 0, none⟩) 2 2 ⟨by omega, by omega, Nat.zero_le _, by show 2 ≤ maxLen; unfold maxLen; omega, by show 2 ≤ maxLen; unfold maxLen; omega, fun z hz => by
    simp only [List.mem_cons, List.not_mem_nil, or_false] at hz
    rcases hz with rfl | rfl <;> (unfold maxLen; omega)⟩ (NS.of_block hN2) (.inr ⟨b, 0, rfl, HI.of_block hI2 (HCS.snoc hcy (HCS.one hcx))⟩)
set_option maxHeartbeats 8000000 in
set_option maxRecDepth 5000 in
theorem law_ReadObjects (s t a b : ByteArray) (w : World) (hs : s.size ≤ maxLen) (ht : t.size ≤ maxLen) (ha : a.size ≤ maxLen) (hb : b.size ≤ maxLen) (hT : TabL w) :
    Calls Tryz.prog 8 #[.string s, .string t, .string a, .string b] w fun e w' => e = .returned (.bool true) ∧ Below w.heap.size w w' := by
  obtain ⟨l, rfl⟩ := as_S s
  obtain ⟨r, rfl⟩ := as_S t
  obtain ⟨n, rfl⟩ := as_S a
  obtain ⟨m, rfl⟩ := as_S b
  obtain ⟨L, hL⟩ : ∃ L : Int, L = (l.length : Int) := ⟨_, rfl⟩
  obtain ⟨R, hR⟩ : ∃ L : Int, L = (r.length : Int) := ⟨_, rfl⟩
  obtain ⟨A, hA⟩ : ∃ L : Int, L = (n.length : Int) := ⟨_, rfl⟩
  obtain ⟨B, hB⟩ : ∃ L : Int, L = (m.length : Int) := ⟨_, rfl⟩
  have hsz : ((S l).size : Int) = L := by rw [S_size, hL]
  have hrz : ((S r).size : Int) = R := by rw [S_size, hR]
  have haz : ((S n).size : Int) = A := by rw [S_size, hA]
  have hbz : ((S m).size : Int) = B := by rw [S_size, hB]
  have HL := Lib.hid hL
  have HR := Lib.hid hR
  have HA := Lib.hid hA
  have HB := Lib.hid hB
  clear hL hR hA hB hs ht ha hb
  by_cases h1 : (10000 : Int) < L
  · go_enter Tryz.func8, Tryz.ntmps8
    go_wp2_with fail
    refine (awake_any _ hT).mono ?_; rintro e w1 ⟨rfl, b1⟩
    go_wp2_with fail
    go_ret
    exact ⟨rfl, b1⟩
  by_cases h2 : (10000 : Int) < R
  · go_enter Tryz.func8, Tryz.ntmps8
    go_wp2_with fail
    refine (awake_any _ hT).mono ?_; rintro e w1 ⟨rfl, b1⟩
    go_wp2_with fail
    go_ret
    exact ⟨rfl, b1⟩
  by_cases h3 : (4096 : Int) < A
  · go_enter Tryz.func8, Tryz.ntmps8
    go_wp2_with fail
    refine (awake_any _ hT).mono ?_; rintro e w1 ⟨rfl, b1⟩
    go_wp2_with fail
    go_ret
    exact ⟨rfl, b1⟩
  by_cases h4 : (4096 : Int) < B
  · go_enter Tryz.func8, Tryz.ntmps8
    go_wp2_with fail
    refine (awake_any _ hT).mono ?_; rintro e w1 ⟨rfl, b1⟩
    go_wp2_with fail
    go_ret
    exact ⟨rfl, b1⟩
  have hl1 : Hid (l.length ≤ 10000) := by have := HL.out; show l.length ≤ 10000; omega
  have hl2 : Hid (r.length ≤ 10000) := by have := HR.out; show r.length ≤ 10000; omega
  have hl3 : Hid (n.length ≤ 4096) := by have := HA.out; show n.length ≤ 4096; omega
  have hl4 : Hid (m.length ≤ 4096) := by have := HB.out; show m.length ≤ 4096; omega
  have cN := low_any n w (by have := hl3.out; omega)
  have cM := low_any m w (by have := hl4.out; omega)
  cases hn : Qm.lowB n with
  | true =>
    rw [hn] at cN
    clear hn cM
    go_enter Tryz.func8, Tryz.ntmps8
    go_wp2_with fail
    refine cN.mono ?_; rintro e w1 ⟨rfl, rfl⟩
    clear cN
    go_wp2_with fail
    refine (awake_any _ hT).mono ?_; rintro e w1 ⟨rfl, b1⟩
    go_wp2_with fail
    go_ret
    exact ⟨rfl, b1⟩
  | false =>
  cases hm : Qm.lowB m with
  | true =>
    rw [hn] at cN
    rw [hm] at cM
    clear hn hm
    go_enter Tryz.func8, Tryz.ntmps8
    go_wp2_with fail
    refine cN.mono ?_; rintro e w1 ⟨rfl, rfl⟩
    clear cN
    go_wp2_with fail
    refine cM.mono ?_; rintro e w1 ⟨rfl, rfl⟩
    clear cM
    go_wp2_with fail
    refine (awake_any _ hT).mono ?_; rintro e w1 ⟨rfl, b1⟩
    go_wp2_with fail
    go_ret
    exact ⟨rfl, b1⟩
  | false =>
  rw [hn] at cN
  rw [hm] at cM
  have HN := Lib.hid hn
  have HM := Lib.hid hm
  clear hn hm
  go_enter Tryz.func8, Tryz.ntmps8
  go_wp2_with fail
  refine cN.mono ?_; rintro e w1 ⟨rfl, rfl⟩
  clear cN
  go_wp2_with fail
  refine cM.mono ?_; rintro e w1 ⟨rfl, rfl⟩
  clear cM
  go_wp2_with fail
  refine (awake_any _ hT).mono ?_; rintro e w1 ⟨rfl, b1⟩
  have T1 := hT.below b1
  have HB1 := Lib.hid b1
  have cR := readRead_any l w1 T1
  clear b1 T1
  go_wp2_with fail
  refine cR.mono ?_; rintro e w2 ⟨u, x, pl, er, rfl, hr, hu, b2⟩
  obtain ⟨uk, un, ut, ua, ub, ui, uj, uca, ucb, rfl⟩ := hu.open'
  obtain ⟨cs, ecs, hcp⟩ := hu
  have hv2 : HV w2 (.agg #[.int .u8 uk, .int .i64 un, .string ut, .slice ua ui uca, .slice ub uj ucb]) x := ⟨cs, ecs, hcp.hc⟩
  obtain ⟨q, hq⟩ : ∃ q, q = w2.heap.size := ⟨_, rfl⟩
  obtain ⟨W3, hW3⟩ : ∃ W, W = w2.alloc (.cells #[.int .u8 uk, .int .i64 un, .string ut, .slice ua ui uca, .slice ub uj ucb] 26) := ⟨_, rfl⟩
  have b3 : Below w2.heap.size w2 W3 := by rw [hW3]; exact (Below.refl _ _).alloc (Nat.le_refl _) _
  have V3 : VAt q W3 (.int .u8 uk) (.int .i64 un) (.string ut) (.slice ua ui uca) (.slice ub uj ucb) := by rw [hW3, hq]; exact VAt.new ..
  have B3 := HB1.out.trans ((b2.trans (b3.mono b2.size)).mono HB1.out.size)
  have HB3 := Lib.hid B3
  have HV3 := Lib.hid V3
  have HU3 := Lib.hid (hv2.below b3)
  have T3 := hT.below B3
  obtain ⟨eI, heI⟩ : ∃ z : Int, z = (er : Int) := ⟨_, rfl⟩
  obtain ⟨pI, hpI⟩ : ∃ z : Int, z = (pl : Int) := ⟨_, rfl⟩
  have HE := Lib.hid heI
  have HRD := Lib.hid hr
  have cR2 := readRead_any r W3 T3
  rw [← heI, ← hpI]
  clear cR hr b2 b3 hv2 hcp ecs heI hpI B3 V3
  go_wp2_with fail
  rw [← hW3, ← hq]
  clear hW3 hq
  refine cR2.mono ?_; rintro e w4 ⟨u2, y, pl2, er2, rfl, hr2, hu2, b4⟩
  obtain ⟨vk, vn, vt, va, vb, vi, vj, vca, vcb, rfl⟩ := hu2.open'
  obtain ⟨cs2, ecs2, hcp2⟩ := hu2
  have hv4 : HV w4 (.agg #[.int .u8 vk, .int .i64 vn, .string vt, .slice va vi vca, .slice vb vj vcb]) y := ⟨cs2, ecs2, hcp2.hc⟩
  obtain ⟨q2, hq2⟩ : ∃ q, q = w4.heap.size := ⟨_, rfl⟩
  obtain ⟨W5, hW5⟩ : ∃ W, W = w4.alloc (.cells #[.int .u8 vk, .int .i64 vn, .string vt, .slice va vi vca, .slice vb vj vcb] 26) := ⟨_, rfl⟩
  have b5 : Below w4.heap.size w4 W5 := by rw [hW5]; exact (Below.refl _ _).alloc (Nat.le_refl _) _
  have V5 : VAt q2 W5 (.int .u8 vk) (.int .i64 vn) (.string vt) (.slice va vi vca) (.slice vb vj vcb) := by rw [hW5, hq2]; exact VAt.new ..
  have b35 := b4.trans (b5.mono b4.size)
  obtain ⟨P, g, hP⟩ : ∃ P g, QUO n = (P, g) := ⟨_, _, rfl⟩
  obtain ⟨Q, k, hQ⟩ : ∃ P g, QUO m = (P, g) := ⟨_, _, rfl⟩
  have cQ := Quote_any n W5 (by have := hl3.out; omega)
  rw [hP] at cQ
  obtain ⟨gI, hgI⟩ : ∃ z : Int, z = (g : Int) := ⟨_, rfl⟩
  obtain ⟨kI, hkI⟩ : ∃ z : Int, z = (k : Int) := ⟨_, rfl⟩
  simp only at cQ
  rw [← hgI] at cQ
  have HGI := Lib.hid hgI
  have HKI := Lib.hid hkI
  have HP := Lib.hid hP
  have HQ := Lib.hid hQ
  obtain ⟨fI, hfI⟩ : ∃ z : Int, z = (er2 : Int) := ⟨_, rfl⟩
  obtain ⟨xI, hxI⟩ : ∃ z : Int, z = (pl2 : Int) := ⟨_, rfl⟩
  have HF := Lib.hid hfI
  have HRD2 := Lib.hid hr2
  have HB5 := Lib.hid (HB3.out.trans (b35.mono HB3.out.size))
  have HV5 := Lib.hid V5
  have HU5 := Lib.hid (hv4.below b5)
  have HX5 := Lib.hid (HU3.out.below b35)
  have HVX := Lib.hid (HV3.out.below b35)
  rw [← hfI, ← hxI]
  clear cR2 hr2 b4 b5 b35 hv4 hcp2 ecs2 hfI hxI V5 T3 hP hQ hgI hkI
  go_wp2_with fail
  rw [← hW5, ← hq2]
  clear hW5 hq2
  refine cQ.mono ?_; rintro e w6 ⟨rfl, b6⟩
  have cQ2 := Quote_any m w6 (by have := hl4.out; omega)
  rw [HQ.out] at cQ2
  simp only at cQ2
  rw [← HKI.out] at cQ2
  have HB6 := Lib.hid b6
  clear cQ b6
  go_wp2_with fail
  refine cQ2.mono ?_; rintro e w7 ⟨rfl, b7⟩
  have b57 := HB6.out.trans (b7.mono HB6.out.size)
  have HB7 := Lib.hid (HB5.out.trans (b57.mono HB5.out.size))
  have HV7 := Lib.hid (HV5.out.below b57)
  have HU7 := Lib.hid (HU5.out.below b57)
  have HX7 := Lib.hid (HX5.out.below b57)
  have HVX7 := Lib.hid (HVX.out.below b57)
  clear cQ2 b7 b57 HB6 HVX HX5 HU5 HV5 HB5 HV3 HU3 HB3 HB1
  by_cases he : eI = 0
  case neg =>
    have hb : (eI != 0) = true := bne_iff_ne.2 he
    clear he
    go_wp2_with fail
    go_ret
    exact ⟨rfl, HB7.out⟩
  subst he
  by_cases hf : fI = 0
  case neg =>
    have hb : (fI != 0) = true := bne_iff_ne.2 hf
    clear hf
    go_wp2_with fail
    go_ret
    exact ⟨rfl, HB7.out⟩
  subst hf
  by_cases hg : gI = 0
  case neg =>
    have hb : (gI != 0) = true := bne_iff_ne.2 hg
    clear hg
    go_wp2_with fail
    go_ret
    exact ⟨rfl, HB7.out⟩
  subst hg
  by_cases hk : kI = 0
  case neg =>
    have hb : (kI != 0) = true := bne_iff_ne.2 hk
    clear hk
    go_wp2_with fail
    go_ret
    exact ⟨rfl, HB7.out⟩
  subst hk
  have hrx : RdIs l x pl 0 := by have h0 : er = 0 := by have := HE.out; omega
                                 have := HRD.out; rw [h0] at this; exact this
  have hry : RdIs r y pl2 0 := by have h0 : er2 = 0 := by have := HF.out; omega
                                  have := HRD2.out; rw [h0] at this; exact this
  have hqp : P = Qm.quo n ∧ Um.cnt n ≠ none := by have h0 : g = 0 := by have := HGI.out; omega
                                                  have := HP.out; rw [h0] at this; exact quo_zero this
  have hqq : Q = Qm.quo m ∧ Um.cnt m ≠ none := by have h0 : k = 0 := by have := HKI.out; omega
                                                  have := HQ.out; rw [h0] at this; exact quo_zero this
  have hPl := quo_length n
  have hQl := quo_length m
  rw [← hqp.1] at hPl
  rw [← hqq.1] at hQl
  have hN0 : NTx0 n P := by rw [hqp.1]; exact NTx0.quo hqp.2 hl3.out HN.out
  have hM0 : NTx0 m Q := by rw [hqq.1]; exact NTx0.quo hqq.2 hl4.out HM.out
  have hlen : l.length + r.length + P.length + Q.length + 5 ≤ 65536 := by have := hl1.out; have := hl2.out; have := hl3.out; have := hl4.out; omega
  have hx4 := hrx.tx.2.1
  have hy4 := hry.tx.2.1
  obtain ⟨M, hM⟩ : ∃ M, decide (8192 < x.cnt + y.cnt + 1) = M := ⟨_, rfl⟩
  obtain ⟨D, hD⟩ : ∃ D, (decide (12 ≤ x.dep) || decide (12 ≤ y.dep)) = D := ⟨_, rfl⟩
  have cF := fits_any x y _ _ w7 HX7.out HU7.out (by omega) (by omega) hM hD
  have HHX := Lib.hid hrx
  have HHY := Lib.hid hry
  have HN0 := Lib.hid hN0
  have HM0 := Lib.hid hM0
  have HLEN := Lib.hid hlen
  have HMM := Lib.hid hM
  have HDD := Lib.hid hD
  obtain ⟨⟨p0, p1, p2, p3, p4⟩, pf⟩ := HVX7.out.cells
  obtain ⟨⟨r0, r1, r2, r3, r4⟩, rf⟩ := HV7.out.cells
  clear hrx hry hqp hqq hPl hQl hN0 hM0 hlen hx4 hy4 hM hD HGI HKI HP HQ HF HE HRD HRD2
  go_wp2_with fail
  refine cF.mono ?_; rintro e w8 ⟨rfl, b8⟩
  have HB8 := Lib.hid (HB7.out.trans (b8.mono HB7.out.size))
  have HV8 := Lib.hid (HV7.out.below b8)
  have HU8 := Lib.hid (HU7.out.below b8)
  have HX8 := Lib.hid (HX7.out.below b8)
  have HVX8 := Lib.hid (HVX7.out.below b8)
  clear cF b8 p0 p1 p2 p3 p4 pf r0 r1 r2 r3 r4 rf HV7 HU7 HX7 HVX7 HB7
  cases M with
  | true =>
    go_wp2_with fail
    go_ret
    exact ⟨rfl, HB8.out⟩
  | false =>
  cases D with
  | true =>
    go_wp2_with fail
    go_ret
    exact ⟨rfl, HB8.out⟩
  | false =>
  have hM1 := of_decide_eq_false HMM.out
  have hD2 := HDD.out
  rw [Bool.or_eq_false_iff] at hD2
  have hd1 := of_decide_eq_false hD2.1
  have hd2 := of_decide_eq_false hD2.2
  have T8 := hT.below HB8.out
  obtain ⟨o1, o2, o3, o4, o5, o6, o7, X, hX, A1, A2, A3, A4, A5, A6, A7, A8⟩ := put_together P l Q r (by have := HLEN.out; omega)
  have hlen := HLEN.out
  by_cases hnm : n = m
  · subst hnm
    have htw := object_twice HN0.out.ntx HM0.out HHX.out HHY.out (by omega) (by omega) (by omega)
    rw [← hX] at htw
    obtain ⟨zI, hzI⟩ : ∃ z : Int, z = ((3 + P.length + l.length : Nat) : Int) := ⟨_, rfl⟩
    obtain ⟨PZ, hPZ⟩ : ∃ z : Int, z = (P.length : Int) := ⟨_, rfl⟩
    have hpz : ((S P).size : Int) = PZ := by rw [S_size, hPZ]
    have HW2 : Hid (zI = wrap64 (wrap64 (3 + PZ) + L)) := by
      show _ = _
      have := HL.out
      unfold wrap64
      omega
    have cX := rd_call htw w8 T8
    rw [← hzI] at cX
    have e1 : ((S n).toList == (S n).toList) = true := beq_self_eq_true _
    clear hM1 hD2 hd1 hd2 hlen htw hX hzI hPZ
    go_wp2_with fail
    refine cX.mono ?_; rintro e w9 ⟨zk, zn, zt, za, zb, zi, zj, zca, zcb, rfl, hv9, b9⟩
    have HB9 := Lib.hid ((HB8.out.trans (b9.mono HB8.out.size)).alloc (HB8.out.trans (b9.mono HB8.out.size)).size (.cells #[.int .u8 zk, .int .i64 zn, .string zt, .slice za zi zca, .slice zb zj zcb] 26))
    clear cX b9 hv9 A1 A2 A3 A4 A5 A6 A7 A8 T8
    go_wp2_with fail
    go_ret
    exact ⟨by show Ending.returned (Value.bool (zI == wrap64 (wrap64 (3 + PZ) + L))) = _; rw [beq_iff_eq.2 HW2.out], HB9.out⟩
  obtain ⟨v1, v2, v3, v4, v5, v6, v7, Y, hY, C1, C2, C3, C4, C5, C6, C7, C8⟩ := put_together Q r P l (by have := HLEN.out; omega)
  have hneb : (n == m) = false := beq_eq_false_iff_ne.2 hnm
  have e1 : ((S n).toList == (S m).toList) = false := by rw [S_toList, S_toList]; exact hneb
  have hok1 := object_ok HN0.out.ntx HM0.out.ntx hnm HHX.out HHY.out (by omega) (by omega) (by omega) (by omega)
  have hok2 := object_ok HM0.out.ntx HN0.out.ntx (fun e => hnm e.symm) HHY.out HHX.out (by omega) (by omega) (by omega) (by omega)
  rw [← hX] at hok1
  rw [← hY] at hok2
  have sn := S_toList n
  have sm := S_toList m
  obtain ⟨less, hless⟩ : ∃ b, Op.bytesLess m n = b := ⟨_, rfl⟩
  have hlt : Jn.lt m n = less := hless
  obtain ⟨Z, hZ⟩ : ∃ Z, Z = if less = true then JV.mk 5 0 [] [m, n] [y, x] else .mk 5 0 [] [n, m] [x, y] := ⟨_, rfl⟩
  have k1 : RdIs X Z 0 0 := by
    rw [hZ]
    cases less with
    | true => rw [if_neg (by rw [lt_asymm hlt]; decide)] at hok1; rw [if_pos rfl]; exact hok1
    | false => rw [if_pos (Rd.lt_or (by rw [hlt]; decide) (fun e => hnm e.symm))] at hok1; rw [if_neg (by decide)]; exact hok1
  have k2 : RdIs Y Z 0 0 := by
    rw [hZ]
    cases less with
    | true => rw [if_pos hlt] at hok2; rw [if_pos rfl]; exact hok2
    | false => rw [if_neg (by rw [hlt]; decide)] at hok2; rw [if_neg (by decide)]; exact hok2
  have cX := rd_call k1 w8 T8
  have HK2 := Lib.hid k2
  have HZ := Lib.hid hZ
  have HLS := Lib.hid hless
  clear hM1 hD2 hd1 hd2 hlen hok1 hok2 hX hY hZ k1 k2 hlt hless
  go_wp2_with fail
  refine cX.mono ?_; rintro e w9 ⟨zk, zn, zt, za, zb, zi, zj, zca, zcb, rfl, hv9, b9⟩
  obtain ⟨q3, hq3⟩ : ∃ q, q = w9.heap.size := ⟨_, rfl⟩
  obtain ⟨W10, hW10⟩ : ∃ W, W = w9.alloc (.cells #[.int .u8 zk, .int .i64 zn, .string zt, .slice za zi zca, .slice zb zj zcb] 26) := ⟨_, rfl⟩
  have b10 : Below w9.heap.size w9 W10 := newA' hW10
  have V10 : VAt q3 W10 (.int .u8 zk) (.int .i64 zn) (.string zt) (.slice za zi zca) (.slice zb zj zcb) := by rw [hW10, hq3]; exact VAt.new ..
  have b810 := b9.trans (b10.mono b9.size)
  have HB10 := Lib.hid (HB8.out.trans (b810.mono HB8.out.size))
  have HV10 := Lib.hid (HV8.out.below b810)
  have HU10 := Lib.hid (HU8.out.below b810)
  have HX10 := Lib.hid (HX8.out.below b810)
  have HVX10 := Lib.hid (HVX8.out.below b810)
  have HVZ10 := Lib.hid V10
  have HZ10 := Lib.hid (hv9.below b10)
  have T10 := T8.below b810
  have cY := rd_call HK2.out W10 T10
  clear cX hv9 b9 b10 V10 b810 A1 A2 A3 A4 A5 A6 A7 A8 T8
  go_wp2_with fail
  rw [← hW10, ← hq3]
  clear hW10 hq3
  refine cY.mono ?_; rintro e w11 ⟨tk, tn, tt, ta, tb, ti, tj, tca, tcb, rfl, hv11, b11⟩
  have HB11 := Lib.hid (HB10.out.trans (b11.mono HB10.out.size))
  have HV11 := Lib.hid (HV10.out.below b11)
  have HU11 := Lib.hid (HU10.out.below b11)
  have HX11 := Lib.hid (HX10.out.below b11)
  have HVX11 := Lib.hid (HVX10.out.below b11)
  have HVZ11 := Lib.hid (HVZ10.out.below b11)
  have HZ11 := Lib.hid (HZ10.out.below b11)
  have HT11 := Lib.hid hv11
  clear cY hv11 b11 C1 C2 C3 C4 C5 C6 C7 C8 T10 HV8 HU8 HX8 HVX8 HB8 HVZ10 HZ10 HV10 HU10 HX10 HVX10 HB10
  have hless := HLS.out
  obtain ⟨W13, hW13⟩ : ∃ W, W = (w11.alloc (.cells #[.int .u8 tk, .int .i64 tn, .string tt, .slice ta ti tca, .slice tb tj tcb] 26)).alloc (.cells #[.string (S n), .string (S m)] 9) := ⟨_, rfl⟩
  have b13 : Below w11.heap.size w11 W13 := by rw [hW13]; exact ((Below.refl _ _).alloc (Nat.le_refl _) _).alloc (by simp) _
  obtain ⟨⟨p0, p1, p2, p3, p4⟩, pf⟩ := (HVX11.out.below b13).cells
  obtain ⟨⟨r0, r1, r2, r3, r4⟩, rf⟩ := (HV11.out.below b13).cells
  obtain ⟨W15, hW15⟩ : ∃ W, W = (((w11.alloc (.cells #[.int .u8 tk, .int .i64 tn, .string tt, .slice ta ti tca, .slice tb tj tcb] 26)).alloc (.cells #[.string (S n), .string (S m)] 9)).alloc
      (.cells #[.int .u8 uk, .int .i64 un, .string ut, .slice ua ui uca, .slice ub uj ucb, .int .u8 vk, .int .i64 vn, .string vt, .slice va vi vca, .slice vb vj vcb] 26)).alloc
      (.cells #[.int .u8 5, .int .i64 0, .string ⟨#[]⟩, .slice (some ⟨w11.heap.size + 1, 0, none⟩) 2 2, .slice (some ⟨w11.heap.size + 1 + 1, 0, none⟩) 2 2] 26) := ⟨_, rfl⟩
  obtain ⟨b15, s15, x1, x2, x3, x4⟩ := chain4 w11 _ _ _ _ W15 hW15
  cases less with
  | false =>
    obtain ⟨⟨z0, z1, z2, z3, z4⟩, zf⟩ := (HVZ11.out.below b15).cells
    obtain rfl : Z = .mk 5 0 [] [n, m] [x, y] := by rw [HZ.out, if_neg (by decide)]
    have hwant := wantV hl3.out hl4.out x2 x3 (HX11.out.below b15) (HU11.out.below b15)
    have cS := refSame_any _ (.mk 5 0 [] [n, m] [x, y]) _ (Nat.le_refl _) W15 _ _ (HZ11.out.below b15) hwant
    rw [JV.same_yes] at cS
    have HW15 := Lib.hid hwant
    have HB15 := Lib.hid (HB11.out.trans (b15.mono HB11.out.size))
    have HT15 := Lib.hid (HT11.out.below b15)
    have HA15 : Hid (VAt w11.heap.size W15 (.int .u8 tk) (.int .i64 tn) (.string tt) (.slice ta ti tca) (.slice tb tj tcb)) := x1
    have HC15 : Hid (VAt (w11.heap.size + 1 + 1 + 1) W15 (.int .u8 5) (.int .i64 0) (.string ⟨#[]⟩) (.slice (some ⟨w11.heap.size + 1, 0, none⟩) 2 2) (.slice (some ⟨w11.heap.size + 1 + 1, 0, none⟩) 2 2)) := x4
    rw [hW13] at p0 p1 p2 p3 p4 pf r0 r1 r2 r3 r4 rf
    rw [hW15] at z0 z1 z2 z3 z4 zf
    clear b13 b15 s15 x1 x2 x3 x4 hW13 hwant
    go_wp2_with fail
    rw [← hW15]
    clear hW15 p0 p1 p2 p3 p4 pf r0 r1 r2 r3 r4 rf z0 z1 z2 z3 z4 zf
    refine cS.mono ?_; rintro e w16 ⟨rfl, b16⟩
    have HB16 := Lib.hid (HB15.out.trans (b16.mono HB15.out.size))
    have cS2 := refSame_any _ (.mk 5 0 [] [n, m] [x, y]) _ (Nat.le_refl _) w16 _ _ (HT15.out.below b16) (HW15.out.below b16)
    rw [JV.same_yes] at cS2
    obtain ⟨⟨p0, p1, p2, p3, p4⟩, pf⟩ := (HA15.out.below b16).cells
    obtain ⟨⟨r0, r1, r2, r3, r4⟩, rf⟩ := (HC15.out.below b16).cells
    clear cS b16
    go_wp2_with fail
    refine cS2.mono ?_; rintro e w17 ⟨rfl, b17⟩
    have HB17 := Lib.hid (HB16.out.trans (b17.mono HB16.out.size))
    clear cS2 b17 p0 p1 p2 p3 p4 pf r0 r1 r2 r3 r4 rf
    go_wp2_with fail
    go_ret
    exact ⟨rfl, HB17.out⟩
  | true =>
    obtain rfl : Z = .mk 5 0 [] [m, n] [y, x] := by rw [HZ.out, if_pos rfl]
    obtain ⟨W16, hW16⟩ : ∃ W, W = W15.alloc (.cells #[.string (S m), .string (S n)] 9) := ⟨_, rfl⟩
    have b16 := b15.trans ((newA' hW16).mono b15.size)
    obtain ⟨⟨P0, P1, P2, P3, P4⟩, PF⟩ := (HVX11.out.below b16).cells
    obtain ⟨⟨R0, R1, R2, R3, R4⟩, RF⟩ := (HV11.out.below b16).cells
    rw [hW15] at hW16
    rw [hW16] at P0 P1 P2 P3 P4 PF R0 R1 R2 R3 R4 RF
    rw [hW13] at p0 p1 p2 p3 p4 pf r0 r1 r2 r3 r4 rf
    have HONE : Hid (∀ (a b : Option Addr), ∀ u ∈ [Value.int .u8 5, .int .i64 0, .string ⟨#[]⟩, .slice a 2 2, .slice b 2 2], u.oneCell' = true) := fun a b u hu => by
      simp only [List.mem_cons, List.not_mem_nil, or_false] at hu
      rcases hu with rfl | rfl | rfl | rfl | rfl <;> rfl
    clear b13 b15 b16 s15 x1 x2 x3 x4 hW13 hW15 hW16
    go_wp2_with (refine wpList_valStore (c0 := .int .u8 5) (c1 := .int .i64 0) (c2 := .string ⟨#[]⟩) (c3 := .slice (some ⟨w11.heap.size + 1, 0, none⟩) 2 2) (c4 := .slice (some ⟨w11.heap.size + 1 + 1, 0, none⟩) 2 2) rfl _ _ rfl rfl rfl rfl ?_ (HONE.out _ _) ?_; (with_reducible exact want_at _ _ _ _ _ _ _ _ _ _ _); intro W18 V18 a18; obtain ⟨b18, n18, n22, n23⟩ := after6 rfl a18; obtain ⟨⟨z0, z1, z2, z3, z4⟩, zf⟩ := (HVZ11.out.below b18).cells; obtain ⟨⟨y0, y1, y2, y3, y4⟩, yf⟩ := VAt.cells V18; have HV18 := Lib.hid V18; have HB18 := Lib.hid b18; have HN18 := Lib.hid n18; have HN22 := Lib.hid n22; have HN23 := Lib.hid n23; clear V18 a18 b18 n18 n22 n23 P0 P1 P2 P3 P4 PF R0 R1 R2 R3 R4 RF p0 p1 p2 p3 p4 pf r0 r1 r2 r3 r4 rf)
    have hwant := wantV (n := m) (m := n) hl4.out hl3.out HN22.out HN23.out (HU11.out.below HB18.out) (HX11.out.below HB18.out)
    have cS := refSame_any _ (.mk 5 0 [] [m, n] [y, x]) _ (Nat.le_refl _) W18 _ _ (HZ11.out.below HB18.out) hwant
    rw [JV.same_yes] at cS
    refine cS.mono ?_; rintro e w19 ⟨rfl, b19⟩
    have HB19 := Lib.hid ((HB11.out.trans (HB18.out.mono HB11.out.size)).trans (b19.mono (HB11.out.trans (HB18.out.mono HB11.out.size)).size))
    have HA18 : VAt w11.heap.size W18 (.int .u8 tk) (.int .i64 tn) (.string tt) (.slice ta ti tca) (.slice tb tj tcb) := HN18.out
    have cS2 := refSame_any _ (.mk 5 0 [] [m, n] [y, x]) _ (Nat.le_refl _) w19 _ _ ((HT11.out.below HB18.out).below b19) (hwant.below b19)
    rw [JV.same_yes] at cS2
    obtain ⟨⟨p0, p1, p2, p3, p4⟩, pf⟩ := (HA18.below b19).cells
    obtain ⟨⟨r0, r1, r2, r3, r4⟩, rf⟩ := (HV18.out.below b19).cells
    clear cS b19 hwant HA18 z0 z1 z2 z3 z4 zf y0 y1 y2 y3 y4 yf
    go_wp2_with fail
    refine cS2.mono ?_; rintro e w20 ⟨rfl, b20⟩
    have HB20 := Lib.hid (HB19.out.trans (b20.mono HB19.out.size))
    clear cS2 b20 p0 p1 p2 p3 p4 pf r0 r1 r2 r3 r4 rf
    go_wp2_with fail
    go_ret
    exact ⟨rfl, HB20.out⟩
end
end Go.Proofs.YtpifbmcgadjhbaaGreatDoor

namespace Go.Proofs.YtpifbmcgadjhbaaGreatDoor.readObjects
open Go.ChangeShapes Go.WideShapes Go.ChangeAt Go.RowKit

theorem reads (os : Os) {H : Type} (enc : TypeId × Value → H) : ∃ places, DataW.whole enc Tryz.prog ((laidWorld os).forCall (fun _ _ => 0) ⟨#[], #[.string ⟨#[]⟩, .string ⟨#[]⟩, .string ⟨#[]⟩, .string ⟨#[]⟩], []⟩).memory Tryz.f8.params.toList Rows.readObjectsSpec.vars false (#[.string ⟨#[]⟩, .string ⟨#[]⟩, .string ⟨#[]⟩, .string ⟨#[]⟩] : Array Value).toList 8 = some ([.lit (.string []), .lit (.string []), .lit (.string []), .lit (.string [])], [], places) :=
  ⟨[], by kernel_rfl⟩

set_option maxRecDepth 100000 in
theorem lifted (os : Os) (started : os.Started) (H : Type) (enc : TypeId × Value → H) (F : Stop.Interp) :
    ReturnsInHanded {} Tryz.checked os 8 .any ((OpenSpec.ofChange Rows.readObjectsSpec).preRow enc Tryz.prog Tryz.f8 Rows.readObjectsRow.domain false Rows.readObjectsRow.laid) (((OpenSpec.ofChange Rows.readObjectsSpec).at F).post enc Tryz.prog Tryz.f8 false true false false) := by
  obtain ⟨places, hx⟩ := reads os enc
  refine returnsInHanded_of_row (C := Tryz.checked) (s := OpenSpec.ofChange Rows.readObjectsSpec) own started (by kernel_rfl) Tryz.func8
    (witness_row_at (enc := enc) (C := Tryz.checked) false (laidWorld os) #[.string ⟨#[]⟩, .string ⟨#[]⟩, .string ⟨#[]⟩, .string ⟨#[]⟩] rfl (by kernel_rfl) (by kernel_rfl) (by kernel_rfl)
      (OpenSpec.preRow_of_cond 8 hx (by kernel_rfl) (fun k hk => by cases hk) (by kernel_rfl) (laid_any os _))) ?_
  intro W base args ds gs before hval hW _ _ _ hL _ _
  have hW' := hW
  obtain ⟨p, q, hA, _, _, _, _⟩ := hW
  rw [Tryz.params8] at hA hval
  obtain ⟨v0, vs0, d0, ds0, p0, q0, hargs, _, _, h0, r0⟩ := trodAll_cons hA
  obtain ⟨v1, vs1, d1, ds1, p1, q1, rfl, _, _, h1, r1⟩ := trodAll_cons r0
  obtain ⟨v2, vs2, d2, ds2, p2, q2, rfl, _, _, h2, r2⟩ := trodAll_cons r1
  obtain ⟨v3, vs3, d3, ds3, p3, q3, rfl, _, _, h3, r3⟩ := trodAll_cons r2
  obtain ⟨rfl, _, _⟩ := trodAll_nil r3
  obtain rfl : args = #[v0, v1, v2, v3] := by cases args; simp_all
  obtain ⟨t0, rfl, b0⟩ := arg_string (hval 0 9 v0 rfl rfl) h0
  obtain ⟨t1, rfl, b1⟩ := arg_string (hval 1 9 v1 rfl rfl) h1
  obtain ⟨t2, rfl, b2⟩ := arg_string (hval 2 9 v2 rfl rfl) h2
  obtain ⟨t3, rfl, b3⟩ := arg_string (hval 3 9 v3 rfl rfl) h3
  exact contract (s := Rows.readObjectsSpec) rfl rfl (by kernel_rfl) (fun l hl => by
    rw [Tryz.params8] at hl
    match l, hl with
    | [_, _, _, _], _ => rfl) hW' (law_ReadObjects t0 t1 t2 t3 W b0 b1 b2 b3 (tabs_of hL))

theorem said : Rows.ReadObjectsSaid :=
  OpenClaim.holds_of_cond 8 Tryz.f8 rfl rfl rfl rfl rfl rfl rfl ⟨rfl, rfl, rfl, rfl, rfl⟩ rfl rfl rfl rfl rfl (by kernel_rfl) Tryz.func8 (by kernel_rfl)
    (of_decide_eq_true (by kernel_rfl)) (by unfold Func.isWrapper; first | (rw [if_pos (by decide +kernel)]; kernel_rfl) | (rw [if_neg (by decide +kernel)]; exact ⟨rfl, rfl⟩))
    (fun os started H enc _ F => by rw [OpenClaim.pre_eq_preRow]; exact lifted os started H enc F)

theorem plain (f : FuncId) (fn : Func) (hf : Tryz.pinned.checked.prog.funcNamed "legate/legatelaw09.ReadObjects" = some f) (hfn : Tryz.pinned.checked.prog.funcs[f]? = some fn) :
    true = Tryz.pinned.checked.prog.looks [] ∧ ∀ (j : Nat) t, fn.params[j]? = some t → Tryz.pinned.checked.prog.wantsStandIn t = false := by
  obtain rfl : f = 8 := Option.some.inj ((show Tryz.prog.funcNamed "legate/legatelaw09.ReadObjects" = some 8 by kernel_rfl).symm.trans hf) |>.symm
  obtain rfl : fn = Tryz.f8 := (Option.some.inj (Tryz.func8.symm.trans hfn)).symm
  refine ⟨by kernel_rfl, fun j t ht => ?_⟩
  rw [Tryz.params8] at ht
  obtain rfl : t = 9 := by simpa using Array.mem_of_getElem? ht
  exact (show Tryz.prog.wantsStandIn 9 = false by kernel_rfl)

theorem card : Rows.ReadObjectsCardSaid :=
  Claim7.holds_tied_plain_at .later [] _ _ _ _ said (fun _ h => by cases h) (by kernel_rfl) (fun _ h => by cases h) readObjects_row_tie rfl ⟨rfl, rfl⟩ (by kernel_rfl) rfl plain (by kernel_rfl)
end Go.Proofs.YtpifbmcgadjhbaaGreatDoor.readObjects
