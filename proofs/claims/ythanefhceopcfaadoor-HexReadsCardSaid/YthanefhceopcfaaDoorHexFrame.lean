/-
  From the walks of the laws of package hex to what their rows ask: the arguments opened and shut again, once for each kind of parameters.
-/
import Derived.Test.YthanefhceopcfaaDoorCards
import Derived.Test.YthanefhceopcfaaDoorTie
import Derived.Test.YthanefhceopcfaaDoorHexVal
import Derived.ProofKit
import Derived.OpenShut
import Derived.Deep.DeepHandedRow
import Derived.Lib.LaidTab
namespace Go.Proofs.YthanefhceopcfaaDoor
open Go.ChangeShapes Go.WideShapes Go.ChangeAt Go.RowKit
open Go.ChangeMaps (open_string shut_string)

theorem own : ownKnob Tryd.prog.godebug = none := by kernel_rfl
theorem gTab : Tryd.prog.globalNamed "legate/hex.digits" = some 0 := by kernel_rfl
theorem gTabType : (Tryd.prog.globals[0]?).map (·.type) = some 40 := by kernel_rfl
theorem cellsTab : Tryd.prog.cellsOf 40 = 16 := by kernel_rfl
theorem cellsByte : Tryd.prog.cellsOf 5 = 1 := by kernel_rfl
theorem tab_of {rest : List (String × DataW Unit)} {W : World} (h : laidMet Tryd.prog (("legate/hex.digits", Rows.laid_legate_hex_digits) :: rest) W) : Tab W := by
  have ht : Lib.TabIs Tryd.prog W "legate/hex.digits" .u8 [48, 49, 50, 51, 52, 53, 54, 55, 56, 57, 97, 98, 99, 100, 101, 102] :=
    Lib.tabIs_of_head (rest := rest) gTab gTabType Tryd.underlying40 Tryd.underlying5 cellsByte cellsTab h
  unfold Lib.TabIs World.var? at ht
  rw [gTab] at ht
  simp only [Option.bind_some] at ht
  split at ht
  · rename_i cs t fr hg
    exact ⟨t, fr, by rw [hg]; simp only [Option.some.injEq] at ht; rw [ht]; rfl⟩
  · cases ht

section
variable {H : Type} {enc : TypeId × Value → H} {W : World} {base : Nat} {args : Array Value} {ds gs : List (DataW H)} {before : List MemPlace}

/-- nothing that was there has turned: what the row asks behind a law that came to true -/
theorem post_law {fn : Func} {s : ChangeSpec} {W' : World} {pa pv : List MemPlace} (hr : fn.resultTypes = #[4])
    (hW : DataW.Whole enc Tryd.prog fn.params.toList s.vars false W args.toList ds gs before)
    (hres : (s.fn H (ds ++ gs)).results = [.lit (.bool true)])
    (hargs : ∀ sp : Nat → Bool, DataW.TrodAll enc Tryd.prog W' 0 sp true fn.params.toList args.toList (s.fn H (ds ++ gs)).args pa)
    (hvars : ∀ sp : Nat → Bool, DataW.TrodVars enc Tryd.prog W' sp s.vars (s.fn H (ds ++ gs)).vars pv)
    (hps : before = pa ++ pv) (hb : Below W.heap.size W W') : s.post enc Tryd.prog fn false true false false W args (.bool true) W' := by
  refine ⟨ds, gs, before, [], pa, pv, hW, ?_, hargs _, hvars _, World.keptBut_mono (fun p hp => ⟨hp, ?_⟩) (hb.frame (· ∈ before)), fun h => by cases h⟩
  · rw [hr, hres]
    exact trodAll_cons_mk (shut_bool Tryd.underlying4 true) trodAll_mk0
  · rw [hps, List.mem_append] at hp
    exact Or.inr hp

theorem contract_si (F : FuncId) (fn : Func) (s : ChangeSpec) (hp : fn.params = #[9, 3]) (hr : fn.resultTypes = #[4]) (hv : s.vars = [])
    (hs : ∀ d1 d2 : DataW H, s.fn H [d1, d2] = { results := [.lit (.bool true)], args := [d1, d2] })
    (walk : ∀ (t0 : ByteArray) (i1 : Int) (W : World), t0.size ≤ maxLen → Tab W → Calls Tryd.prog F #[.string t0, .int .i64 i1] W fun e w' => e = .returned (.bool true) ∧ Below W.heap.size W w')
    (hval : ∀ (j : Nat) t v, fn.params[j]? = some t → args[j]? = some v → Value.okWide Tryd.prog W .any base t v)
    (hW : DataW.Whole enc Tryd.prog fn.params.toList s.vars false W args.toList ds gs before) (hT : Tab W) :
    Calls Tryd.prog F args W fun e W' => ∃ v, e = .returned v ∧ s.post enc Tryd.prog fn false true false false W args v W' := by
  have hW' := hW
  obtain ⟨p, q, hA0, hV, hpq, hfz, hnd⟩ := hW
  have hA : DataW.TrodAll enc Tryd.prog W 0 (fun _ => true) true fn.params.toList args.toList ds p := hA0
  rw [hp] at hA hval
  obtain ⟨v0, vs0, d0, ds0, p0, q0, hargs, rfl, rfl, h0, r0⟩ := trodAll_cons hA
  obtain ⟨v1, vs1, d1, ds1, p1, q1, rfl, rfl, rfl, h1, r1⟩ := trodAll_cons r0
  obtain ⟨rfl, rfl, rfl⟩ := trodAll_nil r1
  obtain rfl : args = #[v0, v1] := by cases args; simp_all
  rw [hv] at hV
  obtain ⟨rfl, rfl⟩ := trodVars_none hV
  obtain ⟨t0, rfl, rfl, rfl, b0⟩ := open_string Tryd.underlying9 (hval 0 9 v0 rfl rfl) h0
  obtain ⟨x1, rfl, rfl, rfl, b1⟩ := open_int Tryd.underlying3 (hval 1 3 v1 rfl rfl) h1
  refine (walk t0 x1 W b0 hT).mono fun e W' ⟨he, hg⟩ => ?_
  subst he
  refine ⟨_, rfl, post_law (pa := []) (pv := []) hr hW' (by rw [List.append_nil, hs]) (fun sp => ?_) (fun sp => ?_) hpq hg⟩
  · rw [hp, List.append_nil, hs]
    exact trodAll_cons_mk (shut_string Tryd.underlying9 b0) (trodAll_cons_mk (shut_int Tryd.underlying3 b1) trodAll_mk0)
  · rw [hv, List.append_nil, hs]
    exact rfl

theorem contract_s (F : FuncId) (fn : Func) (s : ChangeSpec) (hp : fn.params = #[9]) (hr : fn.resultTypes = #[4]) (hv : s.vars = [])
    (hs : ∀ d1 : DataW H, s.fn H [d1] = { results := [.lit (.bool true)], args := [d1] })
    (walk : ∀ (t0 : ByteArray) (W : World), t0.size ≤ maxLen → Tab W → Calls Tryd.prog F #[.string t0] W fun e w' => e = .returned (.bool true) ∧ Below W.heap.size W w')
    (hval : ∀ (j : Nat) t v, fn.params[j]? = some t → args[j]? = some v → Value.okWide Tryd.prog W .any base t v)
    (hW : DataW.Whole enc Tryd.prog fn.params.toList s.vars false W args.toList ds gs before) (hT : Tab W) :
    Calls Tryd.prog F args W fun e W' => ∃ v, e = .returned v ∧ s.post enc Tryd.prog fn false true false false W args v W' := by
  have hW' := hW
  obtain ⟨p, q, hA0, hV, hpq, hfz, hnd⟩ := hW
  have hA : DataW.TrodAll enc Tryd.prog W 0 (fun _ => true) true fn.params.toList args.toList ds p := hA0
  rw [hp] at hA hval
  obtain ⟨v0, vs0, d0, ds0, p0, q0, hargs, rfl, rfl, h0, r0⟩ := trodAll_cons hA
  obtain ⟨rfl, rfl, rfl⟩ := trodAll_nil r0
  obtain rfl : args = #[v0] := by cases args; simp_all
  rw [hv] at hV
  obtain ⟨rfl, rfl⟩ := trodVars_none hV
  obtain ⟨t0, rfl, rfl, rfl, b0⟩ := open_string Tryd.underlying9 (hval 0 9 v0 rfl rfl) h0
  refine (walk t0 W b0 hT).mono fun e W' ⟨he, hg⟩ => ?_
  subst he
  refine ⟨_, rfl, post_law (pa := []) (pv := []) hr hW' (by rw [List.append_nil, hs]) (fun sp => ?_) (fun sp => ?_) hpq hg⟩
  · rw [hp, List.append_nil, hs]
    exact trodAll_cons_mk (shut_string Tryd.underlying9 b0) trodAll_mk0
  · rw [hv, List.append_nil, hs]
    exact rfl

theorem contract_ss (F : FuncId) (fn : Func) (s : ChangeSpec) (hp : fn.params = #[9, 9]) (hr : fn.resultTypes = #[4]) (hv : s.vars = [])
    (hs : ∀ d1 d2 : DataW H, s.fn H [d1, d2] = { results := [.lit (.bool true)], args := [d1, d2] })
    (walk : ∀ (t0 : ByteArray) (t1 : ByteArray) (W : World), t0.size ≤ maxLen → t1.size ≤ maxLen → Tab W → Calls Tryd.prog F #[.string t0, .string t1] W fun e w' => e = .returned (.bool true) ∧ Below W.heap.size W w')
    (hval : ∀ (j : Nat) t v, fn.params[j]? = some t → args[j]? = some v → Value.okWide Tryd.prog W .any base t v)
    (hW : DataW.Whole enc Tryd.prog fn.params.toList s.vars false W args.toList ds gs before) (hT : Tab W) :
    Calls Tryd.prog F args W fun e W' => ∃ v, e = .returned v ∧ s.post enc Tryd.prog fn false true false false W args v W' := by
  have hW' := hW
  obtain ⟨p, q, hA0, hV, hpq, hfz, hnd⟩ := hW
  have hA : DataW.TrodAll enc Tryd.prog W 0 (fun _ => true) true fn.params.toList args.toList ds p := hA0
  rw [hp] at hA hval
  obtain ⟨v0, vs0, d0, ds0, p0, q0, hargs, rfl, rfl, h0, r0⟩ := trodAll_cons hA
  obtain ⟨v1, vs1, d1, ds1, p1, q1, rfl, rfl, rfl, h1, r1⟩ := trodAll_cons r0
  obtain ⟨rfl, rfl, rfl⟩ := trodAll_nil r1
  obtain rfl : args = #[v0, v1] := by cases args; simp_all
  rw [hv] at hV
  obtain ⟨rfl, rfl⟩ := trodVars_none hV
  obtain ⟨t0, rfl, rfl, rfl, b0⟩ := open_string Tryd.underlying9 (hval 0 9 v0 rfl rfl) h0
  obtain ⟨t1, rfl, rfl, rfl, b1⟩ := open_string Tryd.underlying9 (hval 1 9 v1 rfl rfl) h1
  refine (walk t0 t1 W b0 b1 hT).mono fun e W' ⟨he, hg⟩ => ?_
  subst he
  refine ⟨_, rfl, post_law (pa := []) (pv := []) hr hW' (by rw [List.append_nil, hs]) (fun sp => ?_) (fun sp => ?_) hpq hg⟩
  · rw [hp, List.append_nil, hs]
    exact trodAll_cons_mk (shut_string Tryd.underlying9 b0) (trodAll_cons_mk (shut_string Tryd.underlying9 b1) trodAll_mk0)
  · rw [hv, List.append_nil, hs]
    exact rfl

theorem contract_ui (F : FuncId) (fn : Func) (s : ChangeSpec) (hp : fn.params = #[25, 3]) (hr : fn.resultTypes = #[4]) (hv : s.vars = [])
    (hs : ∀ d1 d2 : DataW H, s.fn H [d1, d2] = { results := [.lit (.bool true)], args := [d1, d2] })
    (walk : ∀ (n0 : Nat) (i1 : Int) (W : World), n0 ≤ 18446744073709551615 → Tab W → Calls Tryd.prog F #[.int .u64 (n0 : Int), .int .i64 i1] W fun e w' => e = .returned (.bool true) ∧ Below W.heap.size W w')
    (hval : ∀ (j : Nat) t v, fn.params[j]? = some t → args[j]? = some v → Value.okWide Tryd.prog W .any base t v)
    (hW : DataW.Whole enc Tryd.prog fn.params.toList s.vars false W args.toList ds gs before) (hT : Tab W) :
    Calls Tryd.prog F args W fun e W' => ∃ v, e = .returned v ∧ s.post enc Tryd.prog fn false true false false W args v W' := by
  have hW' := hW
  obtain ⟨p, q, hA0, hV, hpq, hfz, hnd⟩ := hW
  have hA : DataW.TrodAll enc Tryd.prog W 0 (fun _ => true) true fn.params.toList args.toList ds p := hA0
  rw [hp] at hA hval
  obtain ⟨v0, vs0, d0, ds0, p0, q0, hargs, rfl, rfl, h0, r0⟩ := trodAll_cons hA
  obtain ⟨v1, vs1, d1, ds1, p1, q1, rfl, rfl, rfl, h1, r1⟩ := trodAll_cons r0
  obtain ⟨rfl, rfl, rfl⟩ := trodAll_nil r1
  obtain rfl : args = #[v0, v1] := by cases args; simp_all
  rw [hv] at hV
  obtain ⟨rfl, rfl⟩ := trodVars_none hV
  obtain ⟨x0, rfl, rfl, rfl, b0⟩ := open_int Tryd.underlying25 (hval 0 25 v0 rfl rfl) h0
  have u0 : 0 ≤ x0 ∧ x0 ≤ 18446744073709551615 := by
    have := b0
    simp only [Lit.wf, Bool.and_eq_true, decide_eq_true_eq] at this
    exact this
  obtain ⟨n0, rfl⟩ := Int.eq_ofNat_of_zero_le u0.1
  obtain ⟨x1, rfl, rfl, rfl, b1⟩ := open_int Tryd.underlying3 (hval 1 3 v1 rfl rfl) h1
  refine (walk n0 x1 W (by omega) hT).mono fun e W' ⟨he, hg⟩ => ?_
  subst he
  refine ⟨_, rfl, post_law (pa := []) (pv := []) hr hW' (by rw [List.append_nil, hs]) (fun sp => ?_) (fun sp => ?_) hpq hg⟩
  · rw [hp, List.append_nil, hs]
    exact trodAll_cons_mk (shut_int Tryd.underlying25 b0) (trodAll_cons_mk (shut_int Tryd.underlying3 b1) trodAll_mk0)
  · rw [hv, List.append_nil, hs]
    exact rfl

theorem contract_0 (F : FuncId) (fn : Func) (s : ChangeSpec) (hp : fn.params = #[]) (hr : fn.resultTypes = #[4]) (hv : s.vars = [])
    (hs : s.fn H [] = { results := [.lit (.bool true)], args := [] })
    (walk : ∀ (W : World), Tab W → Calls Tryd.prog F #[] W fun e w' => e = .returned (.bool true) ∧ Below W.heap.size W w')
    (_hval : ∀ (j : Nat) t v, fn.params[j]? = some t → args[j]? = some v → Value.okWide Tryd.prog W .any base t v)
    (hW : DataW.Whole enc Tryd.prog fn.params.toList s.vars false W args.toList ds gs before) (hT : Tab W) :
    Calls Tryd.prog F args W fun e W' => ∃ v, e = .returned v ∧ s.post enc Tryd.prog fn false true false false W args v W' := by
  have hW' := hW
  obtain ⟨p, q, hA0, hV, hpq, hfz, hnd⟩ := hW
  have hA : DataW.TrodAll enc Tryd.prog W 0 (fun _ => true) true fn.params.toList args.toList ds p := hA0
  rw [hp] at hA
  obtain ⟨hargs, rfl, rfl⟩ := trodAll_nil hA
  obtain rfl : args = #[] := by cases args; simp_all
  rw [hv] at hV
  obtain ⟨rfl, rfl⟩ := trodVars_none hV
  refine (walk W hT).mono fun e W' ⟨he, hg⟩ => ?_
  subst he
  refine ⟨_, rfl, post_law (pa := []) (pv := []) hr hW' (by rw [List.append_nil, hs]) (fun sp => ?_) (fun sp => ?_) hpq hg⟩
  · rw [hp, List.append_nil, hs]
    exact trodAll_mk0
  · rw [hv, List.append_nil, hs]
    exact rfl
end

end Go.Proofs.YthanefhceopcfaaDoor
