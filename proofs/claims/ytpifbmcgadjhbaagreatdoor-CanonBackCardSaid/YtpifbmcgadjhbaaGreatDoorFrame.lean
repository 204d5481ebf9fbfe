/-
  From a law's walk to what its row asks: whatever its arguments are, they read behind the call as they did.
-/
import Derived.Test.YtpifbmcgadjhbaaGreatDoorCards
import Derived.Test.YtpifbmcgadjhbaaGreatDoorTie
import Derived.Test.YtpifbmcgadjhbaaGreatDoorRows
import Derived.Test.YtpifbmcgadjhbaaGreatDoorBase
import Derived.ProofKit
import Derived.OpenShut
import Derived.OpenVars
import Derived.ChangeCalls
import Derived.Deep.DeepHandedRow
import Derived.Deep.Strs
import Derived.Deep.Grids
import Derived.Lib.LaidTab
namespace Go.Proofs.YtpifbmcgadjhbaaGreatDoor
open Go.ChangeShapes Go.WideShapes Go.ChangeAt Go.RowKit Go.WideElems Go.Deep
open Go.ChangeMaps (open_string shut_string)

theorem own : ownKnob Tryz.prog.godebug = none := by kernel_rfl
theorem laidOut : laidOutB Tryz.prog = true := by kernel_rfl
theorem cellsByte : Tryz.prog.cellsOf 5 = 1 := by kernel_rfl

section
variable {H : Type} {enc : TypeId × Value → H} {W : World} {base : Nat} {args : Array Value} {ds gs : List (DataW H)} {before : List MemPlace}
def rowed (P : Program) (ts : List TypeId) : Bool := ts.all fun t => P.readableRec t && decide (t < P.types.size)
theorem trodAll_stays {P : Program} (hl : laidOutB P = true) {W W' : World} (hb : Below W.heap.size W W') :
    ∀ {ts : List TypeId} {vs : List Value} {ds : List (DataW H)} {ps : List MemPlace}, rowed P ts = true → DataW.TrodAll enc P W 0 (fun _ => true) true ts vs ds ps → DataW.TrodAll enc P W' 0 (fun b => decide (b < W.heap.size)) true ts vs ds ps
  | [], vs, ds, ps, _, h => by
    obtain ⟨rfl, rfl, rfl⟩ := trodAll_nil h
    exact trodAll_mk0
  | t :: ts, vs, ds, ps, hr, h => by
    have hlt := h.lt
    obtain ⟨v, vs', d, ds', p, q, rfl, rfl, rfl, ⟨fuel, h1⟩, h2⟩ := trodAll_cons h
    simp only [rowed, List.all_cons, Bool.and_eq_true, decide_eq_true_eq] at hr
    have hp : ∀ x ∈ p, x.block < W.heap.size := fun x hx => hlt x (by simp [hx])
    exact ⟨p, q, ⟨fuel, DataW.trod_stays (kids_book hl hr.1.1) (book_sized hr.1.1) (fun h => by cases h) ⟨hr.1.2, book_self t⟩ h1 (fun x hx => hb.same (hp x hx)) (fun x hx => by simpa using hp x hx)⟩,
      trodAll_stays hl hb (by simpa [rowed] using hr.2) h2, rfl⟩

/-- THE BRIDGE. -/
theorem contract {F : FuncId} {fn : Func} {s : ChangeSpec} (hr : fn.resultTypes = #[4]) (hv : s.vars = []) (hrow : rowed Tryz.prog fn.params.toList = true)
    (hs : ∀ l : List (DataW H), l.length = fn.params.toList.length → s.fn H l = { results := [.lit (.bool true)], args := l })
    (hW : DataW.Whole enc Tryz.prog fn.params.toList s.vars false W args.toList ds gs before)
    (walk : Calls Tryz.prog F args W fun e w' => e = .returned (.bool true) ∧ Below W.heap.size W w') :
    Calls Tryz.prog F args W fun e W' => ∃ v, e = .returned v ∧ s.post enc Tryz.prog fn false true false false W args v W' := by
  have hW' := hW
  obtain ⟨p, q, hA0, hV, hpq, hfz, hnd⟩ := hW
  have hA : DataW.TrodAll enc Tryz.prog W 0 (fun _ => true) true fn.params.toList args.toList ds p := hA0
  rw [hv] at hV
  obtain ⟨rfl, rfl⟩ := trodVars_none hV
  have hlen := (trodAll_length hA).2
  refine walk.mono fun e W' ⟨he, hb⟩ => ?_
  subst he
  refine ⟨_, rfl, ds, [], before, [], p, [], hW', ?_, ?_, ?_, World.keptBut_mono (fun x hx => ⟨hx, ?_⟩) (hb.frame (· ∈ before)), fun h => by cases h⟩
  · rw [hr, List.append_nil, hs ds hlen]
    exact trodAll_cons_mk (shut_bool Tryz.underlying4 true) trodAll_mk0
  · rw [List.append_nil, hs ds hlen]
    exact trodAll_stays laidOut hb hrow hA
  · rw [hv, List.append_nil, hs ds hlen]
    exact rfl
  · rw [hpq, List.append_nil] at hx
    exact Or.inr (Or.inl hx)

/-! One argument opened. -/
section
variable {v : Value} {d : DataW H} {p : List MemPlace}
set_option maxRecDepth 10000 in
theorem arg_string (ho : Value.okWide Tryz.prog W .any base 9 v) (h : DataW.Trod enc Tryz.prog W 0 (fun _ => true) true 9 v d p) : ∃ t : ByteArray, v = .string t ∧ t.size ≤ maxLen := by
  obtain ⟨t, rfl, rfl, rfl, b⟩ := open_string Tryz.underlying9 ho h
  exact ⟨t, rfl, b⟩
set_option maxRecDepth 10000 in
theorem arg_int (ho : Value.okWide Tryz.prog W .any base 3 v) (h : DataW.Trod enc Tryz.prog W 0 (fun _ => true) true 3 v d p) : ∃ x : Int, v = .int .i64 x ∧ -9223372036854775808 ≤ x ∧ x ≤ 9223372036854775807 := by
  obtain ⟨x, rfl, rfl, rfl, b⟩ := open_int Tryz.underlying3 ho h
  simp [Lit.wf, IntKind.min, IntKind.max, IntKind.signed, IntKind.bits] at b
  exact ⟨x, rfl, b⟩
set_option maxRecDepth 10000 in
theorem arg_int64 (ho : Value.okWide Tryz.prog W .any base 2 v) (h : DataW.Trod enc Tryz.prog W 0 (fun _ => true) true 2 v d p) : ∃ x : Int, v = .int .i64 x ∧ -9223372036854775808 ≤ x ∧ x ≤ 9223372036854775807 := by
  obtain ⟨x, rfl, rfl, rfl, b⟩ := open_int Tryz.underlying2 ho h
  simp [Lit.wf, IntKind.min, IntKind.max, IntKind.signed, IntKind.bits] at b
  exact ⟨x, rfl, b⟩
set_option maxRecDepth 10000 in
theorem arg_bool (ho : Value.okWide Tryz.prog W .any base 4 v) (h : DataW.Trod enc Tryz.prog W 0 (fun _ => true) true 4 v d p) : ∃ b : Bool, v = .bool b := by
  obtain ⟨b, rfl, _⟩ := RowKit.open_bool Tryz.underlying4 ho h
  exact ⟨b, rfl⟩
set_option maxRecDepth 10000 in
theorem arg_uint8 (ho : Value.okWide Tryz.prog W .any base 5 v) (h : DataW.Trod enc Tryz.prog W 0 (fun _ => true) true 5 v d p) : ∃ x : UInt8, v = .int .u8 (x.toNat : Int) := by
  obtain ⟨x, rfl, rfl, rfl, b⟩ := open_int Tryz.underlying5 ho h
  simp [Lit.wf, IntKind.min, IntKind.max, IntKind.signed, IntKind.bits] at b
  refine ⟨UInt8.ofNat x.toNat, ?_⟩
  have : (UInt8.ofNat x.toNat).toNat = x.toNat % 256 := by simp [UInt8.toNat_ofNat']
  rw [this]
  congr 1
  omega
theorem getD_range {α : Type} (f : Nat → α) (x : α) (n i : Nat) (h : i < n) : ((List.range n).map f).getD i x = f i := by simp [h]
theorem cellsStr : Tryz.prog.cellsOf 9 = 1 := by kernel_rfl
set_option maxRecDepth 10000 in
theorem arg_strs (ho : Value.okWide Tryz.prog W .any base 23 v) (h : DataW.Trod enc Tryz.prog W 0 (fun _ => true) true 23 v d p) :
    ∃ (a : Option Addr) (L : List ByteArray) (cap : Nat), v = .slice a L.length cap ∧ SlS W a L ∧ ∀ i, i < L.length → (L.getD i ⟨#[]⟩).size ≤ maxLen := by
  obtain ⟨a0, len, cap, rfl⟩ := okWide_slice Tryz.underlying23 ho
  obtain ⟨fuel, hf⟩ := h
  rcases open_strs Tryz.underlying23 Tryz.underlying9 cellsStr hf with ⟨hcs, _⟩ | ⟨a, len', cap', m, Sx, hcs, _, hl, hm, hmm, _, hcell⟩
  · simp [Value.cells] at hcs
    obtain ⟨rfl, rfl, rfl⟩ := hcs
    exact ⟨none, [], 0, rfl, fun i hi => absurd hi (by simp), fun i hi => absurd hi (by simp)⟩
  · simp [Value.cells] at hcs
    obtain ⟨rfl, rfl, rfl⟩ := hcs
    simp only [if_true] at hmm
    subst hmm
    refine ⟨some a, (List.range len).map Sx, m, by simp, fun i hi => ?_, fun i hi => ?_⟩
    · have hi' : i < len := by simpa using hi
      obtain ⟨b, off, spot⟩ := a
      have hspot : spot = none := by simpa [Addr.add] using World.cell?_spot (hcell 0 (by omega)).1
      subst hspot
      refine ⟨b, off, rfl, ?_⟩
      rw [getD_range _ _ _ _ hi', ← add_plain]
      exact (hcell i (by omega)).1
    · have hi' : i < len := by simpa using hi
      rw [getD_range _ _ _ _ hi']
      exact (hcell i (by omega)).2
set_option maxRecDepth 10000 in
theorem arg_bytes (ho : Value.okWide Tryz.prog W .any base 36 v) (h : DataW.Trod enc Tryz.prog W 0 (fun _ => true) true 36 v d p) :
    ∃ (a : Option Addr) (L : List Nat) (cap : Nat), v = .slice a L.length cap ∧ SlU W a L := by
  obtain ⟨a0, len, cap, rfl⟩ := okWide_slice Tryz.underlying36 ho
  obtain ⟨fuel, hf⟩ := h
  rcases open_ints Tryz.underlying36 Tryz.underlying5 cellsByte hf with ⟨hcs, _⟩ | ⟨a, len', cap', zs, hcs, _, hl, hm, hz, _, hcell, hwf⟩
  · simp [Value.cells] at hcs
    obtain ⟨rfl, rfl, rfl⟩ := hcs
    exact ⟨none, [], 0, rfl, fun i hi => absurd hi (by simp), fun i => by simp⟩
  · simp [Value.cells] at hcs
    obtain ⟨rfl, rfl, rfl⟩ := hcs
    simp only [if_true] at hz
    have hin : ∀ i, 0 ≤ zs.getD i 0 ∧ zs.getD i 0 ≤ 255 := fun i => by
      by_cases hi : i < zs.length
      · have := hwf _ (List.getElem_mem hi)
        simp [Lit.wf, IntKind.min, IntKind.max, IntKind.signed, IntKind.bits] at this
        simp [List.getD_eq_getElem?_getD, hi]
        omega
      · simp [List.getD_eq_getElem?_getD, hi]
    refine ⟨some a, (List.range len).map fun i => (zs.getD i 0).toNat, cap, by simp, fun i hi => ?_, fun i => ?_⟩
    · have hi' : i < len := by simpa using hi
      obtain ⟨b, off, spot⟩ := a
      have hspot : spot = none := by simpa [Addr.add] using World.cell?_spot (hcell 0 (by omega))
      subst hspot
      refine ⟨b, off, rfl, ?_⟩
      rw [getD_range _ _ _ _ hi', ← add_plain, hcell i (by omega)]
      have := (hin i).1
      rw [Int.toNat_of_nonneg this]
    · by_cases hi : i < len
      · rw [getD_range _ _ _ _ hi]
        have := hin i
        omega
      · simp [hi]
end
end
theorem laidMet_tail {P : Program} {x : String × DataW Unit} {rest : List (String × DataW Unit)} {W : World} (h : laidMet P (x :: rest) W) : laidMet P rest W := by
  obtain ⟨ps, ⟨g, t, cs, fuel, p, q, _, _, _, _, hq, rfl⟩, hn, hc⟩ := h
  exact ⟨q, hq, (List.nodup_append.1 hn).2.1, fun b off hm => hc b off (List.mem_append.2 (.inr hm))⟩
end Go.Proofs.YtpifbmcgadjhbaaGreatDoor
