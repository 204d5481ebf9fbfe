/-
  Of a value without a byte below 20 (hexadecimal) in its texts and names Read of the form is the value; of another it is refused.
  The library's and the program's own tables, and the library's error, that the program's functions come to are what its text lays (the card ties them); nothing else is asked; nothing else is asked.
-/
import Derived.Test.YtpifbmcgadjhbaaGreatDoorFrame
import Derived.Test.YtpifbmcgadjhbaaGreatDoorLexTabs
import Derived.MakeChecks
import Derived.Lay
import Derived.Stop.LaidErr
import Derived.Test.YtpifbmcgadjhbaaGreatDoorValSize
import Derived.Test.YtpifbmcgadjhbaaGreatDoorBunC
import Derived.Test.YtpifbmcgadjhbaaGreatDoorBunS
import Derived.Test.YtpifbmcgadjhbaaGreatDoorBunK
import Derived.Test.YtpifbmcgadjhbaaGreatDoorValArg
namespace Go.Proofs.YtpifbmcgadjhbaaGreatDoor
section
open Go.ChangeShapes Go.WideShapes Go.ChangeAt Go.RowKit

/-- what every row of the seat lays -/
def LAID : List (String × DataW Unit) := Rows.readFrontRow.laid
theorem gDig : Tryz.prog.globalNamed "legate/hex.digits" = some 8 := by kernel_rfl
theorem gDigType : (Tryz.prog.globals[8]?).map (·.type) = some 220 := by kernel_rfl
theorem cellsDig : Tryz.prog.cellsOf 220 = 16 := by kernel_rfl
theorem cellsU8 : Tryz.prog.cellsOf 5 = 1 := by kernel_rfl
theorem row_of {name : String} {k : IntKind} {zs : List Int} {W : World} {g : Nat} (hg : Tryz.prog.globalNamed name = some g) (ht : Lib.TabIs Tryz.prog W name k zs) :
    ∃ t fr, W.heap[g]? = some (.cells (zs.map fun z => Value.int k z).toArray t fr) := by
  unfold Lib.TabIs World.var? at ht
  rw [hg] at ht
  simp only [Option.bind_some] at ht
  split at ht
  · rename_i cs t fr hx
    exact ⟨t, fr, by rw [hx]; simp only [Option.some.injEq] at ht; rw [ht]⟩
  · cases ht
theorem gPowType : (Tryz.prog.globals[0]?).map (·.type) = some 150 := by kernel_rfl
theorem cellsPow : Tryz.prog.cellsOf 150 = 20 := by kernel_rfl
theorem cellsU64 : Tryz.prog.cellsOf 139 = 1 := by kernel_rfl
theorem gRngType : (Tryz.prog.globals[5]?).map (·.type) = some 81 := by kernel_rfl
theorem rngRow : ∀ u, Tryz.prog.typeName? 3 u = some "*errors.errorString" → u = 207 := fun u h =>
  have star : "*" ++ "errors.errorString" = "*errors.errorString" := by decide
  typeName_ptr_named (nm := "errors.errorString") (by rw [star]; kernel_rfl) (by kernel_rfl) (by decide) u (by rw [star]; exact h)
theorem tabs_of {W : World} (h0 : laidMetH Tryz.prog LAID W) : TabL W := by
  have h : laidMet Tryz.prog LAID W := by rw [← MakeChecks.laidMetH_plain _ _ _ (by kernel_rfl)]; exact h0
  have h3 := laidMet_tail (laidMet_tail (laidMet_tail h))
  have h5 := laidMet_tail (laidMet_tail h3)
  have h1 : Lib.TabIs Tryz.prog W "legate/hex.digits" .u8 [48, 49, 50, 51, 52, 53, 54, 55, 56, 57, 97, 98, 99, 100, 101, 102] :=
    Lib.tabIs_of_head gDig gDigType Tryz.underlying220 Tryz.underlying5 cellsU8 cellsDig h
  refine ⟨row_of gDig h1, Lib.tabIs_of_head gPow gPowType Tryz.underlying150 Tryz.underlying139 cellsU64 cellsPow h3, ?_⟩
  obtain ⟨a, s, hv, _⟩ := laid_sentinel h5 gRng gRngType Tryz.underlying81 rngRow Tryz.underlying207 Tryz.underlying209 rfl rfl Tryz.underlying9 (by kernel_rfl) (by kernel_rfl)
  exact ⟨_, _, hv⟩
/-- a world in which the variables are laid: for the witness -/
noncomputable def laidWorld (os : Os) : World := World.laidAll Tryz.prog os LAID
theorem laid_fits (os : Os) : (World.holding Tryz.prog os ⟨#[], #[], []⟩).layFits Tryz.prog LAID [] = true := by kernel_rfl
theorem laid_ifaces (os : Os) : (World.holding Tryz.prog os ⟨#[], #[], []⟩).layIfaces Tryz.prog LAID (World.laidAll Tryz.prog os LAID) = true := by kernel_rfl
theorem laid_plain : (LAID.all fun x => x.2.handleName?.isNone) = true := by kernel_rfl
theorem laid_any (os : Os) (args : Array Value) : laidMetH Tryz.prog LAID ((laidWorld os).forCall (fun _ _ => 0) ⟨#[], args, []⟩).memory := by
  rw [MakeChecks.laidMetH_plain _ _ _ laid_plain]
  exact laidMet_laidAll args (laid_fits os) (laid_ifaces os)
end

section
open Go.RowKit

/-- a value in sight, its cells written out -/
theorem HV.open {w : World} {v : Value} {y : JV} (hv : HV w v y) : ∃ a b ca cb, v = .agg #[.int .u8 (y.k : Int), .int .i64 y.n, .string (S y.t), .slice a y.ns.length ca, .slice b y.is.length cb] ∧
    (∀ w', Below w.heap.size w w' → HV w' (.agg #[.int .u8 (y.k : Int), .int .i64 y.n, .string (S y.t), .slice a y.ns.length ca, .slice b y.is.length cb]) y) ∧ (y.is = [] ∨ ∃ blk off, b = some ⟨blk, off, none⟩ ∧ HI w blk off y.is) ∧ NS w a y.ns ∧ JB y.k y.n y.t y.ns y.is.length := by
  obtain ⟨cs, rfl, hc⟩ := hv
  obtain ⟨a, b, ca, cb, rfl, hB, hN, hI⟩ := hc.form
  exact ⟨a, b, ca, cb, rfl, fun w' h => ⟨_, rfl, HC.below h y _ hc⟩, hI, hN, hB⟩
set_option maxHeartbeats 1000000 in
set_option maxRecDepth 10000 in
theorem long_any (xs : List JV) (w : World) (b : Option Addr) (cb : Nat) (hl : xs.length ≤ maxLen) (hI : xs = [] ∨ ∃ blk off, b = some ⟨blk, off, none⟩ ∧ HI w blk off xs) :
    Calls Tryz.prog 18 #[.slice b xs.length cb] w fun e w' => (∃ B : Bool, e = .returned (.bool B) ∧ (B = false → JV.wts xs < 20000)) ∧ w = w' := by
  have cS := size_any _ xs (Nat.le_refl _) w b cb 0 (by omega) hl hI
  generalize xs.length = m at *
  rw [show ((0 : Nat) : Int) = 0 from rfl] at cS
  go_enter Tryz.func18, Tryz.ntmps18
  go_wp2_with fail
  refine cS.mono ?_; rintro e w1 ⟨⟨Z, rfl, hZ, _⟩, rfl⟩
  have HZ := Lib.hid hZ
  clear hZ
  by_cases h : (20000 : Int) ≤ (Z : Int)
  · go_wp2_with fail
    go_ret
    refine ⟨⟨_, rfl, fun h2 => ?_⟩, rfl⟩
    first | (have := of_decide_eq_false h2; omega) | simp at h2
  · go_wp2_with fail
    go_ret
    exact ⟨⟨_, rfl, fun _ => by have := HZ.out (by omega); omega⟩, rfl⟩

/-- two values that a law was handed, each in a block of its own, and both in a row behind them, over which Long goes -/
theorem head2 {w : World} {v u : Value} {x y : JV} (hv : HV w v x) (hu : HV w u y) :
    ∃ a b ca cb a' b' ca' cb', v = .agg #[.int .u8 (x.k : Int), .int .i64 x.n, .string (S x.t), .slice a x.ns.length ca, .slice b x.is.length cb] ∧ u = .agg #[.int .u8 (y.k : Int), .int .i64 y.n, .string (S y.t), .slice a' y.ns.length ca', .slice b' y.is.length cb'] ∧
      ∀ W3, W3 = ((w.alloc (.cells #[.int .u8 (x.k : Int), .int .i64 x.n, .string (S x.t), .slice a x.ns.length ca, .slice b x.is.length cb] 26)).alloc (.cells #[.int .u8 (y.k : Int), .int .i64 y.n, .string (S y.t), .slice a' y.ns.length ca', .slice b' y.is.length cb'] 26)).alloc
          (.cells #[.int .u8 (x.k : Int), .int .i64 x.n, .string (S x.t), .slice a x.ns.length ca, .slice b x.is.length cb, .int .u8 (y.k : Int), .int .i64 y.n, .string (S y.t), .slice a' y.ns.length ca', .slice b' y.is.length cb'] 26) →
        Below w.heap.size w W3 ∧
        (∀ W, Below W3.heap.size W3 W → VAt w.heap.size W (.int .u8 (x.k : Int)) (.int .i64 x.n) (.string (S x.t)) (.slice a x.ns.length ca) (.slice b x.is.length cb)) ∧
        (∀ W, Below W3.heap.size W3 W → VAt (w.heap.size + 1) W (.int .u8 (y.k : Int)) (.int .i64 y.n) (.string (S y.t)) (.slice a' y.ns.length ca') (.slice b' y.is.length cb')) ∧
        (∀ W, Below W3.heap.size W3 W → HV W (.agg #[.int .u8 (x.k : Int), .int .i64 x.n, .string (S x.t), .slice a x.ns.length ca, .slice b x.is.length cb]) x) ∧
        (∀ W, Below W3.heap.size W3 W → HV W (.agg #[.int .u8 (y.k : Int), .int .i64 y.n, .string (S y.t), .slice a' y.ns.length ca', .slice b' y.is.length cb']) y) ∧
        Calls Tryz.prog 18 #[.slice (some ⟨w.heap.size + 1 + 1, 0, none⟩) 2 2] W3 fun e w' => (∃ B : Bool, e = .returned (.bool B) ∧ (B = false → x.wt + y.wt < 20000)) ∧ W3 = w' := by
  obtain ⟨a, b, ca, cb, rfl, hV, _, _, _⟩ := hv.open
  obtain ⟨a', b', ca', cb', rfl, hV', _, _, _⟩ := hu.open
  refine ⟨a, b, ca, cb, a', b', ca', cb', rfl, rfl, fun W3 hW => ?_⟩
  obtain ⟨W1, hW1⟩ : ∃ W, W = w.alloc (.cells #[.int .u8 (x.k : Int), .int .i64 x.n, .string (S x.t), .slice a x.ns.length ca, .slice b x.is.length cb] 26) := ⟨_, rfl⟩
  rw [← hW1] at hW
  obtain ⟨W2, hW2⟩ : ∃ W, W = W1.alloc (.cells #[.int .u8 (y.k : Int), .int .i64 y.n, .string (S y.t), .slice a' y.ns.length ca', .slice b' y.is.length cb'] 26) := ⟨_, rfl⟩
  rw [← hW2] at hW
  have b1 : Below w.heap.size w W1 := by rw [hW1]; exact (Below.refl _ _).alloc (Nat.le_refl _) _
  have b12 : Below W1.heap.size W1 W2 := by rw [hW2]; exact (Below.refl _ _).alloc (Nat.le_refl _) _
  have b23 : Below W2.heap.size W2 W3 := by rw [hW]; exact (Below.refl _ _).alloc (Nat.le_refl _) _
  have V1 : VAt w.heap.size W1 (.int .u8 (x.k : Int)) (.int .i64 x.n) (.string (S x.t)) (.slice a x.ns.length ca) (.slice b x.is.length cb) := by rw [hW1]; exact VAt.new ..
  have V2 : VAt W1.heap.size W2 (.int .u8 (y.k : Int)) (.int .i64 y.n) (.string (S y.t)) (.slice a' y.ns.length ca') (.slice b' y.is.length cb') := by rw [hW2]; exact VAt.new ..
  have e1 : W1.heap.size = w.heap.size + 1 := by rw [hW1]; simp
  have e2 : W2.heap.size = w.heap.size + 1 + 1 := by rw [hW2]; simp [e1]
  have c2 := b1.trans (b12.mono b1.size)
  have c3 := c2.trans (b23.mono c2.size)
  have V1 := (V1.below b12).below b23
  have V2 := V2.below b23
  have i3 : W3.heap[W2.heap.size]? = some (.cells (([.int .u8 (x.k : Int), .int .i64 x.n, .string (S x.t), .slice a x.ns.length ca, .slice b x.is.length cb] : List Value) ++ ([.int .u8 (y.k : Int), .int .i64 y.n, .string (S y.t), .slice a' y.ns.length ca', .slice b' y.is.length cb'] : List Value)).toArray 26 (0, 0)) := by rw [hW]; exact heap_alloc_new W2 _
  obtain ⟨cs, hcs, hc⟩ := hV W3 c3
  obtain rfl : cs = [.int .u8 (x.k : Int), .int .i64 x.n, .string (S x.t), .slice a x.ns.length ca, .slice b x.is.length cb] := by simpa using hcs.symm
  obtain ⟨cs', hcs', hc'⟩ := hV' W3 c3
  obtain rfl : cs' = [.int .u8 (y.k : Int), .int .i64 y.n, .string (S y.t), .slice a' y.ns.length ca', .slice b' y.is.length cb'] := by simpa using hcs'.symm
  have cL := long_any ([x] ++ [y]) W3 (some ⟨W2.heap.size, 0, none⟩) 2 (by show 2 ≤ maxLen; unfold maxLen; omega) (.inr ⟨W2.heap.size, 0, rfl, HI.of_block i3 (HCS.snoc hc' (HCS.one hc))⟩)
  rw [e2, show ([x] ++ [y]).length = 2 from rfl] at cL
  rw [e1] at V2
  refine ⟨c3, fun W h => V1.below h, fun W h => V2.below h, fun W h => ⟨_, rfl, HC.below h x _ hc⟩, fun W h => ⟨_, rfl, HC.below h y _ hc'⟩, cL.mono fun e w' ⟨⟨B, h1, h2⟩, h3⟩ => ⟨⟨B, h1, fun h => ?_⟩, h3⟩⟩
  have := h2 h
  simp only [JV.wts, List.cons_append, List.nil_append] at this
  omega
/-- a value that a law was handed, in a block of its own, and in a row behind it, over which Long goes -/
theorem head1 {w : World} {v : Value} {x : JV} (hv : HV w v x) :
    ∃ a b ca cb, v = .agg #[.int .u8 (x.k : Int), .int .i64 x.n, .string (S x.t), .slice a x.ns.length ca, .slice b x.is.length cb] ∧
      (x.is = [] ∨ ∃ blk off, b = some ⟨blk, off, none⟩ ∧ HI w blk off x.is) ∧ NS w a x.ns ∧ JB x.k x.n x.t x.ns x.is.length ∧
      ∀ W2, W2 = (w.alloc (.cells #[.int .u8 (x.k : Int), .int .i64 x.n, .string (S x.t), .slice a x.ns.length ca, .slice b x.is.length cb] 26)).alloc
          (.cells #[.int .u8 (x.k : Int), .int .i64 x.n, .string (S x.t), .slice a x.ns.length ca, .slice b x.is.length cb] 26) →
        Below w.heap.size w W2 ∧
        (∀ W, Below W2.heap.size W2 W → VAt w.heap.size W (.int .u8 (x.k : Int)) (.int .i64 x.n) (.string (S x.t)) (.slice a x.ns.length ca) (.slice b x.is.length cb)) ∧
        (∀ W, Below W2.heap.size W2 W → HV W (.agg #[.int .u8 (x.k : Int), .int .i64 x.n, .string (S x.t), .slice a x.ns.length ca, .slice b x.is.length cb]) x) ∧
        Calls Tryz.prog 18 #[.slice (some ⟨w.heap.size + 1, 0, none⟩) 1 1] W2 fun e w' => (∃ B : Bool, e = .returned (.bool B) ∧ (B = false → x.wt < 20000)) ∧ W2 = w' := by
  obtain ⟨a, b, ca, cb, rfl, hV, hI, hN, hJ⟩ := hv.open
  refine ⟨a, b, ca, cb, rfl, hI, hN, hJ, fun W2 hW => ?_⟩
  obtain ⟨W1, hW1⟩ : ∃ W, W = w.alloc (.cells #[.int .u8 (x.k : Int), .int .i64 x.n, .string (S x.t), .slice a x.ns.length ca, .slice b x.is.length cb] 26) := ⟨_, rfl⟩
  rw [← hW1] at hW
  have b1 : Below w.heap.size w W1 := by rw [hW1]; exact (Below.refl _ _).alloc (Nat.le_refl _) _
  have b12 : Below W1.heap.size W1 W2 := by rw [hW]; exact (Below.refl _ _).alloc (Nat.le_refl _) _
  have V1 : VAt w.heap.size W1 (.int .u8 (x.k : Int)) (.int .i64 x.n) (.string (S x.t)) (.slice a x.ns.length ca) (.slice b x.is.length cb) := by rw [hW1]; exact VAt.new ..
  have e1 : W1.heap.size = w.heap.size + 1 := by rw [hW1]; simp
  have c2 := b1.trans (b12.mono b1.size)
  have V1 := V1.below b12
  have i2 : W2.heap[W1.heap.size]? = some (.cells #[.int .u8 (x.k : Int), .int .i64 x.n, .string (S x.t), .slice a x.ns.length ca, .slice b x.is.length cb] 26 (0, 0)) := by rw [hW]; exact heap_alloc_new W1 _
  obtain ⟨cs, hcs, hc⟩ := hV W2 c2
  obtain rfl : cs = [.int .u8 (x.k : Int), .int .i64 x.n, .string (S x.t), .slice a x.ns.length ca, .slice b x.is.length cb] := by simpa using hcs.symm
  have cL := long_any [x] W2 (some ⟨W1.heap.size, 0, none⟩) 1 (by show 1 ≤ maxLen; unfold maxLen; omega) (.inr ⟨W1.heap.size, 0, rfl, HI.of_block i2 (HCS.one hc)⟩)
  rw [e1, show [x].length = 1 from rfl] at cL
  refine ⟨c2, fun W h => V1.below h, fun W h => ⟨_, rfl, HC.below h x _ hc⟩, cL.mono fun e w' ⟨⟨B, h1, h2⟩, h3⟩ => ⟨⟨B, h1, fun h => ?_⟩, h3⟩⟩
  have := h2 h
  simp only [JV.wts] at this
  omega
end

section
open Go.RowKit
namespace Rd

theorem insN_end {l : List UInt8} : ∀ {ns : List (List UInt8)}, (∀ x ∈ ns, Jn.lt x l = true) → insN l ns = ns ++ [l]
  | [], _ => rfl
  | x :: xs, h => by rw [insN, if_pos (h x List.mem_cons_self), insN_end fun z hz => h z (List.mem_cons_of_mem _ hz)]; rfl
theorem insI_end {l : List UInt8} {y : JV} : ∀ {ns : List (List UInt8)} {is : List JV}, ns.length = is.length → (∀ x ∈ ns, Jn.lt x l = true) → insI l y ns is = is ++ [y]
  | [], [], _, _ => rfl
  | x :: xs, z :: zs, hl, h => by rw [insI, if_pos (h x List.mem_cons_self), insI_end (by simpa using hl) fun z hz => h z (List.mem_cons_of_mem _ hz)]; rfl
theorem insA_rise : ∀ (ns : List (List UInt8)) (is : List JV) (an : List (List UInt8)) (ai : List JV), ns.length = is.length → an.length = ai.length → Rise ns → (∀ x ∈ an, ∀ y ∈ ns, Jn.lt x y = true) → insAN (ns.zip is) an = an ++ ns ∧ insAI (ns.zip is) an ai = ai ++ is
  | [], [], an, ai, _, _, _, _ => by simp [insAN, insAI]
  | n :: ns, i :: is, an, ai, hl, ha, hr, hx => by
    have hr2 := List.pairwise_cons.1 hr
    have h1 : ∀ x ∈ an, Jn.lt x n = true := fun x hm => hx x hm n List.mem_cons_self
    rw [List.zip_cons_cons, insAN, insAI]
    show insAN (ns.zip is) (insN n an) = _ ∧ insAI (ns.zip is) (insN n an) (insI n i an ai) = _
    rw [insN_end h1, insI_end ha h1]
    obtain ⟨g1, g2⟩ := insA_rise ns is (an ++ [n]) (ai ++ [i]) (by simpa using hl) (by simp [ha]) hr2.2 fun x hm y hy => by
      rcases List.mem_append.1 hm with hm | hm
      · exact hx x hm y (List.mem_cons_of_mem _ hy)
      · obtain rfl := List.mem_singleton.1 hm
        exact hr2.1 y hy
    rw [g1, g2]
    simp
theorem rise_of' : ∀ {ns : List (List UInt8)}, Jn.rise ns = true → Rise ns
  | [], _ => List.Pairwise.nil
  | [_], _ => List.pairwise_singleton _ _
  | x :: y :: r, h => by
    rw [Jn.rise, Bool.and_eq_true] at h
    have ih := rise_of' h.2
    refine List.Pairwise.cons (fun z hz => ?_) ih
    rcases List.mem_cons.1 hz with rfl | hz
    · exact h.1
    · exact lt_tr h.1 ((List.pairwise_cons.1 ih).1 z hz)
theorem dis_rise : ∀ (ns : List (List UInt8)) (is : List JV), Rise ns → List.Pairwise (fun p q : List UInt8 × JV => p.1 ≠ q.1) (ns.zip is)
  | [], _, _ => by simp
  | _ :: _, [], _ => by simp
  | n :: ns, i :: is, h => by
    have h2 := List.pairwise_cons.1 h
    rw [List.zip_cons_cons]
    refine List.Pairwise.cons (fun q hq e => ?_) (dis_rise ns is h2.2)
    have hm := (List.of_mem_zip (show (q.1, q.2) ∈ ns.zip is from hq)).1
    have := h2.1 _ hm
    rw [← e] at this
    have e2 := Jn.lt_irrefl n
    rw [this] at e2
    cases e2
end Rd
namespace Cn
mutual
/-- is a byte below 32 in a text, or a name? -/
def lowV : JV → Bool
  | .mk _ _ t ns is => Qm.lowB t || (ns.any Qm.lowB || lowVs is)
def lowVs : List JV → Bool
  | [] => false
  | x :: xs => lowV x || lowVs xs
end
theorem name_tx {l : List UInt8} (h : Jn.txt l = true) (hb : Qm.lowB l = false) : NTx l (Qm.quo l) := by
  unfold Jn.txt at h
  rw [Bool.and_eq_true] at h
  refine NTx.quo (fun e => ?_) (of_decide_eq_true h.2) hb
  rw [LEN_none e] at h
  cases h.1
theorem cat_true : ∀ {xs : List JV}, xs ≠ [] → cat true xs = 44 :: cat false xs
  | [], h => absurd rfl h
  | x :: xs, _ => by rw [cat_cons, cat_cons]; rfl
theorem mem_true : ∀ {ns : List (List UInt8)} {xs : List JV}, xs ≠ [] → ns.length = xs.length → mem true ns xs = 44 :: mem false ns xs
  | _, [], h, _ => absurd rfl h
  | [], _ :: _, _, h => by simp at h
  | n :: ns, x :: xs, _, _ => by rw [mem_cons, mem_cons]; rfl
theorem mem_nil (b : Bool) : mem b [] [] = [] := by rw [mem]
mutual
theorem form_tx : ∀ x : JV, x.part = true → inr x → lowV x = false → Tx x (form x)
  | .mk k n t ns is, hp, hi, hb => by
    obtain ⟨p1, p2, p3, p4, p5⟩ := part_bare hp
    have hk : k = 1 ∨ k = 2 ∨ k = 3 ∨ k = 4 ∨ k = 5 := part_k hp
    rw [lowV] at hb
    simp only [Bool.or_eq_false_iff] at hb
    rw [inr] at hi
    rcases hk with rfl | rfl | rfl | rfl | rfl
    · obtain ⟨hn, rfl, rfl, rfl⟩ := p1 rfl
      rw [form_1]
      rcases hn with rfl | rfl
      · rw [if_neg (by decide)]; exact Tx.no
      · rw [if_pos rfl]; exact Tx.yes
    · obtain ⟨rfl, rfl, rfl⟩ := p2 rfl
      rw [form_2]
      exact Tx.num hi.1.1 hi.1.2
    · obtain ⟨rfl, rfl, rfl, ht⟩ := p3 rfl
      rw [form_3]
      exact (name_tx ht hb.1).tx
    · obtain ⟨rfl, rfl, rfl, hq⟩ := p4 rfl
      rw [form_4]
      by_cases he : is = []
      · rw [he, cat]; exact Tx.nolist (v := []) rfl
      · exact (cat_tx is he hq hi.2 hb.2.2).list
    · obtain ⟨rfl, rfl, hl, hr, hq, ht⟩ := p5 rfl
      rw [form_5]
      by_cases he : is = []
      · have hn : ns = [] := List.length_eq_zero_iff.1 (by rw [hl, he]; rfl)
        rw [he, hn, mem_nil]
        exact Tx.noobj (v := []) rfl
      · have h2 := (mem_tx is ns he hl hq ht hi.2 hb.2.2 hb.2.1).object ⟨fun _ _ h => (by cases h), Rd.dis_rise _ _ (Rd.rise_of' hr)⟩
        obtain ⟨g1, g2⟩ := Rd.insA_rise ns is [] [] hl rfl (Rd.rise_of' hr) (fun _ h => by cases h)
        rw [g1, g2] at h2
        exact h2
theorem cat_tx : ∀ (xs : List JV), xs ≠ [] → JV.parts xs = true → inrs xs → lowVs xs = false → LTx xs (cat false xs ++ [93])
  | [], h, _, _, _ => absurd rfl h
  | x :: xs, _, hp, hi, hb => by
    rw [JV.parts, Bool.and_eq_true] at hp
    rw [inrs] at hi
    rw [lowVs, Bool.or_eq_false_iff] at hb
    have h1 := form_tx x hp.1 hi.1 hb.1
    rw [cat_cons]
    by_cases he : xs = []
    · rw [he, cat]
      simpa [hd] using h1.last
    · have h2 := h1.next (cat_tx xs he hp.2 hi.2 hb.2)
      rw [cat_true he]
      simpa [hd] using h2
theorem mem_tx : ∀ (xs : List JV) (ns : List (List UInt8)), xs ≠ [] → ns.length = xs.length → JV.parts xs = true → (∀ z ∈ ns, Jn.txt z = true) → inrs xs → lowVs xs = false → ns.any Qm.lowB = false → OTx (ns.zip xs) (mem false ns xs ++ [125])
  | [], _, h, _, _, _, _, _, _ => absurd rfl h
  | x :: xs, [], _, hl, _, _, _, _, _ => by simp at hl
  | x :: xs, m :: ns, _, hl, hp, ht, hi, hb, hn => by
    rw [JV.parts, Bool.and_eq_true] at hp
    rw [inrs] at hi
    rw [lowVs, Bool.or_eq_false_iff] at hb
    rw [List.any_cons, Bool.or_eq_false_iff] at hn
    have hl : ns.length = xs.length := by simpa using hl
    have h1 := form_tx x hp.1 hi.1 hb.1
    have hm := name_tx (ht m List.mem_cons_self) hn.1
    rw [mem_cons]
    by_cases he : xs = []
    · have hns : ns = [] := List.length_eq_zero_iff.1 (by rw [hl, he]; rfl)
      rw [he, hns, mem_nil]
      simpa [hd] using OTx.last hm h1
    · have h2 := OTx.next hm h1 (mem_tx xs ns he hl hp.2 (fun z hz => ht z (List.mem_cons_of_mem _ hz)) hi.2 hb.2 hn.2)
      rw [mem_true he hl]
      simpa [hd] using h2
end
end Cn
end

section
open Go.RowKit

/-- some mark of the text is none -/
def Bad (u : List UInt8) : Prop := ∃ b E, TS u 0 b E ∧ E.2 ≠ 0
theorem Bad.behind {s v : List UInt8} {a : List Lm.Mark} (h : Ful s a) (hv : Lm.Stop v) (hb : Bad v) : Bad (s ++ v) := by
  obtain ⟨b, E, h1, h2⟩ := hb
  have h3 := h1.shift s (Nat.zero_le _)
  rw [Nat.add_zero] at h3
  exact ⟨_, _, TS.app hv h (Nat.zero_le _) rfl _ _ h3, h2⟩
theorem Bad.one {c : UInt8} (h0 : Lm.punct c ≠ 0) {v : List UInt8} (hb : Bad v) : Bad (c :: v) := by
  obtain ⟨b, E, h1, h2⟩ := hb
  have h3 := h1.shift [c] (Nat.zero_le _)
  have hws : Lm.ws c = false := by
    cases hw : Lm.ws c with
    | false => rfl
    | true =>
      exfalso
      rcases Lm.ws_cases hw with rfl | rfl | rfl | rfl <;> exact h0 (by decide)
  have hs : Lm.skip (c :: v) 0 = 0 := by
    unfold Lm.skip
    rw [Lm.run_stop (d := c) (by rfl) hws]
  have hp6 := Lm.punct_le c
  exact ⟨_, _, .more (m := ⟨Lm.punct c, 0, 1, 0, []⟩) (by rw [hs]; exact Lm.mark_punct (by rfl) rfl h0) (show Lm.punct c ≠ 11 by omega) h3, h2⟩
theorem Bad.text {l v : List UInt8} (ht : Jn.txt l = true) (hb : Qm.lowB l = true) : Bad (Qm.quo l ++ v) := by
  unfold Jn.txt at ht
  rw [Bool.and_eq_true] at ht
  have hc : Um.cnt l ≠ none := fun e => by
    rw [LEN_none e] at ht
    cases ht.1
  have hr := Qm.RDF_low (l.length + 1) l ([34] ++ v) 0 (by omega) hc hb (by have := of_decide_eq_true ht.2; omega)
  have e : Qm.quo l ++ v = 34 :: (Qm.esc l ++ ([34] ++ v)) := by unfold Qm.quo; simp
  rw [e]
  have hs : Lm.skip (34 :: (Qm.esc l ++ ([34] ++ v))) 0 = 0 := by
    unfold Lm.skip
    rw [Lm.run_stop (d := 34) (by rfl) (by decide)]
  refine ⟨[], _, .bad (e := 3) ?_ (by decide), show (3 : Nat) ≠ 0 by decide⟩
  rw [hs, Lm.mark_tok _ _ (Nat.zero_le _), List.drop_zero, Lm.tok, if_neg (by decide), if_pos rfl, hr]
  rfl
namespace Cn
mutual
theorem form_bad : ∀ x : JV, x.part = true → inr x → lowV x = true → ∀ v, Bad (form x ++ v)
  | .mk k n t ns is, hp, hi, hb, v => by
    obtain ⟨p1, p2, p3, p4, p5⟩ := part_bare hp
    have hk : k = 1 ∨ k = 2 ∨ k = 3 ∨ k = 4 ∨ k = 5 := part_k hp
    rw [lowV] at hb
    rw [inr] at hi
    rcases hk with rfl | rfl | rfl | rfl | rfl
    · obtain ⟨hn, rfl, rfl, rfl⟩ := p1 rfl
      simp [Qm.lowB, lowVs] at hb
    · obtain ⟨rfl, rfl, rfl⟩ := p2 rfl
      simp [Qm.lowB, lowVs] at hb
    · obtain ⟨rfl, rfl, rfl, ht⟩ := p3 rfl
      rw [form_3]
      have hb : Qm.lowB t = true := by simpa [lowVs] using hb
      exact Bad.text ht hb
    · obtain ⟨rfl, rfl, rfl, hq⟩ := p4 rfl
      have hb : lowVs is = true := by simpa [Qm.lowB] using hb
      rw [form_4, List.cons_append, List.append_assoc]
      exact Bad.one (by decide) (cat_bad is hq hi.2 hb _)
    · obtain ⟨rfl, rfl, hl, hr, hq, ht⟩ := p5 rfl
      have hb : (ns.any Qm.lowB || lowVs is) = true := by simpa [Qm.lowB] using hb
      rw [form_5, List.cons_append, List.append_assoc]
      exact Bad.one (by decide) (mem_bad is ns hl hq ht hi.2 hb _)
theorem cat_bad : ∀ (xs : List JV), JV.parts xs = true → inrs xs → lowVs xs = true → ∀ v, Bad (cat false xs ++ v)
  | [], _, _, hb, _ => by rw [lowVs] at hb; cases hb
  | x :: xs, hp, hi, hb, v => by
    rw [JV.parts, Bool.and_eq_true] at hp
    rw [inrs] at hi
    rw [lowVs] at hb
    rw [cat_cons, show hd false = [] from rfl, List.nil_append, List.append_assoc]
    cases hx : lowV x with
    | true => exact form_bad x hp.1 hi.1 hx _
    | false =>
      rw [hx, Bool.false_or] at hb
      have he : xs ≠ [] := fun e => by rw [e, lowVs] at hb; cases hb
      obtain ⟨a, h1, _⟩ := form_tx x hp.1 hi.1 hx
      rw [cat_true he, List.cons_append]
      exact Bad.behind h1 (stop44 _) (Bad.one (by decide) (cat_bad xs hp.2 hi.2 hb v))
theorem mem_bad : ∀ (xs : List JV) (ns : List (List UInt8)), ns.length = xs.length → JV.parts xs = true → (∀ z ∈ ns, Jn.txt z = true) → inrs xs → (ns.any Qm.lowB || lowVs xs) = true → ∀ v, Bad (mem false ns xs ++ v)
  | [], [], _, _, _, _, hb, _ => by simp [lowVs] at hb
  | [], _ :: _, hl, _, _, _, _, _ => by simp at hl
  | x :: xs, [], hl, _, _, _, _, _ => by simp at hl
  | x :: xs, m :: ns, hl, hp, ht, hi, hb, v => by
    rw [JV.parts, Bool.and_eq_true] at hp
    rw [inrs] at hi
    have hl : ns.length = xs.length := by simpa using hl
    have hm := ht m List.mem_cons_self
    rw [mem_cons, show hd false = [] from rfl, List.nil_append, List.append_assoc]
    cases hn : Qm.lowB m with
    | true => exact Bad.text hm hn
    | false =>
      obtain ⟨m0, h0, _, _⟩ := name_tx hm hn
      refine Bad.behind h0 (stop58 _) ?_
      rw [List.cons_append, List.append_assoc]
      refine Bad.one (by decide) ?_
      cases hx : lowV x with
      | true => exact form_bad x hp.1 hi.1 hx _
      | false =>
        have hb : (ns.any Qm.lowB || lowVs xs) = true := by rw [List.any_cons, hn, lowVs, hx] at hb; simpa using hb
        have he : xs ≠ [] := fun e => by
          have hns : ns = [] := List.length_eq_zero_iff.1 (by rw [hl, e]; rfl)
          rw [e, hns, lowVs] at hb
          cases hb
        obtain ⟨a, h1, _⟩ := form_tx x hp.1 hi.1 hx
        rw [mem_true he hl, List.cons_append]
        exact Bad.behind h1 (stop44 _) (Bad.one (by decide) (mem_bad xs ns hl hp.2 (fun z hz => ht z (List.mem_cons_of_mem _ hz)) hi.2 hb v))
end
end Cn
/-- what has a mark that is none is not read -/
theorem Bad.no {s : List UInt8} (hb : Bad s) {x : JV} {pl e : Nat} (h : RdIs s x pl e) : e ≠ 0 := by
  rintro rfl
  rcases h with ⟨_, _, _, h0⟩ | ⟨hl, ms, E, f, r, y, q, hT, hP, hR, h4, _⟩
  · omega
  obtain ⟨b, E', h1, h2⟩ := hb
  obtain ⟨_, rfl⟩ := hT.det h1
  refine h2 ?_
  match r, hR with
  | .bad p e0, hR => exact absurd hR.1.symm hR.2.2
  | .ok z [] n, hR => exact hR.1.symm
  | .ok z (_ :: _) n, hR =>
    have : (0 : Nat) = 11 := hR.1
    omega
end

section
open Go.RowKit

theorem lowB_step {l : List UInt8} {k : Nat} (h : k < l.length) : Qm.lowB (l.take (k + 1)) = (Qm.lowB (l.take k) || decide (Um.bt l k < 32)) := by
  have hb : Um.bt l k = (l[k]).toNat := by unfold Um.bt; rw [List.getD_eq_getElem?_getD, List.getElem?_eq_getElem h, Option.getD_some]
  rw [List.take_add_one, List.getElem?_eq_getElem h, Qm.lowB_append, hb]
  simp [Qm.lowB, UInt8.lt_iff_toNat_lt]
theorem lowB_part {l : List UInt8} {k : Nat} (h : Qm.lowB (l.take k) = true) : Qm.lowB l = true := by
  have h2 := Qm.lowB_append (l.take k) (l.drop k)
  rw [List.take_append_drop, h] at h2
  exact h2
namespace Cn
theorem lowVs_get : ∀ {xs : List JV} {i : Nat} {y : JV}, xs[i]? = some y → lowV y = true → lowVs xs = true
  | x :: xs, 0, y, h, hy => by rw [lowVs]; simp at h; rw [h, hy]; rfl
  | x :: xs, i + 1, y, h, hy => by rw [lowVs, lowVs_get (by simpa using h) hy, Bool.or_true]
  | [], _, _, h, _ => by simp at h
theorem lowVs_take : ∀ {xs : List JV} {i : Nat} {y : JV}, xs[i]? = some y → lowVs (xs.take (i + 1)) = (lowVs (xs.take i) || lowV y)
  | x :: xs, 0, y, h => by simp at h; simp [lowVs, h]
  | x :: xs, i + 1, y, h => by
    rw [List.take_succ_cons, List.take_succ_cons, lowVs, lowVs, lowVs_take (by simpa using h), Bool.or_assoc]
  | [], _, _, h => by simp at h
end Cn
theorem any_take {ns : List (List UInt8)} {i : Nat} {n : List UInt8} (h : ns[i]? = some n) : (ns.take (i + 1)).any Qm.lowB = ((ns.take i).any Qm.lowB || Qm.lowB n) := by
  rw [List.take_add_one, h, List.any_append]
  simp
set_option maxHeartbeats 8000000 in
set_option maxRecDepth 5000 in
theorem low_step (x : JV) (ihN : ∀ (i : Nat) (n : List UInt8), x.ns[i]? = some n → ∀ (w : World) (v : Value), HV w v (JV.text n) → Calls Tryz.prog 26 #[v] w fun e w' => e = .returned (.bool (Qm.lowB n)) ∧ Below w.heap.size w w')
    (ihI : ∀ (i : Nat) (y : JV), x.is[i]? = some y → ∀ (w : World) (v : Value), HV w v y → Calls Tryz.prog 26 #[v] w fun e w' => e = .returned (.bool (Cn.lowV y)) ∧ Below w.heap.size w w')
    (w : World) (v : Value) (hv : HV w v x) : Calls Tryz.prog 26 #[v] w fun e w' => e = .returned (.bool (Cn.lowV x)) ∧ Below w.heap.size w w' := by
  obtain ⟨a, b, ca, cb, rfl, hh, hI, hN0, hJ⟩ := hv.open
  obtain ⟨l, hlt⟩ : ∃ l, l = x.t := ⟨_, rfl⟩
  have hx : Cn.lowV x = (Qm.lowB l || (x.ns.any Qm.lowB || Cn.lowVs x.is)) := by
    rw [hlt]
    obtain ⟨k, n, t, ns, is⟩ := x
    rw [Cn.lowV]
    rfl
  have hll : l.length ≤ 9223372036854775807 := by have := hJ.2.2.1; unfold maxLen at this; rw [hlt]; omega
  have hml : x.is.length ≤ 9223372036854775807 := by have := hJ.2.2.2.2.1; unfold maxLen at this; omega
  have hrl : x.ns.length ≤ 9223372036854775807 := by have := hJ.2.2.2.1; unfold maxLen at this; omega
  obtain ⟨m, hm⟩ : ∃ m, x.is.length = m := ⟨_, rfl⟩
  obtain ⟨r, hr⟩ : ∃ r, x.ns.length = r := ⟨_, rfl⟩
  obtain ⟨K, hK⟩ : ∃ z : Int, z = (x.k : Int) := ⟨_, rfl⟩
  obtain ⟨N, hNN⟩ : ∃ z : Int, z = x.n := ⟨_, rfl⟩
  rw [hm] at hml
  rw [hr] at hrl
  rw [hm, hr, ← hK, ← hNN, ← hlt]
  obtain ⟨q, hq⟩ : ∃ q, q = w.heap.size := ⟨_, rfl⟩
  obtain ⟨W1, hW1⟩ : ∃ W, W = w.alloc (.cells #[.int .u8 K, .int .i64 N, .string (S l), .slice a r ca, .slice b m cb] 26) := ⟨_, rfl⟩
  have b1 : Below w.heap.size w W1 := by rw [hW1]; exact (Below.refl _ _).alloc (Nat.le_refl _) _
  have V1 : VAt q W1 (.int .u8 K) (.int .i64 N) (.string (S l)) (.slice a r ca) (.slice b m cb) := by rw [hW1, hq]; exact VAt.new ..
  have HX := Lib.hid hx
  have HM := Lib.hid hm
  have HR := Lib.hid hr
  have HIH := Lib.hid ihI
  have HNH := Lib.hid ihN
  have HI0 := Lib.hid hI
  have HN0 := Lib.hid hN0
  have HJ := Lib.hid hJ
  have HB1 := Lib.hid b1
  have HV1 := Lib.hid V1
  have z1 := S_size l
  have hat := S_at l
  obtain ⟨⟨p0, p1, p2, p3, p4⟩, pf⟩ := V1.cells
  clear hh hv hx hm hr hK hNN hlt ihI ihN hI hN0 hJ b1 V1
  go_enter Tryz.func26, Tryz.ntmps26
  go_wp2_with fail
  rw [← hW1, ← hq]
  clear hW1 hq
  go_loopw [3] (fun iv wr => ∃ (i : Nat), iv = .int .i64 (i : Int) ∧ i ≤ l.length ∧ wr = W1 ∧ Hid (Qm.lowB (l.take i) = false)) (fun iv _ => l.length - (intOf iv).toNat)
  case atStart => exact ⟨0, rfl, Nat.zero_le _, rfl, by show _ = _; rw [List.take_zero]; rfl⟩
  case round =>
    obtain ⟨i, rfl, hi, rfl, HB⟩ := hrel
    by_cases hlt : i < l.length
    · have hst := lowB_step hlt
      rw [HB.out, Bool.false_or] at hst
      have HST := Lib.hid hst
      clear hst
      by_cases h32 : (Um.bt l i : Int) < 32
      · have hr : Hid (Cn.lowV x = true) := by
          show _ = _
          rw [HX.out, lowB_part (k := i + 1) (by rw [HST.out]; exact decide_eq_true (by omega))]
          rfl
        go_wp2_with fail
        go_ret
        exact ⟨congrArg (fun b => Ending.returned (.bool b)) hr.out.symm, HB1.out⟩
      · have hr : Hid (Qm.lowB (l.take (i + 1)) = false) := by
          show _ = _
          rw [HST.out]
          exact decide_eq_false (by omega)
        go_wp2_with fail
        go_roundw
        case rel => exact ⟨i + 1, by go_num, by omega, trivial, hr⟩
        case measure => simp [intOf]; omega
    · have hl0 : Hid (Qm.lowB l = false) := by
        have := HB.out
        rw [List.take_of_length_le (by omega)] at this
        exact this
      clear HB
      go_wp2_with fail
      clear hi hlt p0 p1 p2 p3 p4 pf hat
      obtain ⟨W5, rfl⟩ : ∃ W5 : World, W5 = wr := ⟨_, rfl⟩
      go_loopw [4] (fun iv wr => ∃ (i : Nat), iv = .int .i64 (i : Int) ∧ i ≤ r ∧ Below W5.heap.size W5 wr ∧ Hid ((x.ns.take i).any Qm.lowB = false)) (fun iv _ => r - (intOf iv).toNat)
      case atStart => exact ⟨0, rfl, Nat.zero_le _, Below.refl _ _, by show _ = _; rw [List.take_zero]; rfl⟩
      case round =>
        obtain ⟨j, rfl, hj, hb, HB⟩ := hrel
        have HB2 := Lib.hid (HB1.out.trans (hb.mono HB1.out.size))
        obtain ⟨⟨p0, p1, p2, p3, p4⟩, pf⟩ := (HV1.out.below hb).cells
        have HBB := Lib.hid hb
        clear hb
        by_cases hlt : (j : Int) < (r : Int)
        · obtain ⟨nm, hnm⟩ : ∃ nm, x.ns[j]? = some nm := ⟨x.ns[j]'(by have := HR.out; omega), List.getElem?_eq_getElem _⟩
          obtain ⟨nb, no, rfl, dn⟩ := (HN0.out.below HB2.out) j nm hnm
          have cT := text10_any nm wr (HJ.out.2.2.2.2.2 nm (List.mem_of_getElem? hnm))
          have hst := any_take hnm
          rw [HB.out, Bool.false_or] at hst
          have HST := Lib.hid hst
          have HCN := Lib.hid (HNH.out j nm hnm)
          clear hst
          obtain ⟨NM, hNM⟩ : ∃ N : ByteArray, N = S nm := ⟨_, rfl⟩
          rw [← hNM] at dn cT
          obtain ⟨lb, hlb⟩ : ∃ b, Qm.lowB nm = b := ⟨_, rfl⟩
          have HLB := Lib.hid hlb
          clear hNM hlb
          cases lb with
          | true =>
            have hr : Hid (Cn.lowV x = true) := by
              show _ = _
              have h1 : x.ns.any Qm.lowB = true := List.any_eq_true.2 ⟨nm, List.mem_of_getElem? hnm, HLB.out⟩
              rw [HX.out, h1]
              simp
            clear hnm
            go_wp2_with fail
            refine cT.mono ?_; rintro e w7 ⟨tv, rfl, htv, b7⟩
            have HB7 := Lib.hid (HB2.out.trans (b7.mono HB2.out.size))
            have cL := HCN.out w7 tv htv
            rw [HLB.out] at cL
            clear cT b7
            go_wp2_with fail
            refine cL.mono ?_; rintro e w8 ⟨rfl, b8⟩
            have HB8 := Lib.hid (HB7.out.trans (b8.mono HB7.out.size))
            clear cL b8
            go_wp2_with fail
            go_ret
            exact ⟨congrArg (fun b => Ending.returned (.bool b)) hr.out.symm, HB8.out⟩
          | false =>
            clear hnm
            go_wp2_with fail
            refine cT.mono ?_; rintro e w7 ⟨tv, rfl, htv, b7⟩
            have HB7 := Lib.hid (HBB.out.trans (b7.mono HBB.out.size))
            have cL := HCN.out w7 tv htv
            rw [HLB.out] at cL
            clear cT b7
            go_wp2_with fail
            refine cL.mono ?_; rintro e w8 ⟨rfl, b8⟩
            have HB8 := Lib.hid (HB7.out.trans (b8.mono HB7.out.size))
            clear cL b8 p0 p1 p2 p3 p4 pf dn htv
            go_wp2_with fail
            go_roundw
            case rel => exact ⟨j + 1, by go_num, by omega, HB8.out, by show _ = _; rw [HST.out, HLB.out]⟩
            case measure => simp [intOf]; omega
        · have hn0 : Hid (x.ns.any Qm.lowB = false) := by
            have := HB.out
            rw [List.take_of_length_le (by have := HR.out; omega)] at this
            exact this
          clear HB
          go_wp2_with fail
          clear hj hlt p0 p1 p2 p3 p4 pf
          obtain ⟨W6, rfl⟩ : ∃ W6 : World, W6 = wr := ⟨_, rfl⟩
          go_loopw [5] (fun iv wr => ∃ (i : Nat), iv = .int .i64 (i : Int) ∧ i ≤ m ∧ Below W5.heap.size W5 wr ∧ Hid (Cn.lowVs (x.is.take i) = false)) (fun iv _ => m - (intOf iv).toNat)
          case atStart => exact ⟨0, rfl, Nat.zero_le _, HBB.out, by show _ = _; rw [List.take_zero, Cn.lowVs]⟩
          case round =>
            clear HB2 HBB
            obtain ⟨k, rfl, hk, hb, HB⟩ := hrel
            have HB2 := Lib.hid (HB1.out.trans (hb.mono HB1.out.size))
            obtain ⟨⟨p0, p1, p2, p3, p4⟩, pf⟩ := (HV1.out.below hb).cells
            have HBB := Lib.hid hb
            clear hb
            by_cases hlt : (k : Int) < (m : Int)
            · obtain ⟨y, hy⟩ : ∃ y, x.is[k]? = some y := ⟨x.is[k]'(by have := HM.out; omega), List.getElem?_eq_getElem _⟩
              obtain ⟨blk, off, rfl, hII⟩ := nitems_at HI0.out hy
              obtain ⟨c0, c1, c2, c3, c4, g0, g1, g2, g3, g4, hcy⟩ := (HI.below HB2.out _ _ _ hII).get hy
              obtain ⟨ya, yb, yca, ycb, rfl, rfl, rfl, rfl, rfl⟩ := five hcy
              have hvy : HV wr (.agg #[.int .u8 (y.k : Int), .int .i64 y.n, .string (S y.t), .slice ya y.ns.length yca, .slice yb y.is.length ycb]) y := ⟨_, rfl, hcy⟩
              have cL := HIH.out k y hy wr _ hvy
              have hst := Cn.lowVs_take hy
              rw [HB.out, Bool.false_or] at hst
              have HST := Lib.hid hst
              have HY := Lib.hid hy
              obtain ⟨lb, hlb⟩ : ∃ b, Cn.lowV y = b := ⟨_, rfl⟩
              have HLB := Lib.hid hlb
              rw [hlb] at cL
              clear hst hlb hII hcy hvy hy
              cases lb with
              | true =>
                have hr : Hid (Cn.lowV x = true) := by
                  show _ = _
                  rw [HX.out, Cn.lowVs_get HY.out HLB.out]
                  simp
                go_wp2_with fail
                refine cL.mono ?_; rintro e w8 ⟨rfl, b8⟩
                have HB8 := Lib.hid (HB2.out.trans (b8.mono HB2.out.size))
                clear cL b8
                go_wp2_with fail
                go_ret
                exact ⟨congrArg (fun b => Ending.returned (.bool b)) hr.out.symm, HB8.out⟩
              | false =>
                go_wp2_with fail
                refine cL.mono ?_; rintro e w8 ⟨rfl, b8⟩
                have HB8 := Lib.hid (HBB.out.trans (b8.mono HBB.out.size))
                clear cL b8 p0 p1 p2 p3 p4 pf g0 g1 g2 g3 g4
                go_wp2_with fail
                go_roundw
                case rel => exact ⟨k + 1, by go_num, by omega, HB8.out, by show _ = _; rw [HST.out, HLB.out]⟩
                case measure => simp [intOf]; omega
            · have hr : Hid (Cn.lowV x = false) := by
                have h3 := HB.out
                rw [List.take_of_length_le (by have := HM.out; omega)] at h3
                show _ = _
                rw [HX.out, hl0.out, hn0.out, h3]
                rfl
              clear HB
              go_wp2_with fail
              go_ret
              exact ⟨congrArg (fun b => Ending.returned (.bool b)) hr.out.symm, HB2.out⟩
theorem low_text (l : List UInt8) (w : World) (v : Value) (hv : HV w v (JV.text l)) : Calls Tryz.prog 26 #[v] w fun e w' => e = .returned (.bool (Qm.lowB l)) ∧ Below w.heap.size w w' := by
  have h := low_step (JV.text l) (fun i n h => by simp [JV.text, JV.ns] at h) (fun i y h => by simp [JV.text, JV.is] at h) w v hv
  have e : Cn.lowV (JV.text l) = Qm.lowB l := by simp [JV.text, Cn.lowV, Cn.lowVs]
  rw [e] at h
  exact h
theorem lowV_any : ∀ (K : Nat) (x : JV), x.cnt ≤ K → ∀ (w : World) (v : Value), HV w v x → Calls Tryz.prog 26 #[v] w fun e w' => e = .returned (.bool (Cn.lowV x)) ∧ Below w.heap.size w w'
  | 0, x, h => by have := x.cnt_pos; omega
  | K + 1, x, h => fun w v hv => low_step x (fun i n _ w v hv => low_text n w v hv) (fun i y hy => lowV_any K y (by have := JV.cnt_item hy; omega)) w v hv
end

section
open Go.RowKit

set_option maxHeartbeats 8000000 in
set_option maxRecDepth 10000 in
theorem law_CanonBack (x : JV) (v : Value) (w : World) (hv : HV w v x) (hTL : TabL w) :
    Calls Tryz.prog 10 #[v] w fun e w' => e = .returned (.bool true) ∧ Below w.heap.size w w' := by
  have hT := hTL.2
  obtain ⟨a, b, ca, cb, rfl, hI, hN0, hJ, hh⟩ := head1 hv
  obtain ⟨m, hm⟩ : ∃ m, x.is.length = m := ⟨_, rfl⟩
  obtain ⟨r, hr⟩ : ∃ m, x.ns.length = m := ⟨_, rfl⟩
  obtain ⟨kI, hk⟩ : ∃ z : Int, z = (x.k : Int) := ⟨_, rfl⟩
  obtain ⟨nI, hn⟩ : ∃ z : Int, z = x.n := ⟨_, rfl⟩
  obtain ⟨tS, ht⟩ : ∃ z : ByteArray, z = S x.t := ⟨_, rfl⟩
  rw [hm, hr, ← hk, ← hn, ← ht] at hh ⊢
  obtain ⟨W3, hW3⟩ : ∃ W3, W3 = (w.alloc (.cells #[.int .u8 kI, .int .i64 nI, .string tS, .slice a r ca, .slice b m cb] 26)).alloc (.cells #[.int .u8 kI, .int .i64 nI, .string tS, .slice a r ca, .slice b m cb] 26) := ⟨_, rfl⟩
  obtain ⟨c3, HV1, HX, cL⟩ := hh W3 hW3
  have HV1 := Lib.hid HV1
  have HX := Lib.hid HX
  have C3 := Lib.hid c3
  have T3 := hTL.below c3
  clear hh hv c3 hT hTL hm hr hk hn ht hI hN0 hJ
  go_enter Tryz.func10, Tryz.ntmps10
  go_wp2_with fail
  rw [← hW3]
  clear hW3
  refine cL.mono ?_; rintro e w4 ⟨⟨B, rfl, hB⟩, rfl⟩
  cases B with
  | true =>
    go_wp2_with fail
    refine (awake10_any _ T3.2).mono ?_; rintro e w5 ⟨rfl, b5⟩
    go_wp2_with fail
    go_ret
    exact ⟨rfl, C3.out.trans (b5.mono C3.out.size)⟩
  | false =>
  have hwx : x.wt ≤ 90000 := by have := hB rfl; omega
  clear hB cL
  go_wp2_with fail
  refine (awake10_any _ T3.2).mono ?_; rintro e w5 ⟨rfl, b5⟩
  have T5 := T3.below b5
  obtain ⟨⟨p0, p1, p2, p3, p4⟩, _⟩ := (HV1.out w5 b5).cells
  have HB5 := Lib.hid b5
  have HW := Lib.hid hwx
  cases hmay : x.may with
  | false =>
    have cE := enc_call (ENC_no hmay) _ w5 hwx (HX.out w5 b5) T5.2
    rw [show S [] = (⟨#[]⟩ : ByteArray) from rfl] at cE
    clear hmay b5 hwx
    go_wp2_with fail
    refine cE.mono ?_; rintro e w6 ⟨rfl, b6⟩
    have HB6 := Lib.hid (HB5.out.trans (b6.mono HB5.out.size))
    clear p0 p1 p2 p3 p4 b6 cE T5
    go_wp2_with fail
    go_ret
    exact ⟨rfl, C3.out.trans (HB6.out.mono C3.out.size)⟩
  | true =>
  have hpt : x.part = true := by
    unfold JV.may at hmay
    simp only [Bool.and_eq_true] at hmay
    exact hmay.1
  have hcd : x.cnt ≤ 8192 ∧ x.dep ≤ 12 := by
    unfold JV.may at hmay
    simp only [Bool.and_eq_true, decide_eq_true_eq] at hmay
    omega
  have hir : Cn.inr x := by
    obtain ⟨cs, _, hc⟩ := HX.out w5 b5
    exact Cn.inr_of x cs hc
  have cE := enc_call (ENC_ok hmay) _ w5 hwx (HX.out w5 b5) T5.2
  obtain ⟨F, hF⟩ : ∃ F, F = Cn.form x := ⟨_, rfl⟩
  rw [← hF] at cE
  have HF := Lib.hid hF
  have HPT := Lib.hid hpt
  have HIR := Lib.hid hir
  have HCD := Lib.hid hcd
  obtain ⟨FL, hFL⟩ : ∃ z : Int, z = (F.length : Int) := ⟨_, rfl⟩
  have hfz : ((S F).size : Int) = FL := by rw [S_size, hFL]
  have HFL := Lib.hid hFL
  clear hmay hpt hwx hF b5 hcd hir hFL
  go_wp2_with fail
  refine cE.mono ?_; rintro e w6 ⟨rfl, b6⟩
  have HB6 := Lib.hid (HB5.out.trans (b6.mono HB5.out.size))
  have T6 := T5.below b6
  obtain ⟨⟨q0, q1, q2, q3, q4⟩, _⟩ := (HV1.out w6 HB6.out).cells
  clear p0 p1 p2 p3 p4 b6 cE T5
  by_cases hbig : (65536 : Int) < FL
  · go_wp2_with fail
    go_ret
    exact ⟨rfl, C3.out.trans (HB6.out.mono C3.out.size)⟩
  have hlen : F.length ≤ 65536 := by have := HFL.out; omega
  cases hlow : Cn.lowV x with
  | true =>
    have hbad : Bad F := by
      have := Cn.form_bad x HPT.out HIR.out hlow []
      rw [List.append_nil] at this
      rw [HF.out]
      exact this
    have HBAD := Lib.hid hbad
    have cR := readRead_any F w6 T6
    have HLOW := Lib.hid hlow
    clear hbad hlow hlen
    go_wp2_with fail
    refine cR.mono ?_; rintro e w7 ⟨u, y, pl, er, rfl, hr, hu, b7⟩
    have hne := HBAD.out.no hr
    obtain ⟨uk, un, ut, ua, ub, ui, uj, uca, ucb, rfl⟩ := hu.open'
    obtain ⟨W8, hW8⟩ : ∃ W, W = w7.alloc (.cells #[.int .u8 uk, .int .i64 un, .string ut, .slice ua ui uca, .slice ub uj ucb] 26) := ⟨_, rfl⟩
    have b8 : Below w7.heap.size w7 W8 := by rw [hW8]; exact (Below.refl _ _).alloc (Nat.le_refl _) _
    have b78 := b7.trans (b8.mono b7.size)
    have HB8 := Lib.hid (HB6.out.trans (b78.mono HB6.out.size))
    have cW := lowV_any x.cnt x (Nat.le_refl _) W8 _ (HX.out W8 HB8.out)
    rw [HLOW.out] at cW
    obtain ⟨eI, heI⟩ : ∃ z : Int, z = (er : Int) := ⟨_, rfl⟩
    have hb : (eI != 0) = true := bne_iff_ne.2 (by omega)
    obtain ⟨⟨p0, p1, p2, p3, p4⟩, pf⟩ := (HV1.out W8 HB8.out).cells
    rw [hW8] at p0 p1 p2 p3 p4 pf
    rw [← heI]
    clear cR hr hu b7 b8 b78 hne heI T6 q0 q1 q2 q3 q4
    go_wp2_with fail
    rw [← hW8]
    clear hW8 p0 p1 p2 p3 p4 pf
    refine cW.mono ?_; rintro e w9 ⟨rfl, b9⟩
    have HB9 := Lib.hid (HB8.out.trans (b9.mono HB8.out.size))
    clear cW b9
    go_wp2_with fail
    go_ret
    exact ⟨rfl, C3.out.trans (HB9.out.mono C3.out.size)⟩
  | false =>
    have hrd : RdIs F x 0 0 := by
      rw [HF.out] at hlen ⊢
      exact (Cn.form_tx x HPT.out HIR.out hlow).rd HCD.out.1 HCD.out.2 hlen
    have cR := rd_call hrd w6 T6
    have HLOW := Lib.hid hlow
    clear hrd hlow hlen
    go_wp2_with fail
    refine cR.mono ?_; rintro e w7 ⟨uk, un, ut, ua, ub, ui, uj, uca, ucb, rfl, hv7, b7⟩
    obtain ⟨q, hq⟩ : ∃ q, q = w7.heap.size := ⟨_, rfl⟩
    obtain ⟨W8, hW8⟩ : ∃ W, W = w7.alloc (.cells #[.int .u8 uk, .int .i64 un, .string ut, .slice ua ui uca, .slice ub uj ucb] 26) := ⟨_, rfl⟩
    have b8 : Below w7.heap.size w7 W8 := by rw [hW8]; exact (Below.refl _ _).alloc (Nat.le_refl _) _
    have V8 : VAt q W8 (.int .u8 uk) (.int .i64 un) (.string ut) (.slice ua ui uca) (.slice ub uj ucb) := by rw [hW8, hq]; exact VAt.new ..
    have HV8 := Lib.hid V8
    have HU8 := Lib.hid (hv7.below b8)
    have b78 := b7.trans (b8.mono b7.size)
    have HB8 := Lib.hid (HB6.out.trans (b78.mono HB6.out.size))
    have cW := lowV_any x.cnt x (Nat.le_refl _) W8 _ (HX.out W8 HB8.out)
    rw [HLOW.out] at cW
    obtain ⟨⟨p0, p1, p2, p3, p4⟩, pf⟩ := (HV1.out W8 HB8.out).cells
    rw [hW8] at p0 p1 p2 p3 p4 pf
    clear cR hv7 b7 b8 b78 V8 T6 q0 q1 q2 q3 q4
    go_wp2_with fail
    rw [← hW8, ← hq]
    clear hW8 hq p0 p1 p2 p3 p4 pf
    refine cW.mono ?_; rintro e w9 ⟨rfl, b9⟩
    have HB9 := Lib.hid (HB8.out.trans (b9.mono HB8.out.size))
    have cS := refSame_any _ x _ (Nat.le_refl _) w9 _ _ (HU8.out.below b9) (HX.out w9 HB9.out)
    rw [JV.same_yes] at cS
    obtain ⟨⟨p0, p1, p2, p3, p4⟩, pf⟩ := (HV1.out w9 HB9.out).cells
    obtain ⟨⟨r0, r1, r2, r3, r4⟩, rf⟩ := (HV8.out.below b9).cells
    clear cW b9
    go_wp2_with fail
    refine cS.mono ?_; rintro e w10 ⟨rfl, b10⟩
    have HB10 := Lib.hid (HB9.out.trans (b10.mono HB9.out.size))
    clear cS b10 p0 p1 p2 p3 p4 pf r0 r1 r2 r3 r4 rf
    go_wp2_with fail
    go_ret
    exact ⟨rfl, C3.out.trans (HB10.out.mono C3.out.size)⟩
end
end Go.Proofs.YtpifbmcgadjhbaaGreatDoor

namespace Go.Proofs.YtpifbmcgadjhbaaGreatDoor.canonBack
open Go.ChangeShapes Go.WideShapes Go.ChangeAt Go.RowKit

theorem reads (os : Os) {H : Type} (enc : TypeId × Value → H) : ∃ places, DataW.whole enc Tryz.prog ((laidWorld os).forCall (fun _ _ => 0) ⟨#[], #[.agg #[.int .u8 0, .int .i64 0, .string ⟨#[]⟩, .slice none 0 0, .slice none 0 0]], []⟩).memory Tryz.f10.params.toList Rows.canonBackSpec.vars false (#[.agg #[.int .u8 0, .int .i64 0, .string ⟨#[]⟩, .slice none 0 0, .slice none 0 0]] : Array Value).toList 8 = some ([.agg [.lit (.int .u8 0), .lit (.int .i64 0), .lit (.string []), .nil, .nil]], [], places) :=
  ⟨[], by kernel_rfl⟩

set_option maxRecDepth 100000 in
theorem lifted (os : Os) (started : os.Started) (H : Type) (enc : TypeId × Value → H) (F : Stop.Interp) :
    ReturnsInHanded {} Tryz.checked os 10 .any ((OpenSpec.ofChange Rows.canonBackSpec).preRow enc Tryz.prog Tryz.f10 Rows.canonBackRow.domain false Rows.canonBackRow.laid) (((OpenSpec.ofChange Rows.canonBackSpec).at F).post enc Tryz.prog Tryz.f10 false true false false) := by
  obtain ⟨places, hx⟩ := reads os enc
  refine returnsInHanded_of_row (C := Tryz.checked) (s := OpenSpec.ofChange Rows.canonBackSpec) own started (by kernel_rfl) Tryz.func10
    (witness_row_at (enc := enc) (C := Tryz.checked) false (laidWorld os) #[.agg #[.int .u8 0, .int .i64 0, .string ⟨#[]⟩, .slice none 0 0, .slice none 0 0]] rfl (by kernel_rfl) (by kernel_rfl) (by kernel_rfl)
      (OpenSpec.preRow_of_cond 8 hx (by kernel_rfl) (fun k hk => by cases hk) (by kernel_rfl) (laid_any os _))) ?_
  intro W base args ds gs before hval hW _ _ _ hL _ _
  have hW' := hW
  obtain ⟨p, q, hA, _, _, _, _⟩ := hW
  rw [Tryz.params10] at hA hval
  obtain ⟨v0, vs0, d0, ds0, p0, q0, hargs, _, _, h0, r0⟩ := trodAll_cons hA
  obtain ⟨rfl, _, _⟩ := trodAll_nil r0
  obtain rfl : args = #[v0] := by cases args; simp_all
  obtain ⟨y0, hy0⟩ := arg_value (hval 0 26 v0 rfl rfl) h0
  exact contract (s := Rows.canonBackSpec) rfl rfl (by kernel_rfl) (fun l hl => by
    rw [Tryz.params10] at hl
    match l, hl with
    | [_], _ => rfl) hW' (law_CanonBack y0 v0 W hy0 (tabs_of hL))

theorem said : Rows.CanonBackSaid :=
  OpenClaim.holds_of_cond 10 Tryz.f10 rfl rfl rfl rfl rfl rfl rfl ⟨rfl, rfl, rfl, rfl, rfl⟩ rfl rfl rfl rfl rfl (by kernel_rfl) Tryz.func10 (by kernel_rfl)
    (of_decide_eq_true (by kernel_rfl)) (by unfold Func.isWrapper; first | (rw [if_pos (by decide +kernel)]; kernel_rfl) | (rw [if_neg (by decide +kernel)]; exact ⟨rfl, rfl⟩))
    (fun os started H enc _ F => by rw [OpenClaim.pre_eq_preRow]; exact lifted os started H enc F)

theorem plain (f : FuncId) (fn : Func) (hf : Tryz.pinned.checked.prog.funcNamed "legate/legatelaw10.CanonBack" = some f) (hfn : Tryz.pinned.checked.prog.funcs[f]? = some fn) :
    true = Tryz.pinned.checked.prog.looks [] ∧ ∀ (j : Nat) t, fn.params[j]? = some t → Tryz.pinned.checked.prog.wantsStandIn t = false := by
  obtain rfl : f = 10 := Option.some.inj ((show Tryz.prog.funcNamed "legate/legatelaw10.CanonBack" = some 10 by kernel_rfl).symm.trans hf) |>.symm
  obtain rfl : fn = Tryz.f10 := (Option.some.inj (Tryz.func10.symm.trans hfn)).symm
  refine ⟨by kernel_rfl, fun j t ht => ?_⟩
  rw [Tryz.params10] at ht
  obtain rfl : t = 26 := by simpa using Array.mem_of_getElem? ht
  exact (show Tryz.prog.wantsStandIn 26 = false by kernel_rfl)

theorem card : Rows.CanonBackCardSaid :=
  Claim7.holds_tied_plain_at .later [] _ _ _ _ said (fun _ h => by cases h) (by kernel_rfl) (fun _ h => by cases h) canonBack_row_tie rfl ⟨rfl, rfl⟩ (by kernel_rfl) rfl plain (by kernel_rfl)
end Go.Proofs.YtpifbmcgadjhbaaGreatDoor.canonBack
