/-
  What a law begins with: a value, or two, that it was handed, and Long over them.
-/
import Derived.Test.YtpifbmcgadjhbaaDoorValSize
import Derived.Test.YtpifbmcgadjhbaaDoorValRow
import Derived.Test.YtpifbmcgadjhbaaDoorValRefWo
namespace Go.Proofs.YtpifbmcgadjhbaaDoor
open Go.RowKit

/-- a value in sight, its cells written out -/
theorem HV.open {w : World} {v : Value} {y : JV} (hv : HV w v y) : ∃ a b ca cb, v = .agg #[.int .u8 (y.k : Int), .int .i64 y.n, .string (S y.t), .slice a y.ns.length ca, .slice b y.is.length cb] ∧
    (∀ w', Below w.heap.size w w' → HV w' (.agg #[.int .u8 (y.k : Int), .int .i64 y.n, .string (S y.t), .slice a y.ns.length ca, .slice b y.is.length cb]) y) ∧ (y.is = [] ∨ ∃ blk off, b = some ⟨blk, off, none⟩ ∧ HI w blk off y.is) ∧ NS w a y.ns ∧ JB y.k y.n y.t y.ns y.is.length := by
  obtain ⟨cs, rfl, hc⟩ := hv
  obtain ⟨a, b, ca, cb, rfl, hB, hN, hI⟩ := hc.form
  exact ⟨a, b, ca, cb, rfl, fun w' h => ⟨_, rfl, HC.below h y _ hc⟩, hI, hN, hB⟩
set_option maxHeartbeats 1000000 in
set_option maxRecDepth 10000 in
theorem long_any (xs : List JV) (w : World) (b : Option Addr) (cb : Nat) (hl : xs.length ≤ maxLen) (hI : xs = [] ∨ ∃ blk off, b = some ⟨blk, off, none⟩ ∧ HI w blk off xs) :
    Calls Tryd.prog 8 #[.slice b xs.length cb] w fun e w' => (∃ B : Bool, e = .returned (.bool B) ∧ (B = false → JV.wts xs < 20000)) ∧ w = w' := by
  have cS := size_any _ xs (Nat.le_refl _) w b cb 0 (by omega) hl hI
  generalize xs.length = m at *
  rw [show ((0 : Nat) : Int) = 0 from rfl] at cS
  go_enter Tryd.func8, Tryd.ntmps8
  go_wp2_with fail
  refine cS.mono ?_; rintro e w1 ⟨⟨Z, rfl, hZ, _⟩, rfl⟩
  have HZ := Lib.hid hZ
  clear hZ
  by_cases h : (20000 : Int) ≤ (Z : Int)
  · go_wp2_with fail
    go_ret
    refine ⟨⟨_, rfl, fun h2 => ?_⟩, rfl⟩
    first | (have := of_decide_eq_false h2; omega) | simp at h2
  · go_wp2_with fail
    go_ret
    exact ⟨⟨_, rfl, fun _ => by have := HZ.out (by omega); omega⟩, rfl⟩

/-- two values that a law was handed, each in a block of its own, and both in a row behind them, over which Long goes -/
theorem head2 {w : World} {v u : Value} {x y : JV} (hv : HV w v x) (hu : HV w u y) :
    ∃ a b ca cb a' b' ca' cb', v = .agg #[.int .u8 (x.k : Int), .int .i64 x.n, .string (S x.t), .slice a x.ns.length ca, .slice b x.is.length cb] ∧ u = .agg #[.int .u8 (y.k : Int), .int .i64 y.n, .string (S y.t), .slice a' y.ns.length ca', .slice b' y.is.length cb'] ∧
      ∀ W3, W3 = ((w.alloc (.cells #[.int .u8 (x.k : Int), .int .i64 x.n, .string (S x.t), .slice a x.ns.length ca, .slice b x.is.length cb] 25)).alloc (.cells #[.int .u8 (y.k : Int), .int .i64 y.n, .string (S y.t), .slice a' y.ns.length ca', .slice b' y.is.length cb'] 25)).alloc
          (.cells #[.int .u8 (x.k : Int), .int .i64 x.n, .string (S x.t), .slice a x.ns.length ca, .slice b x.is.length cb, .int .u8 (y.k : Int), .int .i64 y.n, .string (S y.t), .slice a' y.ns.length ca', .slice b' y.is.length cb'] 25) →
        Below w.heap.size w W3 ∧
        (∀ W, Below W3.heap.size W3 W → VAt w.heap.size W (.int .u8 (x.k : Int)) (.int .i64 x.n) (.string (S x.t)) (.slice a x.ns.length ca) (.slice b x.is.length cb)) ∧
        (∀ W, Below W3.heap.size W3 W → VAt (w.heap.size + 1) W (.int .u8 (y.k : Int)) (.int .i64 y.n) (.string (S y.t)) (.slice a' y.ns.length ca') (.slice b' y.is.length cb')) ∧
        (∀ W, Below W3.heap.size W3 W → HV W (.agg #[.int .u8 (x.k : Int), .int .i64 x.n, .string (S x.t), .slice a x.ns.length ca, .slice b x.is.length cb]) x) ∧
        (∀ W, Below W3.heap.size W3 W → HV W (.agg #[.int .u8 (y.k : Int), .int .i64 y.n, .string (S y.t), .slice a' y.ns.length ca', .slice b' y.is.length cb']) y) ∧
        Calls Tryd.prog 8 #[.slice (some ⟨w.heap.size + 1 + 1, 0, none⟩) 2 2] W3 fun e w' => (∃ B : Bool, e = .returned (.bool B) ∧ (B = false → x.wt + y.wt < 20000)) ∧ W3 = w' := by
  obtain ⟨a, b, ca, cb, rfl, hV, _, _, _⟩ := hv.open
  obtain ⟨a', b', ca', cb', rfl, hV', _, _, _⟩ := hu.open
  refine ⟨a, b, ca, cb, a', b', ca', cb', rfl, rfl, fun W3 hW => ?_⟩
  obtain ⟨W1, hW1⟩ : ∃ W, W = w.alloc (.cells #[.int .u8 (x.k : Int), .int .i64 x.n, .string (S x.t), .slice a x.ns.length ca, .slice b x.is.length cb] 25) := ⟨_, rfl⟩
  rw [← hW1] at hW
  obtain ⟨W2, hW2⟩ : ∃ W, W = W1.alloc (.cells #[.int .u8 (y.k : Int), .int .i64 y.n, .string (S y.t), .slice a' y.ns.length ca', .slice b' y.is.length cb'] 25) := ⟨_, rfl⟩
  rw [← hW2] at hW
  have b1 : Below w.heap.size w W1 := by rw [hW1]; exact (Below.refl _ _).alloc (Nat.le_refl _) _
  have b12 : Below W1.heap.size W1 W2 := by rw [hW2]; exact (Below.refl _ _).alloc (Nat.le_refl _) _
  have b23 : Below W2.heap.size W2 W3 := by rw [hW]; exact (Below.refl _ _).alloc (Nat.le_refl _) _
  have V1 : VAt w.heap.size W1 (.int .u8 (x.k : Int)) (.int .i64 x.n) (.string (S x.t)) (.slice a x.ns.length ca) (.slice b x.is.length cb) := by rw [hW1]; exact VAt.new ..
  have V2 : VAt W1.heap.size W2 (.int .u8 (y.k : Int)) (.int .i64 y.n) (.string (S y.t)) (.slice a' y.ns.length ca') (.slice b' y.is.length cb') := by rw [hW2]; exact VAt.new ..
  have e1 : W1.heap.size = w.heap.size + 1 := by rw [hW1]; simp
  have e2 : W2.heap.size = w.heap.size + 1 + 1 := by rw [hW2]; simp [e1]
  have c2 := b1.trans (b12.mono b1.size)
  have c3 := c2.trans (b23.mono c2.size)
  have V1 := (V1.below b12).below b23
  have V2 := V2.below b23
  have i3 : W3.heap[W2.heap.size]? = some (.cells (([.int .u8 (x.k : Int), .int .i64 x.n, .string (S x.t), .slice a x.ns.length ca, .slice b x.is.length cb] : List Value) ++ ([.int .u8 (y.k : Int), .int .i64 y.n, .string (S y.t), .slice a' y.ns.length ca', .slice b' y.is.length cb'] : List Value)).toArray 25 (0, 0)) := by rw [hW]; exact heap_alloc_new W2 _
  obtain ⟨cs, hcs, hc⟩ := hV W3 c3
  obtain rfl : cs = [.int .u8 (x.k : Int), .int .i64 x.n, .string (S x.t), .slice a x.ns.length ca, .slice b x.is.length cb] := by simpa using hcs.symm
  obtain ⟨cs', hcs', hc'⟩ := hV' W3 c3
  obtain rfl : cs' = [.int .u8 (y.k : Int), .int .i64 y.n, .string (S y.t), .slice a' y.ns.length ca', .slice b' y.is.length cb'] := by simpa using hcs'.symm
  have cL := long_any ([x] ++ [y]) W3 (some ⟨W2.heap.size, 0, none⟩) 2 (by show 2 ≤ maxLen; unfold maxLen; omega) (.inr ⟨W2.heap.size, 0, rfl, HI.of_block i3 (HCS.snoc hc' (HCS.one hc))⟩)
  rw [e2, show ([x] ++ [y]).length = 2 from rfl] at cL
  rw [e1] at V2
  refine ⟨c3, fun W h => V1.below h, fun W h => V2.below h, fun W h => ⟨_, rfl, HC.below h x _ hc⟩, fun W h => ⟨_, rfl, HC.below h y _ hc'⟩, cL.mono fun e w' ⟨⟨B, h1, h2⟩, h3⟩ => ⟨⟨B, h1, fun h => ?_⟩, h3⟩⟩
  have := h2 h
  simp only [JV.wts, List.cons_append, List.nil_append] at this
  omega
/-- a value that a law was handed, in a block of its own, and in a row behind it, over which Long goes -/
theorem head1 {w : World} {v : Value} {x : JV} (hv : HV w v x) :
    ∃ a b ca cb, v = .agg #[.int .u8 (x.k : Int), .int .i64 x.n, .string (S x.t), .slice a x.ns.length ca, .slice b x.is.length cb] ∧
      (x.is = [] ∨ ∃ blk off, b = some ⟨blk, off, none⟩ ∧ HI w blk off x.is) ∧ NS w a x.ns ∧ JB x.k x.n x.t x.ns x.is.length ∧
      ∀ W2, W2 = (w.alloc (.cells #[.int .u8 (x.k : Int), .int .i64 x.n, .string (S x.t), .slice a x.ns.length ca, .slice b x.is.length cb] 25)).alloc
          (.cells #[.int .u8 (x.k : Int), .int .i64 x.n, .string (S x.t), .slice a x.ns.length ca, .slice b x.is.length cb] 25) →
        Below w.heap.size w W2 ∧
        (∀ W, Below W2.heap.size W2 W → VAt w.heap.size W (.int .u8 (x.k : Int)) (.int .i64 x.n) (.string (S x.t)) (.slice a x.ns.length ca) (.slice b x.is.length cb)) ∧
        (∀ W, Below W2.heap.size W2 W → HV W (.agg #[.int .u8 (x.k : Int), .int .i64 x.n, .string (S x.t), .slice a x.ns.length ca, .slice b x.is.length cb]) x) ∧
        Calls Tryd.prog 8 #[.slice (some ⟨w.heap.size + 1, 0, none⟩) 1 1] W2 fun e w' => (∃ B : Bool, e = .returned (.bool B) ∧ (B = false → x.wt < 20000)) ∧ W2 = w' := by
  obtain ⟨a, b, ca, cb, rfl, hV, hI, hN, hJ⟩ := hv.open
  refine ⟨a, b, ca, cb, rfl, hI, hN, hJ, fun W2 hW => ?_⟩
  obtain ⟨W1, hW1⟩ : ∃ W, W = w.alloc (.cells #[.int .u8 (x.k : Int), .int .i64 x.n, .string (S x.t), .slice a x.ns.length ca, .slice b x.is.length cb] 25) := ⟨_, rfl⟩
  rw [← hW1] at hW
  have b1 : Below w.heap.size w W1 := by rw [hW1]; exact (Below.refl _ _).alloc (Nat.le_refl _) _
  have b12 : Below W1.heap.size W1 W2 := by rw [hW]; exact (Below.refl _ _).alloc (Nat.le_refl _) _
  have V1 : VAt w.heap.size W1 (.int .u8 (x.k : Int)) (.int .i64 x.n) (.string (S x.t)) (.slice a x.ns.length ca) (.slice b x.is.length cb) := by rw [hW1]; exact VAt.new ..
  have e1 : W1.heap.size = w.heap.size + 1 := by rw [hW1]; simp
  have c2 := b1.trans (b12.mono b1.size)
  have V1 := V1.below b12
  have i2 : W2.heap[W1.heap.size]? = some (.cells #[.int .u8 (x.k : Int), .int .i64 x.n, .string (S x.t), .slice a x.ns.length ca, .slice b x.is.length cb] 25 (0, 0)) := by rw [hW]; exact heap_alloc_new W1 _
  obtain ⟨cs, hcs, hc⟩ := hV W2 c2
  obtain rfl : cs = [.int .u8 (x.k : Int), .int .i64 x.n, .string (S x.t), .slice a x.ns.length ca, .slice b x.is.length cb] := by simpa using hcs.symm
  have cL := long_any [x] W2 (some ⟨W1.heap.size, 0, none⟩) 1 (by show 1 ≤ maxLen; unfold maxLen; omega) (.inr ⟨W1.heap.size, 0, rfl, HI.of_block i2 (HCS.one hc)⟩)
  rw [e1, show [x].length = 1 from rfl] at cL
  refine ⟨c2, fun W h => V1.below h, fun W h => ⟨_, rfl, HC.below h x _ hc⟩, cL.mono fun e w' ⟨⟨B, h1, h2⟩, h3⟩ => ⟨⟨B, h1, fun h => ?_⟩, h3⟩⟩
  have := h2 h
  simp only [JV.wts] at this
  omega
end Go.Proofs.YtpifbmcgadjhbaaDoor
