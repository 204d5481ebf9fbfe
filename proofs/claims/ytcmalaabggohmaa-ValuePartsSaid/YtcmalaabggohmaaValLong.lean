/-
  What the laws' Long comes to.
-/
import Derived.Test.YtcmalaabggohmaaValSize
namespace Go.Proofs.Ytcmalaabggohmaa
open Go.RowKit

/-- a value in sight, its cells written out -/
theorem HV.open {w : World} {v : Value} {y : JV} (hv : HV w v y) : ∃ a b ca cb, v = .agg #[.int .u8 (y.k : Int), .int .i64 y.n, .string (S y.t), .slice a y.ns.length ca, .slice b y.is.length cb] ∧
    (∀ w', Below w.heap.size w w' → HV w' (.agg #[.int .u8 (y.k : Int), .int .i64 y.n, .string (S y.t), .slice a y.ns.length ca, .slice b y.is.length cb]) y) ∧ (y.is = [] ∨ ∃ blk off, b = some ⟨blk, off, none⟩ ∧ HI w blk off y.is) ∧ NS w a y.ns ∧ JB y.k y.n y.t y.ns y.is.length := by
  obtain ⟨cs, rfl, hc⟩ := hv
  obtain ⟨a, b, ca, cb, rfl, hB, hN, hI⟩ := hc.form
  exact ⟨a, b, ca, cb, rfl, fun w' h => ⟨_, rfl, HC.below h y _ hc⟩, hI, hN, hB⟩
set_option maxHeartbeats 1000000 in
set_option maxRecDepth 10000 in
theorem long_any (xs : List JV) (w : World) (b : Option Addr) (cb : Nat) (hl : xs.length ≤ maxLen) (hI : xs = [] ∨ ∃ blk off, b = some ⟨blk, off, none⟩ ∧ HI w blk off xs) :
    Calls Try.prog 11 #[.slice b xs.length cb] w fun e w' => (∃ B : Bool, e = .returned (.bool B) ∧ (B = false → JV.wts xs < 20000)) ∧ w = w' := by
  have cS := size_any _ xs (Nat.le_refl _) w b cb 0 (by omega) hl hI
  generalize xs.length = m at *
  rw [show ((0 : Nat) : Int) = 0 from rfl] at cS
  go_enter Try.func11, Try.ntmps11
  go_wp2_with fail
  refine cS.mono ?_; rintro e w1 ⟨⟨Z, rfl, hZ, _⟩, rfl⟩
  have HZ := Lib.hid hZ
  clear hZ
  by_cases h : (20000 : Int) ≤ (Z : Int)
  · go_wp2_with fail
    go_ret
    refine ⟨⟨_, rfl, fun h2 => ?_⟩, rfl⟩
    first | (have := of_decide_eq_false h2; omega) | simp at h2
  · go_wp2_with fail
    go_ret
    exact ⟨⟨_, rfl, fun _ => by have := HZ.out (by omega); omega⟩, rfl⟩
end Go.Proofs.Ytcmalaabggohmaa
