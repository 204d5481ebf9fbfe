/-
  The laws' awake (canon).
-/
import Derived.Test.YtpifbmcgadjhbaaDoorCanAwG
namespace Go.Proofs.YtpifbmcgadjhbaaDoor
open Go.RowKit

set_option maxHeartbeats 4000000 in
set_option maxRecDepth 4000 in
theorem awake10_any (w : World) (hT : TabN w) : Calls Tryd.prog 9 #[] w fun e w' => e = .returned (.bool true) ∧ Below w.heap.size w w' := by
  obtain ⟨W1, hW1⟩ : ∃ W, W = w.alloc (.cells #[.int .u8 2, .int .i64 1, .string ⟨#[]⟩, .slice none 0 0, .slice none 0 0] 25) := ⟨_, rfl⟩
  obtain ⟨W2, hW2⟩ : ∃ W, W = W1.alloc (.cells #[.int .u8 1, .int .i64 1, .string ⟨#[]⟩, .slice none 0 0, .slice none 0 0] 25) := ⟨_, rfl⟩
  obtain ⟨q, hq⟩ : ∃ q, q = w.heap.size := ⟨_, rfl⟩
  have s1 : W1.heap.size = q + 1 := by rw [hW1, hq]; simp
  have b1 : Below w.heap.size w W1 := by rw [hW1]; exact (Below.refl _ _).alloc (Nat.le_refl _) _
  have b2 : Below W1.heap.size W1 W2 := by rw [hW2]; exact (Below.refl _ _).alloc (Nat.le_refl _) _
  have B2 : Below w.heap.size w W2 := b1.trans (b2.mono b1.size)
  have V1 : VAt q W1 (.int .u8 2) (.int .i64 1) (.string ⟨#[]⟩) (.slice none 0 0) (.slice none 0 0) := by rw [hW1, hq]; exact VAt.new ..
  have V2 : VAt (q + 1) W2 (.int .u8 1) (.int .i64 1) (.string ⟨#[]⟩) (.slice none 0 0) (.slice none 0 0) := by rw [hW2, ← s1]; exact VAt.new ..
  have V1' := V1.below b2
  have bare : ∀ (W : World) (k : Nat) (n : Int), k < 256 → (-9223372036854775808 ≤ n ∧ n ≤ 9223372036854775807) → HV W (.agg #[.int .u8 (k : Int), .int .i64 n, .string ⟨#[]⟩, .slice none 0 0, .slice none 0 0]) (.mk k n [] [] []) := fun W k n h1 h2 =>
    HV.of W k n [] [] [] none none 0 0 ⟨h1, h2, Nat.zero_le _, Nat.zero_le _, Nat.zero_le _, fun x h => by simp at h⟩ (NS.nil _ _) (.inl rfl)
  have cE := enc_call enc_b2 (.agg #[.int .u8 1, .int .i64 2, .string ⟨#[]⟩, .slice none 0 0, .slice none 0 0]) W2 (by decide) (bare W2 1 2 (by omega) (by omega)) (hT.below B2)
  have hS : S [] = (⟨#[]⟩ : ByteArray) := rfl
  rw [hS] at cE
  have HB2 := Lib.hid B2
  have HV1 := Lib.hid V1'
  have HV2 := Lib.hid V2
  have HBR := Lib.hid bare
  clear s1 b1 b2 B2 V1 V2 V1' bare hS
  go_enter Tryd.func9, Tryd.ntmps9
  go_wp2_with fail
  rw [← hW1, ← hW2, ← hq]
  clear hW1 hW2 hq
  refine cE.mono ?_; rintro e w3 ⟨rfl, b3⟩
  have H1 := HBR.out w3 2 1 (by omega) (by omega)
  have H2 := HBR.out w3 1 1 (by omega) (by omega)
  have V1 := HV1.out.below b3
  have V2 := HV2.out.below b3
  have B3 := HB2.out.trans (b3.mono HB2.out.size)
  have HB3 := Lib.hid B3
  have T3 := hT.below B3
  clear cE b3 B3
  go_wp2_with fail
  refine region_cw (by kernel_rfl) (by kernel_rfl) (by simp) rfl rfl rfl V1 V2 H1 H2 T3 (fun f u f0 b4 => ?_)
  have f0 : f 0 = .bool true := f0
  rw [putR_lit]
  simp only [putL, show ∀ i, pcw i = (Scw.contains i) from fun _ => rfl, Scw]
  simp
  rw [f0]
  go_wp2_with fail
  go_ret
  exact ⟨rfl, HB3.out.trans (b4.mono HB3.out.size)⟩
end Go.Proofs.YtpifbmcgadjhbaaDoor
