/-
  For any two texts (of at most 3,000 bytes each): UTF-8 one behind the other is UTF-8, with as many runes as both, from each rune on; cut within a rune it is ErrShort there.
  Nothing else is asked.
-/
import Derived.Test.YtcoapfnfnlfleaaFrame
import Derived.Test.YtcoapfnfnlfleaaUtfLawD
namespace Go.Proofs.Ytcoapfnfnlfleaa.utfParts
open Go.ChangeShapes Go.WideShapes Go.ChangeAt Go.RowKit

set_option maxRecDepth 100000 in
theorem lifted (os : Os) (started : os.Started) (H : Type) (enc : TypeId × Value → H) :
    ReturnsInHanded {} Try.checked os 7 .any (Rows.utfPartsSpec.pre6 enc Try.prog Try.f7 Rows.utfPartsRow.domain false) (Rows.utfPartsSpec.post enc Try.prog Try.f7 false true false false) := by
  refine returnsInHanded_of_change (C := Try.checked) own started (by kernel_rfl) Try.func7
    (ChangeSpec.witness6 (enc := enc) (C := Try.checked) false ⟨#[], #[.string ⟨#[]⟩, .string ⟨#[]⟩], []⟩ 8 (by kernel_rfl) (by kernel_rfl) (by kernel_rfl) (by kernel_rfl)) ?_
  intro W base args ds gs before hval0 hW _ _
  have hval : ∀ (j : Nat) t v, Try.f7.params[j]? = some t → args[j]? = some v → Value.okWide Try.prog W .any base t v := hval0
  have hW' := hW
  obtain ⟨p, q, hA0, _, _, _, _⟩ := hW
  have hA : DataW.TrodAll enc Try.prog W 0 (fun _ => true) true Try.f7.params.toList args.toList ds p := hA0
  rw [Try.params7] at hA hval
  obtain ⟨v0, vs0, d0, ds0, p0, q0, hargs, _, _, h0, r0⟩ := trodAll_cons hA
  obtain ⟨v1, vs1, d1, ds1, p1, q1, rfl, _, _, h1, r1⟩ := trodAll_cons r0
  obtain ⟨rfl, _, _⟩ := trodAll_nil r1
  obtain rfl : args = #[v0, v1] := by cases args; simp_all
  obtain ⟨t0, rfl, b0⟩ := arg_string (hval 0 9 v0 rfl rfl) h0
  obtain ⟨t1, rfl, b1⟩ := arg_string (hval 1 9 v1 rfl rfl) h1
  exact contract (s := Rows.utfPartsSpec) rfl rfl (by kernel_rfl) (fun l hl => by
    rw [Try.params7] at hl
    match l, hl with
    | [_, _], _ => rfl) hW' (law_UtfParts t0 t1 W b0 b1)

theorem said : Rows.UtfPartsSaid :=
  OpenClaim.holds_of_wide 7 Try.f7 rfl rfl rfl rfl rfl rfl rfl ⟨rfl, rfl, rfl, rfl, rfl⟩ rfl rfl rfl rfl rfl (by kernel_rfl) Try.func7 (by kernel_rfl)
    (of_decide_eq_true (by kernel_rfl)) (by unfold Func.isWrapper; first | (rw [if_pos (by decide +kernel)]; kernel_rfl) | (rw [if_neg (by decide +kernel)]; exact ⟨rfl, rfl⟩))
    (fun os started H enc _ => lifted os started H enc)
end Go.Proofs.Ytcoapfnfnlfleaa.utfParts
