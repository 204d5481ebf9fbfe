/-
  The contracts of package sha told from an earlier world.
-/
import Derived.Test.YtnlkmbbgcellfaaDoorShaSum
import Derived.Test.YtnlkmbbgcellfaaDoorHexEnc
namespace Go.Proofs.YtnlkmbbgcellfaaDoor
open Go.RowKit

/-- the three tables -/
def Tabs (w : World) : Prop := Tab w ∧ Glob w
theorem Tabs.below {w0 w : World} (h : Tabs w0) (hb : Below w0.heap.size w0 w) : Tabs w := ⟨h.1.below hb h.1.lt, h.2.below hb h.2.lt0 h.2.2.lt⟩

section
variable {w0 w : World}
theorem fsum_at (h : Below w0.heap.size w0 w) (hT : Tabs w0) (t : ByteArray) (hl : t.size ≤ 900000000) :
    Calls Tryd.prog 16 #[.string t] w fun e w' => e = .returned (.string (S (Sm.sha t.data.toList))) ∧ Below w0.heap.size w0 w' ∧ Below w.heap.size w w' :=
  (fsum_any t w (hT.below h).2 hl).mono fun _ _ ⟨he, hb⟩ => ⟨he, h.trans (hb.mono h.size), hb⟩
theorem sum_at (h : Below w0.heap.size w0 w) (hT : Tabs w0) {b : Nat} {l : List UInt8} (hh : Hs w b l) (hl : l.length ≤ 900000000) :
    Calls Tryd.prog 25 #[.pointer (some ⟨b, 0, none⟩)] w fun e w' => e = .returned (.string (S (Sm.sha l))) ∧ Below w0.heap.size w0 w' ∧ Below w.heap.size w w' :=
  (sum_any b l w hh (hT.below h).2 hl).mono fun _ _ ⟨he, hb⟩ => ⟨he, h.trans (hb.mono h.size), hb⟩
theorem new_at (h : Below w0.heap.size w0 w) :
    Calls Tryd.prog 23 #[] w fun e w' => e = .returned (.pointer (some ⟨w.heap.size, 0, none⟩)) ∧ Hs w' w.heap.size [] ∧ Below w0.heap.size w0 w' ∧ Below w.heap.size w w' :=
  (new_any w).mono fun _ _ ⟨he, hh, hb⟩ => ⟨he, hh, h.trans (hb.mono h.size), hb⟩
theorem copy_at (h : Below w0.heap.size w0 w) {b : Nat} {l : List UInt8} (hh : Hs w b l) :
    Calls Tryd.prog 30 #[.pointer (some ⟨b, 0, none⟩)] w fun e w' => e = .returned (.pointer (some ⟨w.heap.size, 0, none⟩)) ∧ Hs w' w.heap.size l ∧ Below w0.heap.size w0 w' ∧ Below w.heap.size w w' :=
  (copy_any b l w hh).mono fun _ _ ⟨he, hh, hb⟩ => ⟨he, hh, h.trans (hb.mono h.size), hb⟩
theorem write_at (h : Below w0.heap.size w0 w) (hT : Tabs w0) {b : Nat} {l : List UInt8} (hh : Hs w b l) (hb : w0.heap.size ≤ b) (t : ByteArray) (hl : l.length + t.size ≤ 900000000) :
    Calls Tryd.prog 24 #[.pointer (some ⟨b, 0, none⟩), .string t] w fun e w' => e = .returned (.int .i64 0) ∧ Hs w' b (l ++ t.data.toList) ∧ Below w0.heap.size w0 w' ∧ Kp b w w' := by
  have h0 := hT.2.lt0
  have h1 := hT.2.2.lt
  exact (write_any b l t w hh (hT.below h).2 (by omega) (by omega) (by omega)).mono fun _ _ ⟨he, hs, hk⟩ => ⟨he, hs, Kp.below h hk hb, hk⟩
theorem Hs.kp {w w' : World} {b c : Nat} {l : List UInt8} (h : Hs w b l) (hk : Kp c w w') (hn : b ≠ c) : Hs w' b l := h.kept (hk.block b hn h.lt)
end

end Go.Proofs.YtnlkmbbgcellfaaDoor
