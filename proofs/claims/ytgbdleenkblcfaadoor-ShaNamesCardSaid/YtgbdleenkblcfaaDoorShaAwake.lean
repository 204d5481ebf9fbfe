/-
  awake is true; the contracts of package sha told from an earlier world.
-/
import Derived.Test.YtgbdleenkblcfaaDoorShaSum
import Derived.Test.YtgbdleenkblcfaaDoorHexEnc
import Derived.Test.YtgbdleenkblcfaaDoorHexDec
namespace Go.Proofs.YtgbdleenkblcfaaDoor
open Go.RowKit

/-- the three tables -/
def Tabs (w : World) : Prop := Tab w ∧ Glob w
theorem Tabs.below {w0 w : World} (h : Tabs w0) (hb : Below w0.heap.size w0 w) : Tabs w := ⟨h.1.below hb h.1.lt, h.2.below hb h.2.lt0 h.2.2.lt⟩
theorem digest_any (t : ByteArray) (w : World) (hT : Tabs w) (hl : t.size ≤ 900000000) :
    Calls Tryd.prog 12 #[.string t] w fun e w' => e = .returned (.string (S (Hm.enc (Sm.sha t.data.toList)))) ∧ Below w.heap.size w w' := by
  go_enter Tryd.func12, Tryd.ntmps12
  go_wp2_with fail
  refine (fsum_any t _ hT.2 hl).mono ?_; rintro e w1 ⟨rfl, hb1⟩
  go_wp2_with fail
  refine (encode_any (S (Sm.sha t.data.toList)) w1 (by rw [S_size, Sm.sha_length]; decide) (hT.below hb1).1).mono ?_; rintro e w2 ⟨rfl, hb2⟩
  rw [S_data]
  go_wp2_with fail
  go_ret
  exact ⟨rfl, hb1.trans (hb2.mono hb1.size)⟩

section
variable {w0 w : World}
theorem digest_at (h : Below w0.heap.size w0 w) (hT : Tabs w0) (t : ByteArray) (hl : t.size ≤ 900000000) :
    Calls Tryd.prog 12 #[.string t] w fun e w' => e = .returned (.string (S (Hm.enc (Sm.sha t.data.toList)))) ∧ Below w0.heap.size w0 w' ∧ Below w.heap.size w w' :=
  (digest_any t w (hT.below h) hl).mono fun _ _ ⟨he, hb⟩ => ⟨he, h.trans (hb.mono h.size), hb⟩
theorem digest_c (h : Below w0.heap.size w0 w) (hT : Tabs w0) (l : List UInt8) (hl : l.length ≤ 900000000) {v : List UInt8} (hv : Hm.enc (Sm.sha l) = v) :
    Calls Tryd.prog 12 #[.string ⟨l.toArray⟩] w fun e w' => e = .returned (.string ⟨v.toArray⟩) ∧ Below w0.heap.size w0 w' ∧ Below w.heap.size w w' := by
  subst hv
  exact digest_at h hT ⟨l.toArray⟩ (by simpa [ByteArray.size] using hl)
theorem fsum_at (h : Below w0.heap.size w0 w) (hT : Tabs w0) (t : ByteArray) (hl : t.size ≤ 900000000) :
    Calls Tryd.prog 10 #[.string t] w fun e w' => e = .returned (.string (S (Sm.sha t.data.toList))) ∧ Below w0.heap.size w0 w' ∧ Below w.heap.size w w' :=
  (fsum_any t w (hT.below h).2 hl).mono fun _ _ ⟨he, hb⟩ => ⟨he, h.trans (hb.mono h.size), hb⟩
theorem sum_at (h : Below w0.heap.size w0 w) (hT : Tabs w0) {b : Nat} {l : List UInt8} (hh : Hs w b l) (hl : l.length ≤ 900000000) :
    Calls Tryd.prog 18 #[.pointer (some ⟨b, 0, none⟩)] w fun e w' => e = .returned (.string (S (Sm.sha l))) ∧ Below w0.heap.size w0 w' ∧ Below w.heap.size w w' :=
  (sum_any b l w hh (hT.below h).2 hl).mono fun _ _ ⟨he, hb⟩ => ⟨he, h.trans (hb.mono h.size), hb⟩
theorem new_at (h : Below w0.heap.size w0 w) :
    Calls Tryd.prog 15 #[] w fun e w' => e = .returned (.pointer (some ⟨w.heap.size, 0, none⟩)) ∧ Hs w' w.heap.size [] ∧ Below w0.heap.size w0 w' ∧ Below w.heap.size w w' :=
  (new_any w).mono fun _ _ ⟨he, hh, hb⟩ => ⟨he, hh, h.trans (hb.mono h.size), hb⟩
theorem copy_at (h : Below w0.heap.size w0 w) {b : Nat} {l : List UInt8} (hh : Hs w b l) :
    Calls Tryd.prog 17 #[.pointer (some ⟨b, 0, none⟩)] w fun e w' => e = .returned (.pointer (some ⟨w.heap.size, 0, none⟩)) ∧ Hs w' w.heap.size l ∧ Below w0.heap.size w0 w' ∧ Below w.heap.size w w' :=
  (copy_any b l w hh).mono fun _ _ ⟨he, hh, hb⟩ => ⟨he, hh, h.trans (hb.mono h.size), hb⟩
theorem write_at (h : Below w0.heap.size w0 w) (hT : Tabs w0) {b : Nat} {l : List UInt8} (hh : Hs w b l) (hb : w0.heap.size ≤ b) (t : ByteArray) (hl : l.length + t.size ≤ 900000000) :
    Calls Tryd.prog 16 #[.pointer (some ⟨b, 0, none⟩), .string t] w fun e w' => e = .returned (.int .i64 0) ∧ Hs w' b (l ++ t.data.toList) ∧ Below w0.heap.size w0 w' ∧ Kp b w w' := by
  have h0 := hT.2.lt0
  have h1 := hT.2.2.lt
  exact (write_any b l t w hh (hT.below h).2 (by omega) (by omega) (by omega)).mono fun _ _ ⟨he, hs, hk⟩ => ⟨he, hs, Kp.below h hk hb, hk⟩
theorem Hs.kp {w w' : World} {b c : Nat} {l : List UInt8} (h : Hs w b l) (hk : Kp c w w') (hn : b ≠ c) : Hs w' b l := h.kept (hk.block b hn h.lt)
end

theorem dig_none : Hm.enc (Sm.sha []) = [101, 51, 98, 48, 99, 52, 52, 50, 57, 56, 102, 99, 49, 99, 49, 52, 57, 97, 102, 98, 102, 52, 99, 56, 57, 57, 54, 102, 98, 57, 50, 52, 50, 55, 97, 101, 52, 49, 101, 52, 54, 52, 57, 98, 57, 51, 52, 99, 97, 52, 57, 53, 57, 57, 49, 98, 55, 56, 53, 50, 98, 56, 53, 53] := by decide +kernel
theorem dig_abc : Hm.enc (Sm.sha [97, 98, 99]) = [98, 97, 55, 56, 49, 54, 98, 102, 56, 102, 48, 49, 99, 102, 101, 97, 52, 49, 52, 49, 52, 48, 100, 101, 53, 100, 97, 101, 50, 50, 50, 51, 98, 48, 48, 51, 54, 49, 97, 51, 57, 54, 49, 55, 55, 97, 57, 99, 98, 52, 49, 48, 102, 102, 54, 49, 102, 50, 48, 48, 49, 53, 97, 100] := by decide +kernel

set_option maxRecDepth 100000 in
set_option maxHeartbeats 800000 in
theorem awake_any (w : World) (hT : Tabs w) :
    Calls Tryd.prog 9 #[] w fun e w' => e = .returned (.bool true) ∧ Below w.heap.size w w' := by
  go_enter Tryd.func9, Tryd.ntmps9
  go_wp2_with fail
  refine (new_at (Below.refl _ _)).mono ?_; rintro e w1 ⟨rfl, hh1, h1, _⟩
  go_wp2_with fail
  refine (write_at h1 hT hh1 (Nat.le_refl _) ⟨#[97, 98]⟩ (by decide)).mono ?_; rintro e w2 ⟨rfl, hh2, h2, _⟩
  go_wp2_with fail
  refine (write_at h2 hT hh2 (Nat.le_refl _) ⟨#[99]⟩ (by decide)).mono ?_; rintro e w3 ⟨rfl, hh3, h3, _⟩
  have hh3' : Hs w3 w.heap.size [97, 98, 99] := hh3
  clear hh3 hh2 hh1
  go_wp2_with fail
  refine (digest_c h3 hT [] (by decide) dig_none).mono ?_; rintro e w4 ⟨rfl, h4, b4⟩
  have hh4 := hh3'.below b4 hh3'.lt
  go_wp2_with fail
  refine (digest_c h4 hT [97, 98, 99] (by decide) dig_abc).mono ?_; rintro e w5 ⟨rfl, h5, b5⟩
  have hh5 := hh4.below b5 hh4.lt
  go_wp2_with fail
  refine (len_any w.heap.size [97, 98, 99] w5 hh5).mono ?_; rintro e w6 ⟨rfl, rfl⟩
  go_wp2_with fail
  refine (sum_at h5 hT hh5 (by decide)).mono ?_; rintro e w6 ⟨rfl, h6, b6⟩
  have hh6 := hh5.below b6 hh5.lt
  go_wp2_with fail
  refine (fsum_at h6 hT ⟨#[97, 98, 99]⟩ (by decide)).mono ?_; rintro e w7 ⟨rfl, h7, b7⟩
  have hh7 := hh6.below b7 hh6.lt
  go_wp2_with fail
  refine (sum_at h7 hT hh7 (by decide)).mono ?_; rintro e w8 ⟨rfl, h8, b8⟩
  have hz : (S (Sm.sha [97, 98, 99])).size = 32 := by rw [S_size, Sm.sha_length]
  go_wp2_with fail
  go_ret
  exact ⟨rfl, h8⟩
end Go.Proofs.YtgbdleenkblcfaaDoor
