/-
  awake is true; the contracts of package hex told from an earlier world.
-/
import Derived.Test.YthanefhceopcfaaDoorHexNum
import Derived.Test.YthanefhceopcfaaDoorHexDec
import Derived.Test.YthanefhceopcfaaDoorHexDig
namespace Go.Proofs.YthanefhceopcfaaDoor
open Go.RowKit

section
variable {w0 w : World}
theorem encode_at (h : Below w0.heap.size w0 w) (hT : Tab w0) (s : ByteArray) (hs : s.size ≤ 1000000) :
    Calls Tryd.prog 12 #[.string s] w fun e w' => e = .returned (.string (S (Hm.enc s.data.toList))) ∧ Below w0.heap.size w0 w' :=
  from_ h (encode_any s w hs (hT.below h hT.lt))
theorem decode_at (h : Below w0.heap.size w0 w) (hT : Tab w0) (s : ByteArray) (hs : s.size ≤ 1000000) :
    Calls Tryd.prog 14 #[.string s] w fun e w' => e = .returned (.tuple #[.string (S (Hm.decV s.data.toList)), .int .i64 (Hm.decE s.data.toList)]) ∧ Below w0.heap.size w0 w' :=
  from_ h (decode_any s w hs (hT.below h hT.lt))
theorem digits_at (h : Below w0.heap.size w0 w) (hT : Tab w0) (n : Nat) (least : Int) (hn : n ≤ 18446744073709551615) :
    Calls Tryd.prog 17 #[.int .u64 n, .int .i64 least] w fun e w' => e = .returned (.string (S (Hm.digs n least))) ∧ Below w0.heap.size w0 w' :=
  from_ h (digits_any n least w hn (hT.below h hT.lt))
theorem number_at (h : Below w0.heap.size w0 w) (hT : Tab w0) (s : ByteArray) (hs : s.size ≤ maxLen) :
    Calls Tryd.prog 13 #[.string s] w fun e w' => e = .returned (.tuple #[.int .u64 (Hm.numV s.data.toList), .int .i64 (Hm.numE s.data.toList)]) ∧ w = w' :=
  number_any s w hs (hT.below h hT.lt)
theorem is_at (h : Below w0.heap.size w0 w) (hT : Tab w0) (s : ByteArray) (hs : s.size ≤ maxLen) :
    Calls Tryd.prog 16 #[.string s] w fun e w' => e = .returned (.bool (Hm.allD s.data.toList)) ∧ w = w' :=
  is_any s w hs (hT.below h hT.lt)
/-- the values of a contract's text, reckoned -/
theorem decode_c (h : Below w0.heap.size w0 w) (hT : Tab w0) (l : List UInt8) (hs : l.length ≤ 1000000) {v : List UInt8} {e : Int} (h1 : Hm.decV l = v) (h2 : Hm.decE l = e) :
    Calls Tryd.prog 14 #[.string ⟨l.toArray⟩] w fun x w' => x = .returned (.tuple #[.string ⟨v.toArray⟩, .int .i64 e]) ∧ Below w0.heap.size w0 w' := by
  subst h1 h2
  exact decode_at h hT ⟨l.toArray⟩ (by simpa [ByteArray.size] using hs)
theorem encode_c (h : Below w0.heap.size w0 w) (hT : Tab w0) (l : List UInt8) (hs : l.length ≤ 1000000) {v : List UInt8} (h1 : Hm.enc l = v) :
    Calls Tryd.prog 12 #[.string ⟨l.toArray⟩] w fun x w' => x = .returned (.string ⟨v.toArray⟩) ∧ Below w0.heap.size w0 w' := by
  subst h1
  exact encode_at h hT ⟨l.toArray⟩ (by simpa [ByteArray.size] using hs)
theorem number_c (h : Below w0.heap.size w0 w) (hT : Tab w0) (l : List UInt8) (hs : l.length ≤ 1000000) {v e : Int} (h1 : Hm.numV l = v) (h2 : Hm.numE l = e) :
    Calls Tryd.prog 13 #[.string ⟨l.toArray⟩] w fun x w' => x = .returned (.tuple #[.int .u64 v, .int .i64 e]) ∧ w = w' := by
  subst h1 h2
  exact number_at h hT ⟨l.toArray⟩ (by unfold maxLen; simp [ByteArray.size]; omega)
theorem digits_c (h : Below w0.heap.size w0 w) (hT : Tab w0) (n : Nat) (least : Int) (hn : n ≤ 18446744073709551615) {v : List UInt8} (h1 : Hm.digs n least = v) :
    Calls Tryd.prog 17 #[.int .u64 n, .int .i64 least] w fun x w' => x = .returned (.string ⟨v.toArray⟩) ∧ Below w0.heap.size w0 w' := by
  subst h1
  exact digits_at h hT n least hn
end

set_option maxHeartbeats 800000 in
theorem awake_any (w : World) (hT : Tab w) :
    Calls Tryd.prog 11 #[] w fun e w' => e = .returned (.bool true) ∧ Below w.heap.size w w' := by
  go_enter Tryd.func11, Tryd.ntmps11
  go_wp2_with fail
  refine (decode_c (Below.refl _ _) hT [48, 48, 70, 70] (by decide) (v := []) (e := 3) (by decide) (by decide)).mono ?_; rintro e w1 ⟨rfl, h1⟩
  go_wp2_with fail
  refine (decode_c h1 hT [48] (by decide) (v := []) (e := 4) (by decide) (by decide)).mono ?_; rintro e w2 ⟨rfl, h2⟩
  go_wp2_with fail
  refine (decode_c h2 hT [120] (by decide) (v := []) (e := 3) (by decide) (by decide)).mono ?_; rintro e w3 ⟨rfl, h3⟩
  go_wp2_with fail
  refine (number_c h3 hT [102, 102] (by decide) (v := 255) (e := 0) (by decide) (by decide)).mono ?_; rintro e w4 ⟨rfl, rfl⟩
  go_wp2_with fail
  refine (number_c h3 hT [48, 48, 48, 48, 48, 48, 48, 48, 48, 48, 48, 48, 48, 48, 48, 48, 102, 102] (by decide) (v := 0) (e := 5) (by decide) (by decide)).mono ?_; rintro e w4 ⟨rfl, rfl⟩
  go_wp2_with fail
  refine (encode_c h3 hT [0, 255, 26] (by decide) (v := [48, 48, 102, 102, 49, 97]) (by decide)).mono ?_; rintro e w4 ⟨rfl, h4⟩
  go_wp2_with fail
  refine (digits_c h4 hT 255 1 (by decide) (v := [102, 102]) (by decide)).mono ?_; rintro e w5 ⟨rfl, h5⟩
  go_wp2_with fail
  refine (digits_c h5 hT 255 4 (by decide) (v := [48, 48, 102, 102]) (by decide)).mono ?_; rintro e w6 ⟨rfl, h6⟩
  go_wp2_with fail
  refine (digits_c h6 hT 0 0 (by decide) (v := [48]) (by decide)).mono ?_; rintro e w7 ⟨rfl, h7⟩
  go_wp2_with fail
  go_ret
  exact ⟨rfl, h7⟩

end Go.Proofs.YthanefhceopcfaaDoor
