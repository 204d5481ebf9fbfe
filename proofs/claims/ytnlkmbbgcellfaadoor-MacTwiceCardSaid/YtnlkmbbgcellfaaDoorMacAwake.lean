/-
  The contracts of package mac told from an earlier world; awake is true.
-/
import Derived.Test.YtnlkmbbgcellfaaDoorMacOf
import Derived.Test.YtnlkmbbgcellfaaDoorMacLoop
namespace Go.Proofs.YtnlkmbbgcellfaaDoor
open Go.RowKit

set_option maxHeartbeats 400000 in
theorem Same_any (a b : ByteArray) (w : World) :
    Calls Tryd.prog 15 #[.string a, .string b] w fun e w' => e = .returned (.bool (a.toList == b.toList)) ∧ w = w' := by
  go_enter Tryd.func15, Tryd.ntmps15
  go_wp2_with fail
  go_ret
  exact ⟨rfl, rfl⟩
section
variable {w0 w : World}
theorem Of_at (h : Below w0.heap.size w0 w) (hT : Tabs w0) (k t : List UInt8) (hk : k.length ≤ 800000000) (ht : t.length ≤ 800000000) :
    Calls Tryd.prog 10 #[.string (S k), .string (S t)] w fun e w' => e = .returned (.string (S (Mm.hmac k t))) ∧ Below w0.heap.size w0 w' :=
  from_ h (Of_any k t w (hT.below h) hk ht)
theorem Block_at (h : Below w0.heap.size w0 w) (hT : Tabs w0) (k : List UInt8) (hk : k.length ≤ 800000000) :
    Calls Tryd.prog 13 #[.string (S k)] w fun e w' => e = .returned (.string (S (Mm.blk k))) ∧ Below w0.heap.size w0 w' :=
  from_ h (Block_any k w (hT.below h) (by omega))
theorem bytes_at (h : Below w0.heap.size w0 w) (n : Nat) (x : UInt8) (hn : n ≤ 100000000) :
    Calls Tryd.prog 11 #[.int .i64 (n : Int), .int .u8 (x.toNat : Int)] w fun e w' => e = .returned (.string (S (List.replicate n x))) ∧ Below w0.heap.size w0 w' :=
  from_ h (bytes_any n x w hn)
theorem combined_at (h : Below w0.heap.size w0 w) (l : List UInt8) (x : UInt8) (hl : l.length ≤ 100000000) :
    Calls Tryd.prog 17 #[.string (S l), .int .u8 (x.toNat : Int)] w fun e w' => e = .returned (.string (S (Mm.xr l x))) ∧ Below w0.heap.size w0 w' :=
  from_ h (combined_any l x w hl)
theorem encode_c (h : Below w0.heap.size w0 w) (hT : Tabs w0) (l : List UInt8) (hl : l.length ≤ 1000000) {v : List UInt8} (hv : Hm.enc l = v) :
    Calls Tryd.prog 9 #[.string (S l)] w fun e w' => e = .returned (.string ⟨v.toArray⟩) ∧ Below w0.heap.size w0 w' := by
  subst hv
  exact from_ h (encode_any (S l) w (by rw [S_size]; exact hl) (hT.below h).1)
end

/-- Hi There -/
theorem mac_hi : Hm.enc (Mm.hmac (List.replicate 20 11) [72, 105, 32, 84, 104, 101, 114, 101]) = [98, 48, 51, 52, 52, 99, 54, 49, 100, 56, 100, 98, 51, 56, 53, 51, 53, 99, 97, 56, 97, 102, 99, 101, 97, 102, 48, 98, 102, 49, 50, 98, 56, 56, 49, 100, 99, 50, 48, 48, 99, 57, 56, 51, 51, 100, 97, 55, 50, 54, 101, 57, 51, 55, 54, 99, 50, 101, 51, 50, 99, 102, 102, 55] := by decide +kernel
/-- what do ya want for nothing? -/
theorem mac_jefe : Hm.enc (Mm.hmac [74, 101, 102, 101] [119, 104, 97, 116, 32, 100, 111, 32, 121, 97, 32, 119, 97, 110, 116, 32, 102, 111, 114, 32, 110, 111, 116, 104, 105, 110, 103, 63]) = [53, 98, 100, 99, 99, 49, 52, 54, 98, 102, 54, 48, 55, 53, 52, 101, 54, 97, 48, 52, 50, 52, 50, 54, 48, 56, 57, 53, 55, 53, 99, 55, 53, 97, 48, 48, 51, 102, 48, 56, 57, 100, 50, 55, 51, 57, 56, 51, 57, 100, 101, 99, 53, 56, 98, 57, 54, 52, 101, 99, 51, 56, 52, 51] := by decide +kernel

set_option maxRecDepth 100000 in
set_option maxHeartbeats 800000 in
theorem awake_any (w : World) (hT : Tabs w) :
    Calls Tryd.prog 8 #[] w fun e w' => e = .returned (.bool true) ∧ Below w.heap.size w w' := by
  have q1 : (Mm.hmac (List.replicate 20 11) [72, 105, 32, 84, 104, 101, 114, 101]).length ≤ 1000000 := by rw [Mm.hmac_length]; decide
  have q2 : (Mm.hmac [74, 101, 102, 101] [119, 104, 97, 116, 32, 100, 111, 32, 121, 97, 32, 119, 97, 110, 116, 32, 102, 111, 114, 32, 110, 111, 116, 104, 105, 110, 103, 63]).length ≤ 1000000 := by rw [Mm.hmac_length]; decide
  go_enter Tryd.func8, Tryd.ntmps8
  go_wp2_with fail
  refine (bytes_at (Below.refl _ _) 20 11 (by decide)).mono ?_; rintro e w1 ⟨rfl, h1⟩
  go_wp2_with fail
  refine (Of_at h1 hT (List.replicate 20 11) [72, 105, 32, 84, 104, 101, 114, 101] (by decide) (by decide)).mono ?_; rintro e w2 ⟨rfl, h2⟩
  go_wp2_with fail
  refine (encode_c h2 hT _ q1 mac_hi).mono ?_; rintro e w3 ⟨rfl, h3⟩
  go_wp2_with fail
  refine (Of_at h3 hT [74, 101, 102, 101] [119, 104, 97, 116, 32, 100, 111, 32, 121, 97, 32, 119, 97, 110, 116, 32, 102, 111, 114, 32, 110, 111, 116, 104, 105, 110, 103, 63] (by decide) (by decide)).mono ?_; rintro e w4 ⟨rfl, h4⟩
  go_wp2_with fail
  refine (encode_c h4 hT _ q2 mac_jefe).mono ?_; rintro e w5 ⟨rfl, h5⟩
  go_wp2_with fail
  refine (Same_any _ _ _).mono ?_; rintro e w6 ⟨rfl, rfl⟩
  go_wp2_with fail
  go_ret
  exact ⟨rfl, h5⟩
end Go.Proofs.YtnlkmbbgcellfaaDoor
