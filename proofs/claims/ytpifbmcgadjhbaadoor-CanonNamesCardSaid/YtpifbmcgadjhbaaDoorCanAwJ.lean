/-
  The laws' text, is; what literals of values come to in a statement that draws its order.
-/
import Derived.Test.YtpifbmcgadjhbaaDoorCanEnc
import Derived.Test.YtpifbmcgadjhbaaDoorValFd
namespace Go.Proofs.YtpifbmcgadjhbaaDoor
open Go.RowKit

set_option maxHeartbeats 1000000 in
theorem text10_any (t : List UInt8) (w : World) (ht : t.length ≤ maxLen) :
    Calls Tryd.prog 14 #[.string (S t)] w fun e w' => ∃ v, e = .returned v ∧ HV w' v (JV.text t) ∧ Below w.heap.size w w' := by
  have a := VAt.new w (.int .u8 3) (.int .i64 0) (.string (S t)) (.slice none 0 0) (.slice none 0 0)
  go_enter Tryd.func14, Tryd.ntmps14
  go_wp2_with fail
  refine bodyPost_ret (results_one (fn := Tryd.f14) (t := 2) rfl _ _ rfl a rfl) rfl ?_
  exact ⟨_, rfl, HV.of _ 3 0 t [] [] none none 0 0 ⟨by omega, by omega, ht, Nat.zero_le _, Nat.zero_le _, fun x h => by simp at h⟩ (NS.nil _ _) (.inl rfl), (Below.refl _ _).alloc (Nat.le_refl _) _⟩
theorem text10_fd (t : List UInt8) {u : World} {v : Value} (ht : t.length ≤ 1000) (h : v = .string (S t)) :
    Calls Tryd.prog 14 #[v] u fun e w' => ∃ v, e = .returned v ∧ FD (.jv (JV.text t)) w' v ∧ Below u.heap.size u w' := by
  subst h
  exact text10_any t u (by unfold maxLen; omega)
/-- Encode of a value of which it is known what it is to tell -/
theorem enc_call {x : JV} {t : List UInt8} {z : Nat} (hE : ENC x = (t, z)) (v : Value) (w : World) (hwt : x.wt ≤ 90000) (hv : HV w v x) (hT : TabN w) :
    Calls Tryd.prog 10 #[v] w fun e w' => e = .returned (.tuple #[.string (S t), .int .i64 (z : Int)]) ∧ Below w.heap.size w w' := by
  have := Encode_any x v w hwt hv hT
  rw [hE] at this
  exact this
set_option maxHeartbeats 1000000 in
set_option maxRecDepth 3000 in
theorem is_any {x : JV} {t : List UInt8} (hE : ENC x = (t, 0)) (v : Value) (w : World) (hwt : x.wt ≤ 90000) (hv : HV w v x) (hT : TabN w) :
    Calls Tryd.prog 13 #[v, .string (S t)] w fun e w' => e = .returned (.bool true) ∧ Below w.heap.size w w' := by
  obtain ⟨cs, rfl, hc⟩ := hv
  obtain ⟨a, c, ca, cb, rfl, _, _, _⟩ := hc.form
  obtain ⟨K, hK⟩ : ∃ z : Int, z = (x.k : Int) := ⟨_, rfl⟩
  obtain ⟨N, hNN⟩ : ∃ z : Int, z = x.n := ⟨_, rfl⟩
  obtain ⟨T, hTT⟩ : ∃ z : ByteArray, z = S x.t := ⟨_, rfl⟩
  obtain ⟨p, hp⟩ : ∃ z : Nat, z = x.ns.length := ⟨_, rfl⟩
  obtain ⟨r, hr⟩ : ∃ z : Nat, z = x.is.length := ⟨_, rfl⟩
  have hv : HV w (.agg #[.int .u8 K, .int .i64 N, .string T, .slice a p ca, .slice c r cb]) x := by rw [hK, hNN, hTT, hp, hr]; exact ⟨_, rfl, hc⟩
  rw [← hK, ← hNN, ← hTT, ← hp, ← hr]
  show Calls _ _ #[.agg #[.int .u8 K, .int .i64 N, .string T, .slice a p ca, .slice c r cb], _] w _
  clear hc hK hNN hTT hp hr
  obtain ⟨W1, hW1⟩ : ∃ W, W = w.alloc (.cells #[.int .u8 K, .int .i64 N, .string T, .slice a p ca, .slice c r cb] 25) := ⟨_, rfl⟩
  have g1 : Below w.heap.size w W1 := by rw [hW1]; exact (Below.refl _ _).alloc (Nat.le_refl _) _
  have cE := enc_call hE _ W1 hwt (hv.below g1) (hT.below g1)
  have s1 := S_toList t
  have HG := Lib.hid g1
  clear hE hv hT g1
  go_enter Tryd.func13, Tryd.ntmps13
  go_wp2_with fail
  rw [← hW1]
  clear hW1
  refine cE.mono ?_; rintro e w2 ⟨rfl, b2⟩
  go_wp2_with fail
  go_ret
  exact ⟨rfl, HG.out.trans (b2.mono HG.out.size)⟩
theorem is_fd {X : JV} (t : List UInt8) (hE : ENC X = (t, 0)) {u : World} {v : Value} {c : ByteArray} (hwt : X.wt ≤ 90000) (hv : FD (.jv X) u v) (hT : TabN u) (hc : c = S t) :
    Calls Tryd.prog 13 #[v, .string c] u fun e w' => ∃ z, e = .returned z ∧ FD (.val (.bool true)) w' z ∧ Below u.heap.size u w' := by
  subst hc
  exact gl_ret (is_any hE v u hwt hv hT)
section
variable {Q : Exit → Act → World → Prop} {a : Act} {u : World} {o : Oper}
/-- a literal of a value: no field, but its Kind -/
theorem gl_bk {k : Nat} (hk : k < 256) (ho : o.op = .build 25 #[(0, .const (.int .u8 (k : Int)))]) : Gw o a u Q (.jv (.mk k 0 [] [] [])) := by
  refine wp_val (v := .agg #[.int .u8 (k : Int), .int .i64 0, .string ⟨#[]⟩, .slice none 0 0, .slice none 0 0]) ?_ ⟨_, rfl, HV.of _ k 0 [] [] [] none none 0 0 ⟨hk, by omega, Nat.zero_le _, Nat.zero_le _, Nat.zero_le _, fun x h => by simp at h⟩ (NS.nil _ _) (.inl rfl), Below.refl _ _⟩
  simp only [execOp, ho]
  kernel_rfl
/-- .. its Kind and N -/
theorem gl_bn {k : Nat} {n : Int} (hk : k < 256) (hn : -9223372036854775808 ≤ n ∧ n ≤ 9223372036854775807) (ho : o.op = .build 25 #[(0, .const (.int .u8 (k : Int))), (1, .const (.int .i64 n))]) : Gw o a u Q (.jv (.mk k n [] [] [])) := by
  refine wp_val (v := .agg #[.int .u8 (k : Int), .int .i64 n, .string ⟨#[]⟩, .slice none 0 0, .slice none 0 0]) ?_ ⟨_, rfl, HV.of _ k n [] [] [] none none 0 0 ⟨hk, hn, Nat.zero_le _, Nat.zero_le _, Nat.zero_le _, fun x h => by simp at h⟩ (NS.nil _ _) (.inl rfl), Below.refl _ _⟩
  simp only [execOp, ho]
  kernel_rfl
/-- .. its Kind and Items -/
theorem gl_bi {k : Nat} {x : Operand} {is : List JV} (hk : k < 256) (ho : o.op = .build 25 #[(0, .const (.int .u8 (k : Int))), (4, x)]) (hx : FD (.items is) u (a.eval x)) (hl : is.length ≤ 100) : Gw o a u Q (.jv (.mk k 0 [] [] is)) := by
  obtain ⟨b, cs, h1, h2, h3⟩ := hx
  refine wp_val (v := .agg #[.int .u8 (k : Int), .int .i64 0, .string ⟨#[]⟩, .slice none 0 0, .slice (some ⟨b, 0, none⟩) is.length is.length]) ?_ ⟨_, rfl, HV.of _ k 0 [] [] is none (some ⟨b, 0, none⟩) 0 is.length ⟨hk, by omega, Nat.zero_le _, Nat.zero_le _, by unfold maxLen; omega, fun x h => by simp at h⟩ (NS.nil _ _) (.inr ⟨b, 0, rfl, HI.of_block h2 h3⟩), Below.refl _ _⟩
  simp only [execOp, ho, List.map_toArray, List.map_cons, List.map_nil, h1]
  kernel_rfl
/-- .. its Kind, Names and Items -/
theorem gl_bo {k : Nat} {x y : Operand} {ns : List (List UInt8)} {is : List JV} (hk : k < 256) (ho : o.op = .build 25 #[(0, .const (.int .u8 (k : Int))), (3, x), (4, y)]) (hx : FD (.names ns) u (a.eval x)) (hy : FD (.items is) u (a.eval y)) (hl : is.length ≤ 100) (hn : ns.length ≤ 100) (hns : ∀ x ∈ ns, x.length ≤ 100) : Gw o a u Q (.jv (.mk k 0 [] ns is)) := by
  obtain ⟨b, cs, h1, h2, h3⟩ := hy
  obtain ⟨d, n1, n2⟩ := hx
  refine wp_val (v := .agg #[.int .u8 (k : Int), .int .i64 0, .string ⟨#[]⟩, .slice (some ⟨d, 0, none⟩) ns.length ns.length, .slice (some ⟨b, 0, none⟩) is.length is.length]) ?_ ⟨_, rfl, HV.of _ k 0 [] ns is (some ⟨d, 0, none⟩) (some ⟨b, 0, none⟩) ns.length is.length ⟨hk, by omega, Nat.zero_le _, by unfold maxLen; omega, by unfold maxLen; omega, fun x h => by have := hns x h; unfold maxLen; omega⟩ (NS.of_block n2) (.inr ⟨b, 0, rfl, HI.of_block h2 h3⟩), Below.refl _ _⟩
  simp only [execOp, ho, List.map_toArray, List.map_cons, List.map_nil, h1, n1]
  kernel_rfl
end
end Go.Proofs.YtpifbmcgadjhbaaDoor
