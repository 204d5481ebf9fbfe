/-
  SHA-256 as plain mathematics: words are Nat, each operation of a word stands under a name of its own.
-/
import Derived.Test.YtnlkmbbgcellfaaDoorBase
import Derived.Laws.BitsAllLaws
namespace Go.Proofs.YtnlkmbbgcellfaaDoor
open Go.RowKit

namespace Sm
def M : Nat := 4294967296
def add (a b : Nat) : Nat := (a + b) % 4294967296
def xor (a b : Nat) : Nat := (a % 4294967296) ^^^ (b % 4294967296)
def and (a b : Nat) : Nat := (a % 4294967296) &&& (b % 4294967296)
def not (a : Nat) : Nat := xor 4294967295 a
/-- round to the right by n -/
def rot (x n : Nat) : Nat := (x * 2 ^ (32 - n) % 4294967296) ||| (x / 2 ^ n % 4294967296)
def shr (x n : Nat) : Nat := x / 2 ^ n

theorem add_lt (a b : Nat) : add a b < 4294967296 := Nat.mod_lt _ (by decide)
theorem xor_lt (a b : Nat) : xor a b < 4294967296 := Nat.xor_lt_two_pow (n := 32) (Nat.mod_lt _ (by decide)) (Nat.mod_lt _ (by decide))
theorem and_lt (a b : Nat) : and a b < 4294967296 := Nat.and_lt_two_pow (n := 32) _ (Nat.mod_lt _ (by decide))
theorem rot_lt (x n : Nat) : rot x n < 4294967296 := Nat.or_lt_two_pow (n := 32) (Nat.mod_lt _ (by decide)) (Nat.mod_lt _ (by decide))

theorem bits_mod (op : BinOp) (a b : Int) : bits op .u32 a b = bits op .u32 (a % 4294967296) (b % 4294967296) := by
  have h (x : Int) : BitVec.ofInt 32 (x % 4294967296) = BitVec.ofInt 32 x := by
    apply BitVec.eq_of_toNat_eq
    simp only [BitVec.toNat_ofInt]
    congr 1
    show x % 4294967296 % 4294967296 = x % 4294967296
    omega
  have h' (x : Int) : BitVec.ofInt (IntKind.bits .u32) (x % 4294967296) = BitVec.ofInt (IntKind.bits .u32) x := h x
  cases op <;> simp only [bits, h']
theorem mod_nat (a : Nat) : (a : Int) % 4294967296 = ((a % 4294967296 : Nat) : Int) := by omega
theorem xor_eq (a b : Nat) : bits .xor .u32 (a : Int) (b : Int) = (xor a b : Int) := by
  rw [bits_mod, mod_nat, mod_nat, u32_xor_nat _ _ (Nat.mod_lt _ (by decide)) (Nat.mod_lt _ (by decide))]; rfl
theorem and_eq (a b : Nat) : bits .and .u32 (a : Int) (b : Int) = (and a b : Int) := by
  rw [bits_mod, mod_nat, mod_nat, u32_and_nat _ _ (Nat.mod_lt _ (by decide)) (Nat.mod_lt _ (by decide))]; rfl
theorem or_eq (a b : Nat) : bits .or .u32 (a : Int) (b : Int) = (((a % 4294967296) ||| (b % 4294967296) : Nat) : Int) := by
  rw [bits_mod, mod_nat, mod_nat, u32_or_nat _ _ (Nat.mod_lt _ (by decide)) (Nat.mod_lt _ (by decide))]
theorem wrap_eq (a : Nat) : IntKind.u32.wrap (a : Int) = ((a % 4294967296 : Nat) : Int) := by
  have : IntKind.u32.wrap (a : Int) = (a : Int) % 4294967296 := by simp [IntKind.wrap, IntKind.bits, IntKind.signed]
  rw [this]
  omega
theorem not_eq (a : Nat) : bits .xor .u32 IntKind.u32.max (a : Int) = (not a : Int) := by
  have h : IntKind.u32.max = ((4294967295 : Nat) : Int) := by decide
  rw [h, xor_eq]
  rfl
theorem wrap_in (a : Int) (h : 0 ≤ a ∧ a < 4294967296) : IntKind.u32.wrap a = a := by
  have : IntKind.u32.wrap a = a % 4294967296 := by simp [IntKind.wrap, IntKind.bits, IntKind.signed]
  omega
theorem wrap_mul (a : Nat) (m : Int) (h : 0 ≤ (a : Int) * m ∧ (a : Int) * m < 4294967296) : IntKind.u32.wrap ((a : Int) * m) = (a : Int) * m := wrap_in _ h
theorem add_eq (a b : Nat) : IntKind.u32.wrap ((a : Int) + (b : Int)) = (add a b : Int) := by
  have : IntKind.u32.wrap ((a : Int) + (b : Int)) = ((a : Int) + (b : Int)) % 4294967296 := by simp [IntKind.wrap, IntKind.bits, IntKind.signed]
  rw [this]
  unfold add
  omega

structure St where
  a : Nat
  b : Nat
  c : Nat
  d : Nat
  e : Nat
  f : Nat
  g : Nat
  h : Nat
def St.list (s : St) : List Nat := [s.a, s.b, s.c, s.d, s.e, s.f, s.g, s.h]
def big1 (e : Nat) : Nat := xor (xor (rot e 6) (rot e 11)) (rot e 25)
def big0 (a : Nat) : Nat := xor (xor (rot a 2) (rot a 13)) (rot a 22)
def small0 (x : Nat) : Nat := xor (xor (rot x 7) (rot x 18)) (shr x 3)
def small1 (x : Nat) : Nat := xor (xor (rot x 17) (rot x 19)) (shr x 10)
def choice (e f g : Nat) : Nat := xor (and e f) (and (not e) g)
def major (a b c : Nat) : Nat := xor (xor (and a b) (and a c)) (and b c)
def t1 (s : St) (k w : Nat) : Nat := add (add (add (add s.h (big1 s.e)) (choice s.e s.f s.g)) k) w
def t2 (s : St) : Nat := add (big0 s.a) (major s.a s.b s.c)
def round (s : St) (k w : Nat) : St := ⟨add (t1 s k w) (t2 s), s.a, s.b, s.c, add s.d (t1 s k w), s.e, s.f, s.g⟩
/-- the 64 constants -/
def K : List Nat := [1116352408, 1899447441, 3049323471, 3921009573, 961987163, 1508970993, 2453635748, 2870763221, 3624381080, 310598401, 607225278, 1426881987,
  1925078388, 2162078206, 2614888103, 3248222580, 3835390401, 4022224774, 264347078, 604807628, 770255983, 1249150122, 1555081692, 1996064986,
  2554220882, 2821834349, 2952996808, 3210313671, 3336571891, 3584528711, 113926993, 338241895, 666307205, 773529912, 1294757372, 1396182291,
  1695183700, 1986661051, 2177026350, 2456956037, 2730485921, 2820302411, 3259730800, 3345764771, 3516065817, 3600352804, 4094571909, 275423344,
  430227734, 506948616, 659060556, 883997877, 958139571, 1322822218, 1537002063, 1747873779, 1955562222, 2024104815, 2227730452, 2361852424,
  2428436474, 2756734187, 3204031479, 3329325298]
def H0 : St := ⟨1779033703, 3144134277, 1013904242, 2773480762, 1359893119, 2600822924, 528734635, 1541459225⟩
/-- a list's number at a place -/
def nth (l : List Nat) (k : Nat) : Nat := l.getD k 0
/-- behind n rounds -/
def rounds (ws : List Nat) (s : St) : Nat → St
  | 0 => s
  | n + 1 => round (rounds ws s n) (nth K n) (nth ws n)
def plus (s t : St) : St := ⟨add s.a t.a, add s.b t.b, add s.c t.c, add s.d t.d, add s.e t.e, add s.f t.f, add s.g t.g, add s.h t.h⟩
def mix (s : St) (ws : List Nat) : St := plus s (rounds ws s 64)
/-- the next word of a schedule of n words, n from 16 on -/
def nextW (l : List Nat) : Nat := add (add (add (nth l (l.length - 16)) (small0 (nth l (l.length - 15)))) (nth l (l.length - 7))) (small1 (nth l (l.length - 2)))
def sched (l : List Nat) : Nat → List Nat
  | 0 => l
  | n + 1 => sched l n ++ [nextW (sched l n)]
def byte (l : List UInt8) (k : Nat) : Nat := (l.getD k 0).toNat
theorem byte_lt (l : List UInt8) (k : Nat) : byte l k < 256 := UInt8.toNat_lt _
/-- the word of four bytes from place 4 * i on -/
def be (b : List UInt8) (i : Nat) : Nat := byte b (4 * i) * 16777216 + byte b (4 * i + 1) * 65536 + byte b (4 * i + 2) * 256 + byte b (4 * i + 3)
def first (b : List UInt8) (n : Nat) : List Nat := (List.range n).map (be b)
def words (b : List UInt8) : List Nat := sched (first b 16) 48
theorem be_of (x0 x1 x2 x3 : Nat) (h0 : x0 < 256) (h1 : x1 < 256) (h2 : x2 < 256) (h3 : x3 < 256) :
    bits .or .u32 (bits .or .u32 (bits .or .u32 ((x0 : Int) * 16777216) ((x1 : Int) * 65536)) ((x2 : Int) * 256)) (x3 : Int) = ((x0 * 16777216 + x1 * 65536 + x2 * 256 + x3 : Nat) : Int) := by
  have e0 : (x0 : Int) * 16777216 = ((x0 * 16777216 : Nat) : Int) := by omega
  have e1 : (x1 : Int) * 65536 = ((x1 * 65536 : Nat) : Int) := by omega
  have e2 : (x2 : Int) * 256 = ((x2 * 256 : Nat) : Int) := by omega
  rw [e0, e1, e2, u32_or_nat _ _ (by omega) (by omega)]
  rw [show x0 * 16777216 = x0 <<< 24 by rw [Nat.shiftLeft_eq], show x1 * 65536 = x1 <<< 16 by rw [Nat.shiftLeft_eq], show x2 * 256 = x2 <<< 8 by rw [Nat.shiftLeft_eq]]
  have s1 : x0 <<< 24 ||| x1 <<< 16 = x0 <<< 24 + x1 <<< 16 := by
    have := Nat.shiftLeft_add_eq_or_of_lt (i := 24) (b := x1 <<< 16) (by rw [Nat.shiftLeft_eq]; omega) x0
    exact this.symm
  rw [s1]
  have t1 : x0 <<< 24 + x1 <<< 16 = (x0 * 256 + x1) <<< 16 := by simp only [Nat.shiftLeft_eq]; omega
  rw [t1, u32_or_nat _ _ (by simp only [Nat.shiftLeft_eq]; omega) (by simp only [Nat.shiftLeft_eq]; omega)]
  have s2 : (x0 * 256 + x1) <<< 16 ||| x2 <<< 8 = (x0 * 256 + x1) <<< 16 + x2 <<< 8 :=
    (Nat.shiftLeft_add_eq_or_of_lt (i := 16) (b := x2 <<< 8) (by rw [Nat.shiftLeft_eq]; omega) (x0 * 256 + x1)).symm
  rw [s2]
  have t2 : (x0 * 256 + x1) <<< 16 + x2 <<< 8 = ((x0 * 256 + x1) * 256 + x2) <<< 8 := by simp only [Nat.shiftLeft_eq]; omega
  rw [t2, u32_or_nat _ _ (by simp only [Nat.shiftLeft_eq]; omega) (by omega)]
  rw [← Nat.shiftLeft_add_eq_or_of_lt (i := 8) (b := x3) (by omega) ((x0 * 256 + x1) * 256 + x2)]
theorem be_eq (b : List UInt8) (k : Nat) :
    bits .or .u32 (bits .or .u32 (bits .or .u32 ((byte b (4 * k) : Int) * 16777216) ((byte b (4 * k + 1) : Int) * 65536)) ((byte b (4 * k + 2) : Int) * 256)) (byte b (4 * k + 3) : Int) = ((be b k : Nat) : Int) :=
  be_of _ _ _ _ (byte_lt _ _) (byte_lt _ _) (byte_lt _ _) (byte_lt _ _)
theorem first_length (b : List UInt8) (n : Nat) : (first b n).length = n := by simp [first]
theorem sched_length (l : List Nat) (n : Nat) : (sched l n).length = l.length + n := by
  induction n with
  | zero => rfl
  | succ n ih => simp [sched, ih]; omega
/-- the first k words added -/
def mid (s R : St) (k : Nat) : List Nat := (plus s R).list.take k ++ s.list.drop k
theorem list_length (s : St) : s.list.length = 8 := rfl
theorem mid_length (s R : St) (k : Nat) (h : k ≤ 8) : (mid s R k).length = 8 := by unfold mid; simp [St.list]; omega
theorem eight {P : Nat → Prop} (h0 : P 0) (h1 : P 1) (h2 : P 2) (h3 : P 3) (h4 : P 4) (h5 : P 5) (h6 : P 6) (h7 : P 7) (k : Nat) (h : k < 8) : P k := by
  obtain rfl | rfl | rfl | rfl | rfl | rfl | rfl | rfl : k = 0 ∨ k = 1 ∨ k = 2 ∨ k = 3 ∨ k = 4 ∨ k = 5 ∨ k = 6 ∨ k = 7 := by omega
  all_goals assumption
theorem mid_nth (s R : St) (k : Nat) (h : k < 8) : nth (mid s R k) k = nth s.list k :=
  eight (P := fun k => nth (mid s R k) k = nth s.list k) rfl rfl rfl rfl rfl rfl rfl rfl k h
theorem mid_set (s R : St) (k : Nat) (h : k < 8) : (mid s R k).set k (add (nth s.list k) (nth R.list k)) = mid s R (k + 1) :=
  eight (P := fun k => (mid s R k).set k (add (nth s.list k) (nth R.list k)) = mid s R (k + 1)) rfl rfl rfl rfl rfl rfl rfl rfl k h
theorem mid_end (s R : St) : mid s R 8 = (plus s R).list := rfl
theorem mid_zero (s R : St) : mid s R 0 = s.list := rfl
/-- n words, and zeros behind them, 64 in all -/
def Z64 : List Nat := List.replicate 64 0
def padded (l : List Nat) : List Nat := l ++ List.replicate (64 - l.length) 0
theorem padded_length (l : List Nat) (h : l.length ≤ 64) : (padded l).length = 64 := by simp [padded]; omega
theorem padded_set (l : List Nat) (x : Nat) (h : l.length < 64) : (padded l).set l.length x = padded (l ++ [x]) := by
  unfold padded
  rw [List.set_append_right _ _ (Nat.le_refl _), Nat.sub_self, show 64 - l.length = (64 - (l ++ [x]).length) + 1 by simp; omega, List.replicate_succ]
  simp
theorem padded_nth (l : List Nat) (k : Nat) (h : k < l.length) : nth (padded l) k = nth l k := by
  simp [nth, padded, List.getD_eq_getElem?_getD, List.getElem?_append_left h]
theorem padded_nil : padded [] = Z64 := rfl
theorem padded_full (l : List Nat) (h : l.length = 64) : padded l = l := by simp [padded, h]
theorem first_succ (b : List UInt8) (k : Nat) : first b (k + 1) = first b k ++ [be b k] := by simp [first, List.range_succ]
theorem words_length (b : List UInt8) : (words b).length = 64 := by unfold words; rw [sched_length, first_length]
end Sm

/-- words, and bytes, as they lie in memory; names, so that the walk does not look behind them -/
def WV (l : List Nat) : List Value := l.map fun (x : Nat) => Value.int .u32 (x : Int)
def AR (l : List Nat) : Array Value := (WV l).toArray
theorem WV_length (l : List Nat) : (WV l).length = l.length := by simp [WV]
theorem AR_size (l : List Nat) : (AR l).size = l.length := by simp [AR, WV]
theorem WV_at (l : List Nat) (k : Nat) (h : k < l.length) : (WV l)[k]? = some (.int .u32 ((Sm.nth l k : Nat) : Int)) := by
  simp [WV, h, Sm.nth]
theorem AR_at (l : List Nat) (k : Nat) (h : k < l.length) : (AR l)[k]? = some (.int .u32 ((Sm.nth l k : Nat) : Int)) := by
  simp [AR, WV_at l k h]
theorem AR_set (l : List Nat) (k x : Nat) : (AR l).setIfInBounds k (.int .u32 (x : Int)) = AR (l.set k x) := by
  simp [AR, WV, List.map_set]
theorem cell_AR (w : World) (b : Nat) (l : List Nat) (t : TypeId) (fr : Nat × Nat) (h : w.heap[b]? = some (.cells (AR l) t fr)) (k : Nat) (hk : k < l.length) :
    w.cell? ⟨b, k, none⟩ = some (.int .u32 ((Sm.nth l k : Nat) : Int)) := by
  rw [cell_of_row w b k _ t fr h, AR_at l k hk]
/-- a word stored into a row of words -/
theorem set_AR (w : World) (b : Nat) (l : List Nat) (t : TypeId) (fr : Nat × Nat) (h : w.heap[b]? = some (.cells (AR l) t fr)) (k x : Nat) :
    (w.setCell ⟨b, k, none⟩ (.int .u32 (x : Int))).heap[b]? = some (.cells (AR (l.set k x)) t fr) := by
  rw [← AR_set]
  simp [World.setCell, Array.getElem?_modify, h]
def AB (l : List UInt8) : Array Value := (V l).toArray
theorem AB_size (l : List UInt8) : (AB l).size = l.length := by simp [AB, V]
theorem AB_at (l : List UInt8) (k : Nat) (h : k < l.length) : (AB l)[k]? = some (.int .u8 ((Sm.byte l k : Nat) : Int)) := by
  simp [AB, V, h, Sm.byte]
theorem cell_AB (w : World) (b : Nat) (l : List UInt8) (t : TypeId) (fr : Nat × Nat) (h : w.heap[b]? = some (.cells (AB l) t fr)) (k : Nat) (hk : k < l.length) :
    w.cell? ⟨b, k, none⟩ = some (.int .u8 ((Sm.byte l k : Nat) : Int)) := by
  rw [cell_of_row w b k _ t fr h, AB_at l k hk]
theorem AB_one (l : List UInt8) : (AB l).all (·.oneCell') = true := by simp [AB, V, Value.oneCell']
theorem frozen_of_row (w : World) (b k : Nat) (cs : Array Value) (t : TypeId) (h : w.heap[b]? = some (.cells cs t (0, 0))) : w.frozen? ⟨b, k, none⟩ = false := by simp [World.frozen?, h]
theorem AR_one (l : List Nat) : (AR l).all (·.oneCell') = true := by simp [AR, WV, Value.oneCell']
theorem setCell_other (w : World) (b k c : Nat) (v : Value) (h : c ≠ b) : (w.setCell ⟨b, k, none⟩ v).heap[c]? = w.heap[c]? := by
  simp [World.setCell, Array.getElem?_modify]
  omega
end Go.Proofs.YtnlkmbbgcellfaaDoor
