/-
  What every text of ours rests on: contracts told from an earlier world; lists of bytes as texts, and as they lie in memory.
-/
import Derived.Test.YtpifbmcgadjhbaaGreatDoorProg
import Derived.WalkKit
import Derived.WalkSpells
import Derived.WalkLawsBesides
import Derived.Lib.Hide
import Derived.OwnWalk
namespace Go.Proofs.YtpifbmcgadjhbaaGreatDoor
open Go.RowKit

/-- a contract that leaves what was there alone, told from an earlier world -/
theorem from_ {P : Program} {f : FuncId} {args : Array Value} {w0 w : World} {v : Value} (h : Below w0.heap.size w0 w)
    (c : Calls P f args w fun e w' => e = .returned v ∧ Below w.heap.size w w') : Calls P f args w fun e w' => e = .returned v ∧ Below w0.heap.size w0 w' :=
  c.mono fun _ _ ⟨he, hb⟩ => ⟨he, h.trans (hb.mono h.size)⟩
theorem ret_int {k : IntKind} {a b : Int} (h : a = b) : Ending.returned (.int k a) = .returned (.int k b) := by rw [h]

theorem ret_str {a b : ByteArray} (h : a = b) : Ending.returned (.string a) = .returned (.string b) := by rw [h]
theorem ret_bool {a b : Bool} (h : a = b) : Ending.returned (.bool a) = .returned (.bool b) := by rw [h]
/-- a list of bytes as a text; a name, so that the walk does not look behind it -/
def S (l : List UInt8) : ByteArray := ⟨l.toArray⟩
theorem S_data (l : List UInt8) : (S l).data.toList = l := rfl
theorem S_size (l : List UInt8) : (S l).size = l.length := by simp [S, ByteArray.size]
theorem S_toList (l : List UInt8) : (S l).toList = l := by rw [ByteArray.toList_eq, S_data]
theorem S_of (s : ByteArray) : S s.data.toList = s := by cases s; rfl
/-- a text as the text of a list -/
theorem as_S (s : ByteArray) : ∃ l, s = S l := ⟨s.data.toList, (S_of s).symm⟩
theorem S_add (a b : List UInt8) : S a ++ S b = S (a ++ b) := by
  apply ByteArray.ext
  apply Array.toList_inj.1
  simp [S]
/-- + of two texts that are not enormous -/
theorem add_S (a b : List UInt8) (h : a.length + b.length ≤ 9223372036854775807) (w : World) : (Op.stringOp .add (S a) (S b)).run Tryz.prog w = .ok (.string (S (a ++ b))) w := by
  rw [run_string_add_sum w _ _ (by rw [S_size, S_size]; exact h), S_add]
theorem info5 : (Tryz.prog.info? 5).map (fun i => (i.zero, i.size, i.bytes)) = some (some (.int .u8 0), 1, 1) := by kernel_rfl
/-- bytes as they lie in memory -/
def V (l : List UInt8) : List Value := l.map fun b => .int .u8 (b.toNat : Int)
theorem V_length (l : List UInt8) : (V l).length = l.length := by simp [V]
/-- a row of the call's own that holds the bytes l reads as the text l -/
theorem conv_own (W : World) (B : Nat) (v : Value) (l : List UInt8) (h : W.ownsRow B 5 1 v l.length (V l)) :
    (convert 36 9 v).run Tryz.prog W = .ok (.string (S l)) W := by
  obtain ⟨h1, h2⟩ := h
  rcases h2 with ⟨rfl, h2⟩ | ⟨g, cap, cur, rfl, hb, hg, hc, hm, hs, ht⟩
  · have : l = [] := List.length_eq_zero_iff.1 h2
    subst this
    exact run_convert_bytes_nil (P := Tryz.prog) W 36 5 Tryz.underlying36 Tryz.underlying5 0 0 9 Tryz.underlying9
  · refine run_convert_bytes_back (P := Tryz.prog) W 36 9 5 ⟨g, 0, none⟩ cap l Tryz.underlying36 Tryz.underlying5 Tryz.underlying9 ?_
    intro j hj
    have ha : (⟨g, 0, none⟩ : Addr).add j = ⟨g, j, none⟩ := by unfold Addr.add; split <;> simp_all
    rw [ha, cell_of_row W g j cur _ _ hg]
    have hx : (V l)[j]? = some (.int .u8 (l[j].toNat : Int)) := by simp [V, List.getElem?_eq_getElem hj]
    rw [← ht, List.getElem?_take, if_pos (by omega), Array.getElem?_toList] at hx
    exact hx

def lenOf : Value → Nat | .string s => s.size | _ => 0
/-- the slice at p holds the texts L -/
def SlS (w : World) (p : Option Addr) (L : List ByteArray) : Prop := ∀ i, i < L.length → ∃ b o, p = some ⟨b, o, none⟩ ∧ w.cell? ⟨b, o + i, none⟩ = some (.string (L.getD i ⟨#[]⟩))
theorem SlS.below {w w' : World} {p : Option Addr} {L : List ByteArray} (h : SlS w p L) (hb : Below w.heap.size w w') : SlS w' p L := fun i hi => by
  obtain ⟨b, o, h1, h2⟩ := h i hi
  exact ⟨b, o, h1, (hb.cell (World.block_lt_of_cell? w _ h2)).trans h2⟩
/-- the slice at p holds the Booleans L -/
def SlB (w : World) (p : Option Addr) (L : List Bool) : Prop := ∀ i, i < L.length → ∃ b o, p = some ⟨b, o, none⟩ ∧ w.cell? ⟨b, o + i, none⟩ = some (.bool (L.getD i false))
theorem SlB.below {w w' : World} {p : Option Addr} {L : List Bool} (h : SlB w p L) (hb : Below w.heap.size w w') : SlB w' p L := fun i hi => by
  obtain ⟨b, o, h1, h2⟩ := h i hi
  exact ⟨b, o, h1, (hb.cell (World.block_lt_of_cell? w _ h2)).trans h2⟩
/-- the slice at p holds the numbers L, from 0 to 255 -/
def SlU (w : World) (p : Option Addr) (L : List Nat) : Prop := (∀ i, i < L.length → ∃ b o, p = some ⟨b, o, none⟩ ∧ w.cell? ⟨b, o + i, none⟩ = some (.int .u8 ((L.getD i 0 : Nat) : Int))) ∧ ∀ i, L.getD i 0 ≤ 255
theorem SlU.below {w w' : World} {p : Option Addr} {L : List Nat} (h : SlU w p L) (hb : Below w.heap.size w w') : SlU w' p L := ⟨fun i hi => by
  obtain ⟨b, o, h1, h2⟩ := h.1 i hi
  exact ⟨b, o, h1, (hb.cell (World.block_lt_of_cell? w _ h2)).trans h2⟩, h.2⟩
end Go.Proofs.YtpifbmcgadjhbaaGreatDoor
