/-
  What the document's Get comes to.
-/
import Derived.Test.YtpifbmcgadjhbaaDoorValRefCnt
import Derived.Test.YtpifbmcgadjhbaaDoorUtfFirst
namespace Go.Proofs.YtpifbmcgadjhbaaDoor
open Go.RowKit

namespace JV
def zero : JV := .mk 0 0 [] [] []
/-- where a name stands first (their number, if nowhere) -/
def find : List (List UInt8) → List UInt8 → Nat
  | [], _ => 0
  | n :: ns, l => if n = l then 0 else find ns l + 1
theorem find_at : ∀ {ns : List (List UInt8)} {l : List UInt8} {i : Nat}, ns[i]? = some l → (∀ (j : Nat) n, j < i → ns[j]? = some n → n ≠ l) → find ns l = i
  | [], l, i, h, _ => by simp at h
  | n :: ns, l, 0, h, _ => by
    obtain rfl : n = l := by simpa using h
    exact if_pos rfl
  | n :: ns, l, i + 1, h, hn => by
    have := find_at (ns := ns) (l := l) (i := i) (by simpa using h) fun j x hj hx => hn (j + 1) x (by omega) (by simpa using hx)
    rw [find, if_neg (hn 0 n (by omega) rfl), this]
theorem find_no : ∀ {ns : List (List UInt8)} {l : List UInt8}, (∀ (j : Nat) n, ns[j]? = some n → n ≠ l) → find ns l = ns.length
  | [], l, _ => rfl
  | n :: ns, l, hn => by
    rw [find, if_neg (hn 0 n rfl), find_no fun j x hx => hn (j + 1) x (by simpa using hx), List.length_cons]
/-- what Get gives -/
def get (x : JV) (l : List UInt8) : JV × Bool :=
  if x.k = 5 then if find x.ns l < x.ns.length then match x.is[find x.ns l]? with | some y => (y, true) | none => (zero, false) else (zero, false) else (zero, false)
end JV
theorem HV.zero (w : World) : HV w (.agg #[.int .u8 0, .int .i64 0, .string ⟨#[]⟩, .slice none 0 0, .slice none 0 0]) JV.zero := by
  refine ⟨_, rfl, ?_⟩
  unfold JV.zero HC
  exact ⟨none, none, 0, 0, rfl, ⟨by omega, by omega, Nat.zero_le _, Nat.zero_le _, Nat.zero_le _, fun x h => by simp at h⟩, fun i x h => by simp at h, .inl rfl⟩
theorem value_size : (Tryd.prog.info? 25).map (·.size) = some 5 := by kernel_rfl
theorem results_val {fn : Func} {t u : Tmp} (h : fn.results = #[.cell t 25, .tmp u]) (tmps : Array Value) (w : World) {b : Nat} {m : Array Value} {fr : Nat × Nat}
    (ht : tmps.getD t undef = .pointer (some ⟨b, 0, none⟩)) (hg : w.heap[b]? = some (.cells m 25 fr)) (hm : m.size = 5) :
    (results fn tmps).run Tryd.prog w = .ok (.tuple #[.agg m, tmps.getD u undef]) w := by
  have hl := run_loadVar_row (P := Tryd.prog) w b 25 25 m fr _ hg Tryd.underlying25 rfl (by rw [hm]; exact value_size)
  have ht' : tmps[t]?.getD undef = .pointer (some ⟨b, 0, none⟩) := by rw [← Array.getD_eq_getD_getElem?]; exact ht
  simp [results, h, ht', asAddr, hl]
theorem VAt.set5 {b : Nat} {w : World} {a0 a1 a2 a3 a4 : Value} (h : VAt b w a0 a1 a2 a3 a4) (v0 v1 v2 v3 v4 : Value) : (((((w.setCell ⟨b, 0, none⟩ v0).setCell ⟨b, 1, none⟩ v1).setCell ⟨b, 2, none⟩ v2).setCell ⟨b, 3, none⟩ v3).setCell ⟨b, 4, none⟩ v4).heap[b]? = some (.cells #[v0, v1, v2, v3, v4] 25 (0, 0)) := by
  have h0 := heap_setCell_same w b 0 _ _ v0 h
  have h1 := heap_setCell_same _ b 1 _ _ v1 h0
  have h2 := heap_setCell_same _ b 2 _ _ v2 h1
  have h3 := heap_setCell_same _ b 3 _ _ v3 h2
  exact heap_setCell_same _ b 4 _ _ v4 h3
theorem below_val {b B : Nat} {w0 w : World} (h : Below B w0 w) (hb : B ≤ b) (v0 v1 v2 v3 v4 : Value) : Below B w0 (((((w.setCell ⟨b, 0, none⟩ v0).setCell ⟨b, 1, none⟩ v1).setCell ⟨b, 2, none⟩ v2).setCell ⟨b, 3, none⟩ v3).setCell ⟨b, 4, none⟩ v4) :=
  ((((h.setCell (p := ⟨b, 0, none⟩) hb _).setCell (p := ⟨b, 1, none⟩) hb _).setCell (p := ⟨b, 2, none⟩) hb _).setCell (p := ⟨b, 3, none⟩) hb _).setCell (p := ⟨b, 4, none⟩) hb _
end Go.Proofs.YtpifbmcgadjhbaaDoor
