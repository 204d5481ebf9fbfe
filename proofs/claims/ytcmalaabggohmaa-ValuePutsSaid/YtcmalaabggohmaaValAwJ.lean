/-
  The chapter's examples: what they come to.
-/
import Derived.Test.YtcmalaabggohmaaValGrow
namespace Go.Proofs.Ytcmalaabggohmaa
open Go.RowKit

theorem HV.cells {w : World} {v : Value} {x : JV} (h : HV w v x) : ∃ c0 c1 c2 c3 c4, v = .agg #[c0, c1, c2, c3, c4] ∧ HC w [c0, c1, c2, c3, c4] x ∧ ∃ a b ca cb, c0 = .int .u8 (x.k : Int) ∧ c1 = .int .i64 x.n ∧ c2 = .string (S x.t) ∧ c3 = .slice a x.ns.length ca ∧ c4 = .slice b x.is.length cb := by
  obtain ⟨cs, rfl, hc⟩ := h
  obtain ⟨a, b, ca, cb, rfl, _⟩ := hc.form
  exact ⟨_, _, _, _, _, rfl, hc, a, b, ca, cb, rfl, rfl, rfl, rfl, rfl⟩
/-- obj(names, items..) of what literals have laid -/
theorem obj_call (ns : List (List UInt8)) (is : List JV) (nb ib n m : Nat) (cs : List Value) (w : World) (hn : n = ns.length) (hm : m = is.length) (hl : ns.length ≤ 100) (hl2 : is.length ≤ 100) (hx : ∀ x ∈ ns, x.length ≤ 100)
    (h1 : w.heap[nb]? = some (.cells (NC ns).toArray 9 (0, 0))) (h2 : w.heap[ib]? = some (.cells cs.toArray 25 (0, 0))) (h3 : HCS w cs is) :
    Calls Try.prog 29 #[.slice (some ⟨nb, 0, none⟩) n n, .slice (some ⟨ib, 0, none⟩) m m] w fun e w' => ∃ v, e = .returned v ∧ HV w' v (JV.obj ns is) ∧ Below w.heap.size w w' := by
  subst hn hm
  exact obj_any ns is _ _ _ _ w (by unfold maxLen; omega) (by unfold maxLen; omega) (fun x h => by have := hx x h; unfold maxLen; omega) (NS.of_block h1) (.inr ⟨ib, 0, rfl, HI.of_block h2 h3⟩)
theorem list_call (is : List JV) (ib m : Nat) (cs : List Value) (w : World) (hm : m = is.length) (hl2 : is.length ≤ 100) (h2 : w.heap[ib]? = some (.cells cs.toArray 25 (0, 0))) (h3 : HCS w cs is) :
    Calls Try.prog 28 #[.slice (some ⟨ib, 0, none⟩) m m] w fun e w' => ∃ v, e = .returned v ∧ HV w' v (JV.list is) ∧ Below w.heap.size w w' := by
  subst hm
  exact list_any is _ _ w (by unfold maxLen; omega) (.inr ⟨ib, 0, rfl, HI.of_block h2 h3⟩)
def Ja : JV := JV.obj [[97]] [JV.num 1]
def Jb : JV := JV.obj [[97], [98]] [JV.num 1, JV.yes]
def Jd : JV := JV.list [JV.list []]
theorem put_ab : JV.put Ja [98] JV.yes = (Jb, 0) := by rfl
theorem may_a : Ja.may = true := by decide
theorem may_b : Jb.may = true := by decide
theorem may_ba : (JV.obj [[98], [97]] [JV.num 1, JV.num 1]).may = false := by decide
theorem may_two : (JV.mk 1 2 [] [] []).may = false := by decide
theorem may_ff : (JV.text [255]).may = false := by decide
theorem may_text (t : List UInt8) : (JV.text t).may = Jn.txt t := by
  unfold JV.may
  rw [JV.part_eq]
  simp [JV.text, JV.k, JV.n, JV.t, JV.ns, JV.is, JV.cnt, JV.cnts, JV.dep]
theorem may_long : (JV.text (Zs 4097)).may = false := by
  rw [may_text, txt_zeros]
  decide
theorem may_most : (JV.text (Zs 4096)).may = true := by
  rw [may_text, txt_zeros]
  decide
theorem dep_d : Jd.dep = 2 := by decide
theorem cnt_d : Jd.cnt = 2 := by decide
theorem ne_ab : Ja ≠ Jb := fun h => by
  have := congrArg (fun x => x.ns.length) h
  revert this
  decide
theorem wt_zs (n : Nat) (h : n ≤ 10000) : (JV.text (Zs n)).wt ≤ 90000 := by
  unfold JV.text JV.wt
  rw [Zs_length]
  simp only [JV.wn, JV.wts]
  omega
theorem obj_fd {u : World} {v1 v2 : Value} {ns : List (List UInt8)} {is : List JV} {X : JV} (hX : X = JV.obj ns is) (hl : ns.length ≤ 100) (hl2 : is.length ≤ 100) (hx : ∀ x ∈ ns, x.length ≤ 100) (h1 : FD (.names ns) u v1) (h2 : FD (.items is) u v2) :
    Calls Try.prog 29 #[v1, v2] u fun e w' => ∃ v, e = .returned v ∧ FD (.jv X) w' v ∧ Below u.heap.size u w' := by
  subst hX
  obtain ⟨nb, rfl, n1⟩ := h1
  obtain ⟨ib, cs, rfl, i1, i2⟩ := h2
  exact obj_call ns is nb ib _ _ cs u rfl rfl hl hl2 hx n1 i1 i2
theorem text_fd (t : List UInt8) {u : World} {v : Value} (ht : t.length ≤ maxLen) (h : v = .string (S t)) :
    Calls Try.prog 31 #[v] u fun e w' => ∃ v, e = .returned v ∧ FD (.jv (JV.text t)) w' v ∧ Below u.heap.size u w' := by
  subst h
  exact text_any t u ht
theorem gl_eqv {Q : Exit → Act → World → Prop} {a : Act} {u : World} {o : Oper} {b c : Bool} (h : Gw o a u Q (.val (.bool b))) (hb : b = c) : Gw o a u Q (.val (.bool c)) := by
  subst hb
  exact h
theorem gl_two {Q : Exit → Act → World → Prop} {a : Act} {u : World} {o : Oper} (ho : o.op = .build 25 #[(0, .const (.int .u8 1)), (1, .const (.int .i64 2))]) : Gw o a u Q (.jv (.mk 1 2 [] [] [])) := by
  refine wp_val (v := .agg #[.int .u8 1, .int .i64 2, .string ⟨#[]⟩, .slice none 0 0, .slice none 0 0]) ?_ ⟨_, rfl, HV.of _ 1 2 [] [] [] none none 0 0 ⟨by omega, by omega, Nat.zero_le _, Nat.zero_le _, Nat.zero_le _, fun x h => by simp at h⟩ (NS.nil _ _) (.inl rfl), Below.refl _ _⟩
  simp only [execOp, ho]
  kernel_rfl
end Go.Proofs.Ytcmalaabggohmaa
