/-
  What the document's escape comes to: the rune behind a \\ .
-/
import Derived.Test.YtjbkbkfhbombbaaGreatDoorQuoteRefSaid
namespace Go.Proofs.YtjbkbkfhbombbaaGreatDoor
open Go.RowKit

def Qm.LS : List Nat := [34, 92, 47, 98, 102, 110, 114, 116]
def Qm.MS : Array Value := #[.int .i64 34, .int .i64 92, .int .i64 47, .int .i64 8, .int .i64 12, .int .i64 10, .int .i64 13, .int .i64 9]
theorem Qm.simple_at : ∀ i : Fin 8, ∀ c : Nat, Qm.LS[i.val]? = some c → ∃ r : Nat, Qm.simple (UInt8.ofNat c) = some r ∧ Qm.MS[i.val]? = some (.int .i64 (r : Int)) ∧ UInt8.ofNat c ≠ 117 := by
  intro i c h
  rcases i with ⟨i, hi⟩
  simp only at h ⊢
  rcases (show i = 0 ∨ i = 1 ∨ i = 2 ∨ i = 3 ∨ i = 4 ∨ i = 5 ∨ i = 6 ∨ i = 7 by omega) with rfl | rfl | rfl | rfl | rfl | rfl | rfl | rfl
  all_goals
    simp [Qm.LS] at h
    subst h
    exact ⟨_, rfl, rfl, by decide⟩
theorem Qm.simple_none {c : UInt8} (h : ∀ i, i < 8 → Qm.LS.getD i 0 ≠ c.toNat) : Qm.simple c = none := by
  have key : ∀ k : UInt8, (∃ i, i < 8 ∧ Qm.LS.getD i 0 = k.toNat) → c ≠ k := fun k ⟨i, hi, hk⟩ e => h i hi (by rw [e]; exact hk)
  unfold Qm.simple
  rw [if_neg, if_neg (key 98 ⟨3, by omega, rfl⟩), if_neg (key 102 ⟨4, by omega, rfl⟩), if_neg (key 110 ⟨5, by omega, rfl⟩), if_neg (key 114 ⟨6, by omega, rfl⟩), if_neg (key 116 ⟨7, by omega, rfl⟩)]
  rintro (e | e | e)
  · exact key 34 ⟨0, by omega, rfl⟩ e
  · exact key 92 ⟨1, by omega, rfl⟩ e
  · exact key 47 ⟨2, by omega, rfl⟩ e
theorem Qm.escd_simple {c : UInt8} {t : List UInt8} (h : c ≠ 117) {r : Nat} (hs : Qm.simple c = some r) : Qm.escd (c :: t) = (r, 1, 0) := by
  show (if c = 117 then Qm.shift 1 (Qm.num t) else match Qm.simple c with | some r => (r, 1, 0) | none => (0, 0, 3)) = _
  rw [if_neg h, hs]
theorem Qm.escd_none {c : UInt8} {t : List UInt8} (h : c ≠ 117) (hs : Qm.simple c = none) : Qm.escd (c :: t) = (0, 0, 3) := by
  show (if c = 117 then Qm.shift 1 (Qm.num t) else match Qm.simple c with | some r => (r, 1, 0) | none => (0, 0, 3)) = _
  rw [if_neg h, hs]
theorem Tells.shifted {l : List UInt8} {p : Nat} {c : UInt8} {e : Ending} (hd : l.drop p = c :: l.drop (p + 1)) (hc : c = 117) (h : Tells Qm.num l (p + 1) e) : Tells Qm.escd l p e := by
  have hx : Qm.escd (l.drop p) = Qm.shift 1 (Qm.num (l.drop (p + 1))) := by
    rw [hd, hc]
    rfl
  rcases h with ⟨r, q, z, h1, h2, h3⟩ | ⟨k, a, b, h1, h2, h3⟩
  · refine .inl ⟨r, q, z + 1, ?_, by omega, h3⟩
    rw [hx, h1]
    rfl
  · refine .inr ⟨k, a, b, h1, ?_, h3⟩
    rw [hx]
    unfold Qm.shift
    rw [if_neg (by rw [h2]; exact h1)]
    exact h2
theorem ms_at {w w' : World} (h : Below (w.alloc (.cells Qm.MS 3)).heap.size (w.alloc (.cells Qm.MS 3)) w') (j : Nat) (v : Value) (hj : Qm.MS[j]? = some v) : w'.cell? ⟨w.heap.size, j, none⟩ = some v := by
  have hc : (w.alloc (.cells Qm.MS 3)).cell? ⟨w.heap.size, j, none⟩ = some v := by
    rw [cell_of_row _ w.heap.size j _ _ _ (heap_alloc_new w _)]
    exact hj
  exact (h.cell (World.block_lt_of_cell? _ _ hc)).trans hc
set_option maxHeartbeats 4000000 in
set_option maxRecDepth 3000 in
theorem escape_any (l : List UInt8) (p : Nat) (w : World) (hp : p ≤ l.length) (hl : l.length ≤ 100000000) :
    Calls Tryz.prog 21 #[.string (S l), .int .i64 (p : Int)] w fun e w' => Tells Qm.escd l p e ∧ Below w.heap.size w w' := by
  have z1 := S_size l
  by_cases hend : (l.length : Int) ≤ (p : Int)
  · have HR : Hid (Qm.escd (l.drop p) = (0, 0, 4)) := by
      rw [Hid, List.drop_of_length_le (by omega)]
      rfl
    go_enter Tryz.func21, Tryz.ntmps21
    go_wp2_with fail
    go_ret3
    exact ⟨Tells.no HR.out (by decide) _ _, Below.refl _ _⟩
  have hat := Tx_at l
  obtain ⟨c, hc, hdr⟩ := Tx.drop_cons (show p < l.length by omega)
  have hpl : p < l.length := by omega
  have hpl' : (p : Int) < (l.length : Int) := by omega
  have hby := Tx.bt_lt l p
  by_cases hu : (Tx.bt l p : Int) = 117
  · have hpi : (p : Int) + 1 = ((p + 1 : Nat) : Int) := by omega
    have c1 := fun w => said_any l (p + 1) w (by omega) hl
    rw [← hpi] at c1
    have HC : Hid (c = 117) := UInt8.toNat.inj (by rw [hc, show Tx.bt l p = 117 by omega]; rfl)
    have HD := Lib.hid hdr
    clear hc hdr hpi
    go_enter Tryz.func21, Tryz.ntmps21
    go_wp2_with fail
    refine (c1 _).mono ?_; rintro e w1 ⟨ht, b1⟩
    have ht2 := Tells.shifted HD.out HC.out ht
    clear ht
    rcases ht2 with ⟨r, q, z, h1, h2, rfl⟩ | ⟨k, a, b, h1, h2, rfl⟩
    · have H1 := Lib.hid (And.intro h1 h2)
      clear h1 h2
      go_wp2_with fail
      go_ret3
      exact ⟨.inl ⟨r, q, z, H1.out.1, H1.out.2, rfl⟩, b1⟩
    · have H1 := Lib.hid (And.intro h1 h2)
      clear h1 h2
      go_wp2_with fail
      go_ret3
      exact ⟨.inr ⟨k, a, b, H1.out.1, H1.out.2, rfl⟩, b1⟩
  have hub : ((Tx.bt l p : Int) == 117) = false := beq_eq_false_iff_ne.2 hu
  have hcu : c ≠ 117 := fun e => hu (by rw [← hc, e]; rfl)
  obtain ⟨W1, hW1⟩ : ∃ W1, W1 = w.alloc (.cells Qm.MS 3) := ⟨_, rfl⟩
  have HW1 := Lib.hid hW1
  have HB1 : Hid (Below w.heap.size w W1) := by rw [hW1]; exact (Below.refl _ _).alloc (Nat.le_refl _) _
  have HC := Lib.hid hc
  have HD := Lib.hid hdr
  clear hc hdr hu
  go_enter Tryz.func21, Tryz.ntmps21
  go_wp2_with fail
  rw [show w.alloc (.cells #[.int .i64 34, .int .i64 92, .int .i64 47, .int .i64 8, .int .i64 12, .int .i64 10, .int .i64 13, .int .i64 9] 3) = W1 from hW1.symm]
  clear hW1
  go_loopw [9] (fun iv wr => ∃ i : Nat, iv = .int .i64 (i : Int) ∧ i ≤ 8 ∧ Hid (∀ k, k < i → Qm.LS.getD k 0 ≠ c.toNat) ∧ Below W1.heap.size W1 wr) (fun iv _ => 8 - (intOf iv).toNat)
  case atStart => exact ⟨0, rfl, by omega, fun k hk => by omega, Below.refl _ _⟩
  case round =>
    obtain ⟨i, rfl, hi, HN, hbel⟩ := hrel
    by_cases h8 : (i : Int) < 8
    · have hms := fun v => ms_at (by rw [← HW1.out]; exact hbel) i v
      rcases (show i = 0 ∨ i = 1 ∨ i = 2 ∨ i = 3 ∨ i = 4 ∨ i = 5 ∨ i = 6 ∨ i = 7 by omega) with rfl | rfl | rfl | rfl | rfl | rfl | rfl | rfl
      · have hcell : wr.cell? ⟨w.heap.size, 0, none⟩ = some (.int .i64 34) := hms _ rfl
        have hli : ∀ h, ((⟨#[34, 92, 47, 98, 102, 110, 114, 116]⟩ : ByteArray)[0]'h).toNat = 34 := fun _ => rfl
        by_cases hm : (Tx.bt l p : Int) = 34
        · have HR : Hid (Qm.escd (l.drop p) = (34, 1, 0)) := by
            have hcc : c = 34 := UInt8.toNat.inj (by rw [HC.out, show Tx.bt l p = 34 by omega]; rfl)
            rw [Hid, HD.out, hcc]
            rfl
          have HB := Lib.hid (HB1.out.trans (hbel.mono HB1.out.size))
          clear hms
          go_wp2_with fail
          go_region
          all_goals
            go_wp2_with fail
            go_ret3
            exact ⟨Tells.yes HR.out rfl (by rfl), HB.out.drew⟩
        · have hmb : ((Tx.bt l p : Int) == 34) = false := beq_eq_false_iff_ne.2 hm
          have HNN : Hid (∀ k, k < 1 → Qm.LS.getD k 0 ≠ c.toNat) := fun k hk => by
            by_cases e : k = 0
            · subst e
              show 34 ≠ c.toNat
              rw [HC.out]
              omega
            · exact HN.out k (by omega)
          clear hms hm
          go_wp2_with fail
          go_region
          all_goals
            go_wp2_with fail
            go_roundw
            case rel => exact ⟨1, rfl, by omega, HNN, hbel.drew⟩
            case measure => simp [intOf]
      · have hcell : wr.cell? ⟨w.heap.size, 1, none⟩ = some (.int .i64 92) := hms _ rfl
        have hli : ∀ h, ((⟨#[34, 92, 47, 98, 102, 110, 114, 116]⟩ : ByteArray)[1]'h).toNat = 92 := fun _ => rfl
        by_cases hm : (Tx.bt l p : Int) = 92
        · have HR : Hid (Qm.escd (l.drop p) = (92, 1, 0)) := by
            have hcc : c = 92 := UInt8.toNat.inj (by rw [HC.out, show Tx.bt l p = 92 by omega]; rfl)
            rw [Hid, HD.out, hcc]
            rfl
          have HB := Lib.hid (HB1.out.trans (hbel.mono HB1.out.size))
          clear hms
          go_wp2_with fail
          go_region
          all_goals
            go_wp2_with fail
            go_ret3
            exact ⟨Tells.yes HR.out rfl (by rfl), HB.out.drew⟩
        · have hmb : ((Tx.bt l p : Int) == 92) = false := beq_eq_false_iff_ne.2 hm
          have HNN : Hid (∀ k, k < 2 → Qm.LS.getD k 0 ≠ c.toNat) := fun k hk => by
            by_cases e : k = 1
            · subst e
              show 92 ≠ c.toNat
              rw [HC.out]
              omega
            · exact HN.out k (by omega)
          clear hms hm
          go_wp2_with fail
          go_region
          all_goals
            go_wp2_with fail
            go_roundw
            case rel => exact ⟨2, rfl, by omega, HNN, hbel.drew⟩
            case measure => simp [intOf]
      · have hcell : wr.cell? ⟨w.heap.size, 2, none⟩ = some (.int .i64 47) := hms _ rfl
        have hli : ∀ h, ((⟨#[34, 92, 47, 98, 102, 110, 114, 116]⟩ : ByteArray)[2]'h).toNat = 47 := fun _ => rfl
        by_cases hm : (Tx.bt l p : Int) = 47
        · have HR : Hid (Qm.escd (l.drop p) = (47, 1, 0)) := by
            have hcc : c = 47 := UInt8.toNat.inj (by rw [HC.out, show Tx.bt l p = 47 by omega]; rfl)
            rw [Hid, HD.out, hcc]
            rfl
          have HB := Lib.hid (HB1.out.trans (hbel.mono HB1.out.size))
          clear hms
          go_wp2_with fail
          go_region
          all_goals
            go_wp2_with fail
            go_ret3
            exact ⟨Tells.yes HR.out rfl (by rfl), HB.out.drew⟩
        · have hmb : ((Tx.bt l p : Int) == 47) = false := beq_eq_false_iff_ne.2 hm
          have HNN : Hid (∀ k, k < 3 → Qm.LS.getD k 0 ≠ c.toNat) := fun k hk => by
            by_cases e : k = 2
            · subst e
              show 47 ≠ c.toNat
              rw [HC.out]
              omega
            · exact HN.out k (by omega)
          clear hms hm
          go_wp2_with fail
          go_region
          all_goals
            go_wp2_with fail
            go_roundw
            case rel => exact ⟨3, rfl, by omega, HNN, hbel.drew⟩
            case measure => simp [intOf]
      · have hcell : wr.cell? ⟨w.heap.size, 3, none⟩ = some (.int .i64 8) := hms _ rfl
        have hli : ∀ h, ((⟨#[34, 92, 47, 98, 102, 110, 114, 116]⟩ : ByteArray)[3]'h).toNat = 98 := fun _ => rfl
        by_cases hm : (Tx.bt l p : Int) = 98
        · have HR : Hid (Qm.escd (l.drop p) = (8, 1, 0)) := by
            have hcc : c = 98 := UInt8.toNat.inj (by rw [HC.out, show Tx.bt l p = 98 by omega]; rfl)
            rw [Hid, HD.out, hcc]
            rfl
          have HB := Lib.hid (HB1.out.trans (hbel.mono HB1.out.size))
          clear hms
          go_wp2_with fail
          go_region
          all_goals
            go_wp2_with fail
            go_ret3
            exact ⟨Tells.yes HR.out rfl (by rfl), HB.out.drew⟩
        · have hmb : ((Tx.bt l p : Int) == 98) = false := beq_eq_false_iff_ne.2 hm
          have HNN : Hid (∀ k, k < 4 → Qm.LS.getD k 0 ≠ c.toNat) := fun k hk => by
            by_cases e : k = 3
            · subst e
              show 98 ≠ c.toNat
              rw [HC.out]
              omega
            · exact HN.out k (by omega)
          clear hms hm
          go_wp2_with fail
          go_region
          all_goals
            go_wp2_with fail
            go_roundw
            case rel => exact ⟨4, rfl, by omega, HNN, hbel.drew⟩
            case measure => simp [intOf]
      · have hcell : wr.cell? ⟨w.heap.size, 4, none⟩ = some (.int .i64 12) := hms _ rfl
        have hli : ∀ h, ((⟨#[34, 92, 47, 98, 102, 110, 114, 116]⟩ : ByteArray)[4]'h).toNat = 102 := fun _ => rfl
        by_cases hm : (Tx.bt l p : Int) = 102
        · have HR : Hid (Qm.escd (l.drop p) = (12, 1, 0)) := by
            have hcc : c = 102 := UInt8.toNat.inj (by rw [HC.out, show Tx.bt l p = 102 by omega]; rfl)
            rw [Hid, HD.out, hcc]
            rfl
          have HB := Lib.hid (HB1.out.trans (hbel.mono HB1.out.size))
          clear hms
          go_wp2_with fail
          go_region
          all_goals
            go_wp2_with fail
            go_ret3
            exact ⟨Tells.yes HR.out rfl (by rfl), HB.out.drew⟩
        · have hmb : ((Tx.bt l p : Int) == 102) = false := beq_eq_false_iff_ne.2 hm
          have HNN : Hid (∀ k, k < 5 → Qm.LS.getD k 0 ≠ c.toNat) := fun k hk => by
            by_cases e : k = 4
            · subst e
              show 102 ≠ c.toNat
              rw [HC.out]
              omega
            · exact HN.out k (by omega)
          clear hms hm
          go_wp2_with fail
          go_region
          all_goals
            go_wp2_with fail
            go_roundw
            case rel => exact ⟨5, rfl, by omega, HNN, hbel.drew⟩
            case measure => simp [intOf]
      · have hcell : wr.cell? ⟨w.heap.size, 5, none⟩ = some (.int .i64 10) := hms _ rfl
        have hli : ∀ h, ((⟨#[34, 92, 47, 98, 102, 110, 114, 116]⟩ : ByteArray)[5]'h).toNat = 110 := fun _ => rfl
        by_cases hm : (Tx.bt l p : Int) = 110
        · have HR : Hid (Qm.escd (l.drop p) = (10, 1, 0)) := by
            have hcc : c = 110 := UInt8.toNat.inj (by rw [HC.out, show Tx.bt l p = 110 by omega]; rfl)
            rw [Hid, HD.out, hcc]
            rfl
          have HB := Lib.hid (HB1.out.trans (hbel.mono HB1.out.size))
          clear hms
          go_wp2_with fail
          go_region
          all_goals
            go_wp2_with fail
            go_ret3
            exact ⟨Tells.yes HR.out rfl (by rfl), HB.out.drew⟩
        · have hmb : ((Tx.bt l p : Int) == 110) = false := beq_eq_false_iff_ne.2 hm
          have HNN : Hid (∀ k, k < 6 → Qm.LS.getD k 0 ≠ c.toNat) := fun k hk => by
            by_cases e : k = 5
            · subst e
              show 110 ≠ c.toNat
              rw [HC.out]
              omega
            · exact HN.out k (by omega)
          clear hms hm
          go_wp2_with fail
          go_region
          all_goals
            go_wp2_with fail
            go_roundw
            case rel => exact ⟨6, rfl, by omega, HNN, hbel.drew⟩
            case measure => simp [intOf]
      · have hcell : wr.cell? ⟨w.heap.size, 6, none⟩ = some (.int .i64 13) := hms _ rfl
        have hli : ∀ h, ((⟨#[34, 92, 47, 98, 102, 110, 114, 116]⟩ : ByteArray)[6]'h).toNat = 114 := fun _ => rfl
        by_cases hm : (Tx.bt l p : Int) = 114
        · have HR : Hid (Qm.escd (l.drop p) = (13, 1, 0)) := by
            have hcc : c = 114 := UInt8.toNat.inj (by rw [HC.out, show Tx.bt l p = 114 by omega]; rfl)
            rw [Hid, HD.out, hcc]
            rfl
          have HB := Lib.hid (HB1.out.trans (hbel.mono HB1.out.size))
          clear hms
          go_wp2_with fail
          go_region
          all_goals
            go_wp2_with fail
            go_ret3
            exact ⟨Tells.yes HR.out rfl (by rfl), HB.out.drew⟩
        · have hmb : ((Tx.bt l p : Int) == 114) = false := beq_eq_false_iff_ne.2 hm
          have HNN : Hid (∀ k, k < 7 → Qm.LS.getD k 0 ≠ c.toNat) := fun k hk => by
            by_cases e : k = 6
            · subst e
              show 114 ≠ c.toNat
              rw [HC.out]
              omega
            · exact HN.out k (by omega)
          clear hms hm
          go_wp2_with fail
          go_region
          all_goals
            go_wp2_with fail
            go_roundw
            case rel => exact ⟨7, rfl, by omega, HNN, hbel.drew⟩
            case measure => simp [intOf]
      · have hcell : wr.cell? ⟨w.heap.size, 7, none⟩ = some (.int .i64 9) := hms _ rfl
        have hli : ∀ h, ((⟨#[34, 92, 47, 98, 102, 110, 114, 116]⟩ : ByteArray)[7]'h).toNat = 116 := fun _ => rfl
        by_cases hm : (Tx.bt l p : Int) = 116
        · have HR : Hid (Qm.escd (l.drop p) = (9, 1, 0)) := by
            have hcc : c = 116 := UInt8.toNat.inj (by rw [HC.out, show Tx.bt l p = 116 by omega]; rfl)
            rw [Hid, HD.out, hcc]
            rfl
          have HB := Lib.hid (HB1.out.trans (hbel.mono HB1.out.size))
          clear hms
          go_wp2_with fail
          go_region
          all_goals
            go_wp2_with fail
            go_ret3
            exact ⟨Tells.yes HR.out rfl (by rfl), HB.out.drew⟩
        · have hmb : ((Tx.bt l p : Int) == 116) = false := beq_eq_false_iff_ne.2 hm
          have HNN : Hid (∀ k, k < 8 → Qm.LS.getD k 0 ≠ c.toNat) := fun k hk => by
            by_cases e : k = 7
            · subst e
              show 116 ≠ c.toNat
              rw [HC.out]
              omega
            · exact HN.out k (by omega)
          clear hms hm
          go_wp2_with fail
          go_region
          all_goals
            go_wp2_with fail
            go_roundw
            case rel => exact ⟨8, rfl, by omega, HNN, hbel.drew⟩
            case measure => simp [intOf]
    · have HR : Hid (Qm.escd (l.drop p) = (0, 0, 3)) := by
        rw [Hid, HD.out]
        exact Qm.escd_none hcu (Qm.simple_none fun k hk => HN.out k (by omega))
      have HB := Lib.hid (HB1.out.trans (hbel.mono HB1.out.size))
      go_wp2_with fail
      go_ret3
      exact ⟨Tells.no HR.out (by decide) _ _, HB.out⟩
end Go.Proofs.YtjbkbkfhbombbaaGreatDoor
