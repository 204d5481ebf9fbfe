/-
  What decoderOf, escaped and one come to: the rune that stands at a place.
-/
import Derived.Test.YtpifbmcgadjhbaaGreatDoorQuoteNum
namespace Go.Proofs.YtpifbmcgadjhbaaGreatDoor
open Go.RowKit

/-- the function that quote.always hands back -/
def Af (b : Nat) : Value := .func (.func 195) #[] #[.pointer (some ⟨b, 0, none⟩)]
/-- v is a function that tells r -/
def Ao (r : Nat) (w : World) (v : Value) : Prop := ∃ b, v = Af b ∧ w.cell? ⟨b, 0, none⟩ = some (.int .i64 (r : Int))
set_option maxHeartbeats 400000 in
theorem always_any (r : Nat) (w : World) :
    Calls Tryz.prog 184 #[.int .i64 (r : Int)] w fun e w' => ∃ v, e = .returned v ∧ Ao r w' v ∧ Below w.heap.size w w' := by
  have hmf : ∀ (fn : Fn) (first cap : Array Value) (w : World), (Instr.makeFunc fn first cap).run Tryz.prog w = .ok (.func fn first cap) w := fun _ _ _ _ => rfl
  have hc : (w.alloc (.cells #[.int .i64 (r : Int)] 3)).cell? ⟨w.heap.size, 0, none⟩ = some (.int .i64 (r : Int)) := by
    rw [cell_of_row _ _ 0 _ _ _ (heap_alloc_new w _)]; rfl
  have HC := Lib.hid hc
  clear hc
  go_enter Tryz.func184, Tryz.ntmps184
  go_wp2_with fail
  go_ret
  exact ⟨_, rfl, ⟨w.heap.size, rfl, HC.out⟩, (Below.refl _ _).alloc (Nat.le_refl _) _⟩
theorem always_at (r : Nat) (w : World) {r' : Int} (h : r' = (r : Int)) :
    Calls Tryz.prog 184 #[.int .i64 r'] w fun e w' => ∃ v, e = .returned v ∧ Ao r w' v ∧ Below w.heap.size w w' := by
  subst h
  exact always_any r w
set_option maxHeartbeats 400000 in
theorem always1_any (l : List UInt8) (p : Int) (b r : Nat) (w : World) (h : w.cell? ⟨b, 0, none⟩ = some (.int .i64 (r : Int))) :
    Calls Tryz.prog 195 #[.string (S l), .int .i64 p, .pointer (some ⟨b, 0, none⟩)] w fun e w' => e = .returned (.tuple #[.int .i64 (r : Int), .int .i64 p, .int .i64 0]) ∧ w = w' := by
  go_enter Tryz.func195, Tryz.ntmps195
  go_wp2_with fail
  go_ret3
  exact ⟨rfl, rfl⟩
/-- the function of decoderOf -/
def Nf : Value := .func (.func 185) #[] #[]
def Dec (c : UInt8) (w : World) (v : Value) : Prop := (∃ r, c ≠ 117 ∧ Qm.simple c = some r ∧ Ao r w v) ∨ (c = 117 ∧ v = Nf) ∨ (c ≠ 117 ∧ Qm.simple c = none ∧ v = .nilFunc)
theorem simple_cases (c : UInt8) : (c = 34 ∨ c = 92 ∨ c = 47 ∨ c = 98 ∨ c = 102 ∨ c = 110 ∨ c = 114 ∨ c = 116 ∨ c = 117) ∨ (c ≠ 117 ∧ Qm.simple c = none ∧ c ≠ 34 ∧ c ≠ 92 ∧ c ≠ 47 ∧ c ≠ 98 ∧ c ≠ 102 ∧ c ≠ 110 ∧ c ≠ 114 ∧ c ≠ 116) := by
  by_cases h1 : c = 34
  · simp [h1]
  by_cases h2 : c = 92
  · simp [h2]
  by_cases h3 : c = 47
  · simp [h3]
  by_cases h4 : c = 98
  · simp [h4]
  by_cases h5 : c = 102
  · simp [h5]
  by_cases h6 : c = 110
  · simp [h6]
  by_cases h7 : c = 114
  · simp [h7]
  by_cases h8 : c = 116
  · simp [h8]
  by_cases h9 : c = 117
  · simp [h9]
  right
  refine ⟨h9, ?_, h1, h2, h3, h4, h5, h6, h7, h8⟩
  unfold Qm.simple
  rw [if_neg (by simp [h1, h2, h3]), if_neg h4, if_neg h5, if_neg h6, if_neg h7, if_neg h8]
set_option maxHeartbeats 800000 in
theorem decoderOf_any (c : UInt8) (w : World) :
    Calls Tryz.prog 169 #[.int .u8 (c.toNat : Int)] w fun e w' => ∃ v, e = .returned v ∧ Dec c w' v ∧ Below w.heap.size w w' := by
  rcases simple_cases c with (rfl | rfl | rfl | rfl | rfl | rfl | rfl | rfl | rfl) | ⟨h0, hs, h1, h2, h3, h4, h5, h6, h7, h8⟩
  · go_enter Tryz.func169, Tryz.ntmps169
    go_wp2_with fail
    refine (always_at 34 _ rfl).mono ?_; rintro e w1 ⟨v, rfl, h1, h2⟩
    go_wp2_with fail
    go_ret
    exact ⟨v, rfl, .inl ⟨34, by decide, by decide, h1⟩, h2⟩
  · go_enter Tryz.func169, Tryz.ntmps169
    go_wp2_with fail
    refine (always_at 92 _ rfl).mono ?_; rintro e w1 ⟨v, rfl, h1, h2⟩
    go_wp2_with fail
    go_ret
    exact ⟨v, rfl, .inl ⟨92, by decide, by decide, h1⟩, h2⟩
  · go_enter Tryz.func169, Tryz.ntmps169
    go_wp2_with fail
    refine (always_at 47 _ rfl).mono ?_; rintro e w1 ⟨v, rfl, h1, h2⟩
    go_wp2_with fail
    go_ret
    exact ⟨v, rfl, .inl ⟨47, by decide, by decide, h1⟩, h2⟩
  · go_enter Tryz.func169, Tryz.ntmps169
    go_wp2_with fail
    refine (always_at 8 _ rfl).mono ?_; rintro e w1 ⟨v, rfl, h1, h2⟩
    go_wp2_with fail
    go_ret
    exact ⟨v, rfl, .inl ⟨8, by decide, by decide, h1⟩, h2⟩
  · go_enter Tryz.func169, Tryz.ntmps169
    go_wp2_with fail
    refine (always_at 12 _ rfl).mono ?_; rintro e w1 ⟨v, rfl, h1, h2⟩
    go_wp2_with fail
    go_ret
    exact ⟨v, rfl, .inl ⟨12, by decide, by decide, h1⟩, h2⟩
  · go_enter Tryz.func169, Tryz.ntmps169
    go_wp2_with fail
    refine (always_at 10 _ rfl).mono ?_; rintro e w1 ⟨v, rfl, h1, h2⟩
    go_wp2_with fail
    go_ret
    exact ⟨v, rfl, .inl ⟨10, by decide, by decide, h1⟩, h2⟩
  · go_enter Tryz.func169, Tryz.ntmps169
    go_wp2_with fail
    refine (always_at 13 _ rfl).mono ?_; rintro e w1 ⟨v, rfl, h1, h2⟩
    go_wp2_with fail
    go_ret
    exact ⟨v, rfl, .inl ⟨13, by decide, by decide, h1⟩, h2⟩
  · go_enter Tryz.func169, Tryz.ntmps169
    go_wp2_with fail
    refine (always_at 9 _ rfl).mono ?_; rintro e w1 ⟨v, rfl, h1, h2⟩
    go_wp2_with fail
    go_ret
    exact ⟨v, rfl, .inl ⟨9, by decide, by decide, h1⟩, h2⟩
  · go_enter Tryz.func169, Tryz.ntmps169
    go_wp2_with fail
    go_ret
    exact ⟨_, rfl, .inr (.inl ⟨rfl, rfl⟩), Below.refl _ _⟩
  · have nn : ∀ d : UInt8, c ≠ d → ((c.toNat : Int) == (d.toNat : Int)) = false := fun d hd => by
      rw [beq_eq_false_iff_ne]
      intro e
      exact hd (UInt8.toNat_inj.1 (by omega))
    have n0 : ((c.toNat : Int) == 117) = false := nn 117 h0
    have n1 : ((c.toNat : Int) == 34) = false := nn 34 h1
    have n2 : ((c.toNat : Int) == 92) = false := nn 92 h2
    have n3 : ((c.toNat : Int) == 47) = false := nn 47 h3
    have n4 : ((c.toNat : Int) == 98) = false := nn 98 h4
    have n5 : ((c.toNat : Int) == 102) = false := nn 102 h5
    have n6 : ((c.toNat : Int) == 110) = false := nn 110 h6
    have n7 : ((c.toNat : Int) == 114) = false := nn 114 h7
    have n8 : ((c.toNat : Int) == 116) = false := nn 116 h8
    have HS := Lib.hid (And.intro h0 hs)
    clear nn h0 h1 h2 h3 h4 h5 h6 h7 h8 hs
    go_enter Tryz.func169, Tryz.ntmps169
    go_wp2_with fail
    go_ret
    exact ⟨_, rfl, .inr (.inr ⟨HS.out.1, HS.out.2, rfl⟩), Below.refl _ _⟩
end Go.Proofs.YtpifbmcgadjhbaaGreatDoor
