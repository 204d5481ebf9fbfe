/-
  What long comes to, of any texts.
-/
import Derived.Test.YtgbdleenkblcfaaDoorShaAwake
namespace Go.Proofs.YtgbdleenkblcfaaDoor
open Go.RowKit

def wt : List ByteArray → Nat
  | [] => 0
  | s :: r => 64 + min 3000 s.size + wt r
theorem wt_take (L : List ByteArray) (k : Nat) (h : k < L.length) : wt (L.take (k + 1)) = wt (L.take k) + 64 + min 3000 (L.getD k ⟨#[]⟩).size := by
  induction L generalizing k with
  | nil => simp at h
  | cons s r ih =>
    cases k with
    | zero => simp [wt]
    | succ k => simp only [List.take_succ_cons, wt, ih k (by simpa using h)]; simp; omega
theorem wt_le (L : List ByteArray) (k : Nat) : wt (L.take k) ≤ wt L := by
  induction L generalizing k with
  | nil => simp
  | cons s r ih =>
    cases k with
    | zero => simp [wt]
    | succ k => simp only [List.take_succ_cons, wt]; have := ih k; omega
theorem wt_len (L : List ByteArray) : 64 * L.length ≤ wt L := by
  induction L with
  | nil => simp [wt]
  | cons s r ih => simp only [wt, List.length_cons]; omega
/-- all texts, one behind the other -/
def cat : List ByteArray → List UInt8
  | [] => []
  | s :: r => s.data.toList ++ cat r
theorem wt_cat (L : List ByteArray) (h : wt L < 3000) : (cat L).length ≤ wt L := by
  induction L with
  | nil => simp [cat]
  | cons s r ih =>
    simp only [wt] at h
    have := ih (by omega)
    have h2 : s.data.toList.length = s.size := by simp
    simp only [cat, wt, List.length_append, h2]
    omega
theorem cat_take (L : List ByteArray) (k : Nat) (h : k < L.length) : cat (L.take (k + 1)) = cat (L.take k) ++ (L.getD k ⟨#[]⟩).data.toList := by
  induction L generalizing k with
  | nil => simp at h
  | cons s r ih =>
    cases k with
    | zero => simp [cat]
    | succ k => simp only [List.take_succ_cons, cat, ih k (by simpa using h)]; simp

set_option maxHeartbeats 800000 in
theorem long_any (p : Option Addr) (L : List ByteArray) (cap : Nat) (w : World) (hS : SlS w p L) (hz : ∀ i, i < L.length → (L.getD i ⟨#[]⟩).size ≤ maxLen) :
    Calls Tryd.prog 14 #[.slice p L.length cap] w fun e w' => e = .returned (.bool (decide (3000 ≤ wt L))) ∧ w = w' := by
  unfold maxLen at hz
  go_enter Tryd.func14, Tryd.ntmps14
  go_wp2
  go_loop [3, 4] (fun n i => ∃ k : Nat, k ≤ L.length ∧ i = .int .i64 k ∧ n = .int .i64 (wt (L.take k) : Int) ∧ Hid (k = 0 ∨ wt (L.take (k - 1)) < 3000)) (fun _ i => L.length - (intOf i).toNat)
  case atStart => exact ⟨0, by omega, rfl, rfl, .inl rfl⟩
  case round =>
    obtain ⟨k, hk, rfl, rfl, HK⟩ := hrel
    by_cases hlt : k < L.length
    · obtain ⟨n, hn⟩ : ∃ n, n = wt (L.take k) := ⟨_, rfl⟩
      by_cases hg : n < 3000
      · obtain ⟨b, o, rfl, hc⟩ := hS k hlt
        have h64 := wt_len (L.take k)
        rw [List.length_take, ← hn] at h64
        have hs := hz k hlt
        have hw := wt_take L k hlt
        rw [← hn] at hw
        obtain ⟨s, hs'⟩ : ∃ s, s = L.getD k ⟨#[]⟩ := ⟨_, rfl⟩
        rw [← hs'] at hc hs hw
        have HW := Lib.hid hw
        have HG : Hid (k + 1 = 0 ∨ wt (L.take (k + 1 - 1)) < 3000) := .inr (by rw [Nat.add_sub_cancel, ← hn]; exact hg)
        have g1 : (0 : Int) ≤ (k : Int) := by omega
        have g2 : (k : Int) < (L.length : Int) := by omega
        have g3 : (n : Int) < 3000 := by omega
        rw [← hn]
        clear hs' hn hw HK hz hS
        go_wp2
        go_round
        case rel =>
          refine ⟨k + 1, by omega, by go_num, ?_, HG⟩
          rw [HW.out]
          refine congrArg (Value.int IntKind.i64) ?_
          split <;> omega
        case measure => simp [intOf]; omega
      · have h3 := wt_le L k
        have HD : Hid (decide (3000 ≤ wt L) = true) := decide_eq_true (by omega)
        have g1 : (k : Int) < (L.length : Int) := by omega
        have g3 : (3000 : Int) ≤ (n : Int) := by omega
        have g4 : ¬ (n : Int) < 3000 := by omega
        have hb : n < 7000 := by
          rcases HK.out with h | h
          · subst h; rw [hn]; simp [wt]
          · have hq := wt_take L (k - 1) (by omega)
            rcases Nat.eq_zero_or_pos k with h0 | h0
            · subst h0; rw [hn]; simp [wt]
            · rw [show k - 1 + 1 = k by omega, ← hn] at hq
              omega
        rw [← hn]
        clear hn h3 HK hz hS
        go_wp2
        go_ret
        exact ⟨ret_bool (by rw [HD.out]), rfl⟩
    · obtain rfl : k = L.length := by omega
      rw [List.take_length] at *
      obtain ⟨n, hn⟩ : ∃ n, n = wt L := ⟨_, rfl⟩
      have hb : n < 7000 := by
        rcases HK.out with h | h
        · have : L = [] := List.length_eq_zero_iff.1 h
          rw [hn, this]; simp [wt]
        · rcases Nat.eq_zero_or_pos L.length with h0 | h0
          · have : L = [] := List.length_eq_zero_iff.1 h0
            rw [hn, this]; simp [wt]
          · have hq := wt_take L (L.length - 1) (by omega)
            rw [show L.length - 1 + 1 = L.length by omega, List.take_length, ← hn] at hq
            omega
      rw [← hn]
      have HN := Lib.hid hn
      clear hn HK hz hS
      by_cases hg : 3000 ≤ n
      · have g3 : (3000 : Int) ≤ (n : Int) := by omega
        have HD : Hid (decide (3000 ≤ n) = true) := decide_eq_true hg
        go_wp2
        go_ret
        exact ⟨ret_bool (by rw [← HN.out, HD.out]), rfl⟩
      · have g3 : ¬ (3000 : Int) ≤ (n : Int) := by omega
        have HD : Hid (decide (3000 ≤ n) = false) := decide_eq_false hg
        go_wp2
        go_ret
        exact ⟨ret_bool (by rw [← HN.out, HD.out]), rfl⟩
end Go.Proofs.YtgbdleenkblcfaaDoor
