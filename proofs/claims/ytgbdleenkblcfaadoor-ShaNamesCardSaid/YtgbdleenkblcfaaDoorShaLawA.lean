/-
  The walks of ShaDigests and ShaApart: each comes to true.
-/
import Derived.Test.YtgbdleenkblcfaaDoorShaLong
namespace Go.Proofs.YtgbdleenkblcfaaDoor
open Go.RowKit

section
variable {w0 w : World}
theorem decode_sha (h : Below w0.heap.size w0 w) (hT : Tabs w0) (l : List UInt8) :
    Calls Tryd.prog 20 #[.string (S (Hm.enc (Sm.sha l)))] w fun e w' => e = .returned (.tuple #[.string (S (Sm.sha l)), .int .i64 0]) ∧ Below w0.heap.size w0 w' := by
  have hz : (S (Hm.enc (Sm.sha l))).size ≤ 1000000 := by rw [S_size, Hm.enc_length, Sm.sha_length]; decide
  refine (from_ h (decode_any _ w hz (hT.below h).1)).mono ?_
  rintro e w' ⟨rfl, hb⟩
  rw [S_data, (Hm.dec_back _).1, (Hm.dec_back _).2]
  exact ⟨rfl, hb⟩
theorem encode_sha (h : Below w0.heap.size w0 w) (hT : Tabs w0) (l : List UInt8) :
    Calls Tryd.prog 21 #[.string (S (Sm.sha l))] w fun e w' => e = .returned (.string (S (Hm.enc (Sm.sha l)))) ∧ Below w0.heap.size w0 w' := by
  have hz : (S (Sm.sha l)).size ≤ 1000000 := by rw [S_size, Sm.sha_length]; decide
  exact from_ h (encode_any _ w hz (hT.below h).1)
end
set_option maxHeartbeats 800000 in
theorem law_ShaDigests (s : ByteArray) (w : World) (hs : s.size ≤ maxLen) (hT : Tabs w) :
    Calls Tryd.prog 7 #[.string s] w fun e w' => e = .returned (.bool true) ∧ Below w.heap.size w w' := by
  unfold maxLen at hs
  by_cases hl : 20000 < s.size
  · go_enter Tryd.func7, Tryd.ntmps7
    go_wp2_with fail
    refine (awake_any _ hT).mono ?_; rintro e w3 ⟨rfl, h3⟩
    go_wp2_with fail
    go_ret
    exact ⟨rfl, h3⟩
  · have z1 : ((S (Hm.enc (Sm.sha s.data.toList))).size : Int) = 64 := by rw [S_size, Hm.enc_length, Sm.sha_length]; rfl
    have z2 : ((S (Sm.sha s.data.toList)).size : Int) = 32 := by rw [S_size, Sm.sha_length]; rfl
    go_enter Tryd.func7, Tryd.ntmps7
    go_wp2_with fail
    refine (awake_any _ hT).mono ?_; rintro e w1 ⟨rfl, h1⟩
    go_wp2_with fail
    refine (digest_at h1 hT s (by omega)).mono ?_; rintro e w2 ⟨rfl, h2, _⟩
    go_wp2_with fail
    refine (decode_sha h2 hT s.data.toList).mono ?_; rintro e w3 ⟨rfl, h3⟩
    go_wp2_with fail
    refine (fsum_at h3 hT s (by omega)).mono ?_; rintro e w4 ⟨rfl, h4, _⟩
    go_wp2_with fail
    refine (encode_sha h4 hT s.data.toList).mono ?_; rintro e w5 ⟨rfl, h5⟩
    go_wp2_with fail
    go_ret
    exact ⟨rfl, h5⟩

theorem three_strs (w : World) (s t u : ByteArray) (ty : TypeId) : SlS (w.alloc (.cells #[.string s, .string t, .string u] ty)) (some ⟨w.heap.size, 0, none⟩) [s, t, u] := fun i hi => by
  refine ⟨w.heap.size, 0, rfl, ?_⟩
  rw [Nat.zero_add, cell_of_row _ _ i _ _ _ (heap_alloc_new w _)]
  obtain rfl | rfl | rfl : i = 0 ∨ i = 1 ∨ i = 2 := by simp at hi; omega
  all_goals rfl
theorem app_data (s t : ByteArray) : (s ++ t).data.toList = s.data.toList ++ t.data.toList := by simp
theorem long3 (s t u : ByteArray) (w : World) (ty : TypeId) (hs : s.size ≤ maxLen) (ht : t.size ≤ maxLen) (hu : u.size ≤ maxLen) :
    Calls Tryd.prog 14 #[.slice (some ⟨w.heap.size, 0, none⟩) 3 3] (w.alloc (.cells #[.string s, .string t, .string u] ty)) fun e w' => e = .returned (.bool (decide (3000 ≤ wt [s, t, u]))) ∧ w.alloc (.cells #[.string s, .string t, .string u] ty) = w' :=
  long_any (some ⟨w.heap.size, 0, none⟩) [s, t, u] 3 _ (three_strs w s t u ty) (fun i hi => by
    obtain rfl | rfl | rfl : i = 0 ∨ i = 1 ∨ i = 2 := by simp at hi; omega
    · exact hs
    · exact ht
    · exact hu)
set_option maxHeartbeats 1600000 in
theorem law_ShaApart (s t u : ByteArray) (w : World) (hs : s.size ≤ maxLen) (ht : t.size ≤ maxLen) (hu : u.size ≤ maxLen) (hT : Tabs w) :
    Calls Tryd.prog 8 #[.string s, .string t, .string u] w fun e w' => e = .returned (.bool true) ∧ Below w.heap.size w w' := by
  have hb0 : Below w.heap.size w (w.alloc (.cells #[.string s, .string t, .string u] 9)) := (Below.refl _ _).alloc (Nat.le_refl _) _
  by_cases hl : 3000 ≤ wt [s, t, u]
  · have hd : decide (3000 ≤ wt [s, t, u]) = true := decide_eq_true hl
    go_enter Tryd.func8, Tryd.ntmps8
    go_wp2_with fail
    refine (long3 s t u w 9 hs ht hu).mono ?_; rintro e w1 ⟨rfl, rfl⟩
    rw [hd]
    go_wp2_with fail
    refine (awake_any _ (hT.below hb0)).mono ?_; rintro e w3 ⟨rfl, h3⟩
    go_wp2_with fail
    go_ret
    exact ⟨rfl, hb0.trans (h3.mono hb0.size)⟩
  · have hd : decide (3000 ≤ wt [s, t, u]) = false := decide_eq_false hl
    have hsz : s.size + t.size + u.size < 3000 := by simp only [wt] at hl; omega
    go_enter Tryd.func8, Tryd.ntmps8
    go_wp2_with fail
    refine (long3 s t u w 9 hs ht hu).mono ?_; rintro e w1 ⟨rfl, rfl⟩
    rw [hd]
    clear hd hl hs ht hu
    go_wp2_with fail
    refine (awake_any _ (hT.below hb0)).mono ?_; rintro e w1 ⟨rfl, hb1⟩
    have h1 := hb0.trans (hb1.mono hb0.size)
    clear hb0 hb1
    go_wp2_with fail
    refine (new_at h1).mono ?_; rintro e w2 ⟨rfl, a2, h2, _⟩
    have q1 := h1.size
    go_wp2_with fail
    refine (write_at h2 hT a2 q1 s (by simp; omega)).mono ?_; rintro e w3 ⟨rfl, a3, h3, k3⟩
    rw [List.nil_append] at a3
    go_wp2_with fail
    refine (copy_at h3 a3).mono ?_; rintro e w4 ⟨rfl, c4, h4, b4⟩
    have a4 := a3.below b4 a3.lt
    have q3 := h3.size
    have ne1 : w1.heap.size ≠ w3.heap.size := Nat.ne_of_lt a3.lt
    go_wp2_with fail
    refine (write_at h4 hT c4 q3 t (by simp; omega)).mono ?_; rintro e w5 ⟨rfl, c5, h5, k5⟩
    have a5 := a4.kp k5 ne1
    go_wp2_with fail
    refine (copy_at h5 c5).mono ?_; rintro e w6 ⟨rfl, d6, h6, b6⟩
    have a6 := a5.below b6 a5.lt
    have c6 := c5.below b6 c5.lt
    have q5 := h5.size
    have ne2 : w1.heap.size ≠ w5.heap.size := Nat.ne_of_lt a5.lt
    have ne3 : w3.heap.size ≠ w5.heap.size := Nat.ne_of_lt c5.lt
    go_wp2_with fail
    refine (write_at h6 hT a6 q1 u (by simp; omega)).mono ?_; rintro e w7 ⟨rfl, a7, h7, k7⟩
    have c7 := c6.kp k7 (Ne.symm ne1)
    have d7 := d6.kp k7 (Ne.symm ne2)
    go_wp2_with fail
    refine (write_at h7 hT d7 q5 u (by simp; omega)).mono ?_; rintro e w8 ⟨rfl, d8, h8, k8⟩
    have a8 := a7.kp k8 ne2
    have c8 := c7.kp k8 ne3
    clear a2 a3 a4 a5 a6 a7 c4 c5 c6 c7 d6 d7 k3 k5 k7 k8 b4 b6 h1 h2 h3 h4 h5 h6 h7
    have e1 : (s ++ u).data.toList = s.data.toList ++ u.data.toList := app_data s u
    have e2 : (s ++ t).data.toList = s.data.toList ++ t.data.toList := app_data s t
    have e3 : (s ++ t ++ u).data.toList = s.data.toList ++ t.data.toList ++ u.data.toList := by rw [app_data, app_data]
    go_wp2_with fail
    refine (sum_at h8 hT a8 (by simp; omega)).mono ?_; rintro e w9 ⟨rfl, h9, b9⟩
    have a9 := a8.below b9 a8.lt
    have c9 := c8.below b9 c8.lt
    have d9 := d8.below b9 d8.lt
    go_wp2_with fail
    refine (fsum_at h9 hT (s ++ u) (by rw [ByteArray.size_append]; omega)).mono ?_; rintro e w10 ⟨rfl, h10, b10⟩
    rw [e1]
    have a10 := a9.below b10 a9.lt
    have c10 := c9.below b10 c9.lt
    have d10 := d9.below b10 d9.lt
    go_wp2_with fail
    refine (sum_at h10 hT c10 (by simp; omega)).mono ?_; rintro e w11 ⟨rfl, h11, b11⟩
    have a11 := a10.below b11 a10.lt
    have d11 := d10.below b11 d10.lt
    go_wp2_with fail
    refine (fsum_at h11 hT (s ++ t) (by rw [ByteArray.size_append]; omega)).mono ?_; rintro e w12 ⟨rfl, h12, b12⟩
    rw [e2]
    have a12 := a11.below b12 a11.lt
    have d12 := d11.below b12 d11.lt
    go_wp2_with fail
    refine (sum_at h12 hT d12 (by simp; omega)).mono ?_; rintro e w13 ⟨rfl, h13, b13⟩
    have a13 := a12.below b13 a12.lt
    go_wp2_with fail
    refine (fsum_at h13 hT (s ++ t ++ u) (by rw [ByteArray.size_append, ByteArray.size_append]; omega)).mono ?_; rintro e w14 ⟨rfl, h14, b14⟩
    rw [e3]
    have a14 := a13.below b14 a13.lt
    go_wp2_with fail
    refine (len_any _ _ _ a14).mono ?_; rintro e w15 ⟨rfl, rfl⟩
    have e4 : (((s.data.toList ++ u.data.toList).length : Nat) : Int) = (s.size : Int) + (u.size : Int) := by simp
    rw [e4]
    go_wp2_with fail
    go_ret
    exact ⟨rfl, h14⟩
end Go.Proofs.YtgbdleenkblcfaaDoor
