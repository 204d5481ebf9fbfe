/-
  The SHA-256 of n times the letter a is another one than that of n + 1 times, n from 50 to 139.
-/
import Derived.Test.YtgbdleenkblcfaaDoorShaSum
namespace Go.Proofs.YtgbdleenkblcfaaDoor

namespace Fa
def As (n : Nat) : List UInt8 := List.replicate n 97
def Un (n : Nat) : Prop := Sm.sha (As n) ≠ Sm.sha (As (n + 1))
theorem un {n : Nat} {x y : List UInt8} (h1 : (Sm.sha (As n)).take 2 = x) (h2 : (Sm.sha (As (n + 1))).take 2 = y) (h : (x == y) = false) : Un n := fun e => by
  rw [e, h2] at h1
  subst h1
  simp at h
theorem more {k : Nat} (h : ∀ n, 50 ≤ n → n < k → Un n) (hk : Un k) : ∀ n, 50 ≤ n → n < k + 1 → Un n := fun n h1 h2 => by
  by_cases e : n = k
  · rw [e]; exact hk
  · exact h n h1 (by omega)
set_option maxRecDepth 100000 in
theorem d50 : (Sm.sha (As 50)).take 2 = [22, 11] := by decide +kernel
set_option maxRecDepth 100000 in
theorem d51 : (Sm.sha (As 51)).take 2 = [191, 197] := by decide +kernel
set_option maxRecDepth 100000 in
theorem d52 : (Sm.sha (As 52)).take 2 = [108, 27] := by decide +kernel
set_option maxRecDepth 100000 in
theorem d53 : (Sm.sha (As 53)).take 2 = [171, 227] := by decide +kernel
set_option maxRecDepth 100000 in
theorem d54 : (Sm.sha (As 54)).take 2 = [163, 240] := by decide +kernel
set_option maxRecDepth 100000 in
theorem d55 : (Sm.sha (As 55)).take 2 = [159, 67] := by decide +kernel
set_option maxRecDepth 100000 in
theorem d56 : (Sm.sha (As 56)).take 2 = [179, 84] := by decide +kernel
set_option maxRecDepth 100000 in
theorem d57 : (Sm.sha (As 57)).take 2 = [241, 59] := by decide +kernel
set_option maxRecDepth 100000 in
theorem d58 : (Sm.sha (As 58)).take 2 = [213, 192] := by decide +kernel
set_option maxRecDepth 100000 in
theorem d59 : (Sm.sha (As 59)).take 2 = [17, 27] := by decide +kernel
set_option maxRecDepth 100000 in
theorem d60 : (Sm.sha (As 60)).take 2 = [17, 238] := by decide +kernel
set_option maxRecDepth 100000 in
theorem d61 : (Sm.sha (As 61)).take 2 = [53, 213] := by decide +kernel
set_option maxRecDepth 100000 in
theorem d62 : (Sm.sha (As 62)).take 2 = [245, 6] := by decide +kernel
set_option maxRecDepth 100000 in
theorem d63 : (Sm.sha (As 63)).take 2 = [125, 62] := by decide +kernel
set_option maxRecDepth 100000 in
theorem d64 : (Sm.sha (As 64)).take 2 = [255, 224] := by decide +kernel
set_option maxRecDepth 100000 in
theorem d65 : (Sm.sha (As 65)).take 2 = [99, 83] := by decide +kernel
set_option maxRecDepth 100000 in
theorem d66 : (Sm.sha (As 66)).take 2 = [172, 19] := by decide +kernel
set_option maxRecDepth 100000 in
theorem d67 : (Sm.sha (As 67)).take 2 = [97, 22] := by decide +kernel
set_option maxRecDepth 100000 in
theorem d68 : (Sm.sha (As 68)).take 2 = [87, 76] := by decide +kernel
set_option maxRecDepth 100000 in
theorem d69 : (Sm.sha (As 69)).take 2 = [239, 94] := by decide +kernel
set_option maxRecDepth 100000 in
theorem d70 : (Sm.sha (As 70)).take 2 = [107, 213] := by decide +kernel
set_option maxRecDepth 100000 in
theorem d71 : (Sm.sha (As 71)).take 2 = [238, 250] := by decide +kernel
set_option maxRecDepth 100000 in
theorem d72 : (Sm.sha (As 72)).take 2 = [214, 99] := by decide +kernel
set_option maxRecDepth 100000 in
theorem d73 : (Sm.sha (As 73)).take 2 = [14, 5] := by decide +kernel
set_option maxRecDepth 100000 in
theorem d74 : (Sm.sha (As 74)).take 2 = [246, 56] := by decide +kernel
set_option maxRecDepth 100000 in
theorem d75 : (Sm.sha (As 75)).take 2 = [138, 248] := by decide +kernel
set_option maxRecDepth 100000 in
theorem d76 : (Sm.sha (As 76)).take 2 = [248, 184] := by decide +kernel
set_option maxRecDepth 100000 in
theorem d77 : (Sm.sha (As 77)).take 2 = [188, 25] := by decide +kernel
set_option maxRecDepth 100000 in
theorem d78 : (Sm.sha (As 78)).take 2 = [211, 71] := by decide +kernel
set_option maxRecDepth 100000 in
theorem d79 : (Sm.sha (As 79)).take 2 = [218, 167] := by decide +kernel
set_option maxRecDepth 100000 in
theorem d80 : (Sm.sha (As 80)).take 2 = [15, 69] := by decide +kernel
set_option maxRecDepth 100000 in
theorem d81 : (Sm.sha (As 81)).take 2 = [140, 72] := by decide +kernel
set_option maxRecDepth 100000 in
theorem d82 : (Sm.sha (As 82)).take 2 = [245, 133] := by decide +kernel
set_option maxRecDepth 100000 in
theorem d83 : (Sm.sha (As 83)).take 2 = [225, 78] := by decide +kernel
set_option maxRecDepth 100000 in
theorem d84 : (Sm.sha (As 84)).take 2 = [245, 71] := by decide +kernel
set_option maxRecDepth 100000 in
theorem d85 : (Sm.sha (As 85)).take 2 = [132, 46] := by decide +kernel
set_option maxRecDepth 100000 in
theorem d86 : (Sm.sha (As 86)).take 2 = [205, 222] := by decide +kernel
set_option maxRecDepth 100000 in
theorem d87 : (Sm.sha (As 87)).take 2 = [207, 185] := by decide +kernel
set_option maxRecDepth 100000 in
theorem d88 : (Sm.sha (As 88)).take 2 = [151, 83] := by decide +kernel
set_option maxRecDepth 100000 in
theorem d89 : (Sm.sha (As 89)).take 2 = [94, 75] := by decide +kernel
set_option maxRecDepth 100000 in
theorem d90 : (Sm.sha (As 90)).take 2 = [107, 46] := by decide +kernel
set_option maxRecDepth 100000 in
theorem d91 : (Sm.sha (As 91)).take 2 = [155, 159] := by decide +kernel
set_option maxRecDepth 100000 in
theorem d92 : (Sm.sha (As 92)).take 2 = [187, 136] := by decide +kernel
set_option maxRecDepth 100000 in
theorem d93 : (Sm.sha (As 93)).take 2 = [150, 231] := by decide +kernel
set_option maxRecDepth 100000 in
theorem d94 : (Sm.sha (As 94)).take 2 = [133, 9] := by decide +kernel
set_option maxRecDepth 100000 in
theorem d95 : (Sm.sha (As 95)).take 2 = [225, 200] := by decide +kernel
set_option maxRecDepth 100000 in
theorem d96 : (Sm.sha (As 96)).take 2 = [238, 76] := by decide +kernel
set_option maxRecDepth 100000 in
theorem d97 : (Sm.sha (As 97)).take 2 = [42, 44] := by decide +kernel
set_option maxRecDepth 100000 in
theorem d98 : (Sm.sha (As 98)).take 2 = [151, 13] := by decide +kernel
set_option maxRecDepth 100000 in
theorem d99 : (Sm.sha (As 99)).take 2 = [19, 40] := by decide +kernel
set_option maxRecDepth 100000 in
theorem d100 : (Sm.sha (As 100)).take 2 = [40, 22] := by decide +kernel
set_option maxRecDepth 100000 in
theorem d101 : (Sm.sha (As 101)).take 2 = [157, 7] := by decide +kernel
set_option maxRecDepth 100000 in
theorem d102 : (Sm.sha (As 102)).take 2 = [242, 24] := by decide +kernel
set_option maxRecDepth 100000 in
theorem d103 : (Sm.sha (As 103)).take 2 = [225, 213] := by decide +kernel
set_option maxRecDepth 100000 in
theorem d104 : (Sm.sha (As 104)).take 2 = [65, 229] := by decide +kernel
set_option maxRecDepth 100000 in
theorem d105 : (Sm.sha (As 105)).take 2 = [99, 21] := by decide +kernel
set_option maxRecDepth 100000 in
theorem d106 : (Sm.sha (As 106)).take 2 = [93, 92] := by decide +kernel
set_option maxRecDepth 100000 in
theorem d107 : (Sm.sha (As 107)).take 2 = [62, 36] := by decide +kernel
set_option maxRecDepth 100000 in
theorem d108 : (Sm.sha (As 108)).take 2 = [12, 239] := by decide +kernel
set_option maxRecDepth 100000 in
theorem d109 : (Sm.sha (As 109)).take 2 = [56, 159] := by decide +kernel
set_option maxRecDepth 100000 in
theorem d110 : (Sm.sha (As 110)).take 2 = [145, 200] := by decide +kernel
set_option maxRecDepth 100000 in
theorem d111 : (Sm.sha (As 111)).take 2 = [99, 116] := by decide +kernel
set_option maxRecDepth 100000 in
theorem d112 : (Sm.sha (As 112)).take 2 = [245, 67] := by decide +kernel
set_option maxRecDepth 100000 in
theorem d113 : (Sm.sha (As 113)).take 2 = [186, 2] := by decide +kernel
set_option maxRecDepth 100000 in
theorem d114 : (Sm.sha (As 114)).take 2 = [108, 183] := by decide +kernel
set_option maxRecDepth 100000 in
theorem d115 : (Sm.sha (As 115)).take 2 = [100, 65] := by decide +kernel
set_option maxRecDepth 100000 in
theorem d116 : (Sm.sha (As 116)).take 2 = [156, 170] := by decide +kernel
set_option maxRecDepth 100000 in
theorem d117 : (Sm.sha (As 117)).take 2 = [228, 244] := by decide +kernel
set_option maxRecDepth 100000 in
theorem d118 : (Sm.sha (As 118)).take 2 = [135, 157] := by decide +kernel
set_option maxRecDepth 100000 in
theorem d119 : (Sm.sha (As 119)).take 2 = [49, 235] := by decide +kernel
set_option maxRecDepth 100000 in
theorem d120 : (Sm.sha (As 120)).take 2 = [47, 61] := by decide +kernel
set_option maxRecDepth 100000 in
theorem d121 : (Sm.sha (As 121)).take 2 = [233, 97] := by decide +kernel
set_option maxRecDepth 100000 in
theorem d122 : (Sm.sha (As 122)).take 2 = [207, 108] := by decide +kernel
set_option maxRecDepth 100000 in
theorem d123 : (Sm.sha (As 123)).take 2 = [102, 117] := by decide +kernel
set_option maxRecDepth 100000 in
theorem d124 : (Sm.sha (As 124)).take 2 = [156, 30] := by decide +kernel
set_option maxRecDepth 100000 in
theorem d125 : (Sm.sha (As 125)).take 2 = [168, 225] := by decide +kernel
set_option maxRecDepth 100000 in
theorem d126 : (Sm.sha (As 126)).take 2 = [54, 188] := by decide +kernel
set_option maxRecDepth 100000 in
theorem d127 : (Sm.sha (As 127)).take 2 = [197, 126] := by decide +kernel
set_option maxRecDepth 100000 in
theorem d128 : (Sm.sha (As 128)).take 2 = [104, 54] := by decide +kernel
set_option maxRecDepth 100000 in
theorem d129 : (Sm.sha (As 129)).take 2 = [193, 44] := by decide +kernel
set_option maxRecDepth 100000 in
theorem d130 : (Sm.sha (As 130)).take 2 = [30, 60] := by decide +kernel
set_option maxRecDepth 100000 in
theorem d131 : (Sm.sha (As 131)).take 2 = [60, 41] := by decide +kernel
set_option maxRecDepth 100000 in
theorem d132 : (Sm.sha (As 132)).take 2 = [148, 156] := by decide +kernel
set_option maxRecDepth 100000 in
theorem d133 : (Sm.sha (As 133)).take 2 = [216, 218] := by decide +kernel
set_option maxRecDepth 100000 in
theorem d134 : (Sm.sha (As 134)).take 2 = [54, 60] := by decide +kernel
set_option maxRecDepth 100000 in
theorem d135 : (Sm.sha (As 135)).take 2 = [223, 165] := by decide +kernel
set_option maxRecDepth 100000 in
theorem d136 : (Sm.sha (As 136)).take 2 = [111, 14] := by decide +kernel
set_option maxRecDepth 100000 in
theorem d137 : (Sm.sha (As 137)).take 2 = [182, 220] := by decide +kernel
set_option maxRecDepth 100000 in
theorem d138 : (Sm.sha (As 138)).take 2 = [210, 197] := by decide +kernel
set_option maxRecDepth 100000 in
theorem d139 : (Sm.sha (As 139)).take 2 = [212, 158] := by decide +kernel
set_option maxRecDepth 100000 in
theorem d140 : (Sm.sha (As 140)).take 2 = [192, 148] := by decide +kernel
theorem q50 : ∀ n, 50 ≤ n → n < 50 → Un n := fun _ _ _ => by omega
theorem q51 : ∀ n, 50 ≤ n → n < 51 → Un n := @more 50 q50 (@un 50 _ _ d50 d51 rfl)
theorem q52 : ∀ n, 50 ≤ n → n < 52 → Un n := @more 51 q51 (@un 51 _ _ d51 d52 rfl)
theorem q53 : ∀ n, 50 ≤ n → n < 53 → Un n := @more 52 q52 (@un 52 _ _ d52 d53 rfl)
theorem q54 : ∀ n, 50 ≤ n → n < 54 → Un n := @more 53 q53 (@un 53 _ _ d53 d54 rfl)
theorem q55 : ∀ n, 50 ≤ n → n < 55 → Un n := @more 54 q54 (@un 54 _ _ d54 d55 rfl)
theorem q56 : ∀ n, 50 ≤ n → n < 56 → Un n := @more 55 q55 (@un 55 _ _ d55 d56 rfl)
theorem q57 : ∀ n, 50 ≤ n → n < 57 → Un n := @more 56 q56 (@un 56 _ _ d56 d57 rfl)
theorem q58 : ∀ n, 50 ≤ n → n < 58 → Un n := @more 57 q57 (@un 57 _ _ d57 d58 rfl)
theorem q59 : ∀ n, 50 ≤ n → n < 59 → Un n := @more 58 q58 (@un 58 _ _ d58 d59 rfl)
theorem q60 : ∀ n, 50 ≤ n → n < 60 → Un n := @more 59 q59 (@un 59 _ _ d59 d60 rfl)
theorem q61 : ∀ n, 50 ≤ n → n < 61 → Un n := @more 60 q60 (@un 60 _ _ d60 d61 rfl)
theorem q62 : ∀ n, 50 ≤ n → n < 62 → Un n := @more 61 q61 (@un 61 _ _ d61 d62 rfl)
theorem q63 : ∀ n, 50 ≤ n → n < 63 → Un n := @more 62 q62 (@un 62 _ _ d62 d63 rfl)
theorem q64 : ∀ n, 50 ≤ n → n < 64 → Un n := @more 63 q63 (@un 63 _ _ d63 d64 rfl)
theorem q65 : ∀ n, 50 ≤ n → n < 65 → Un n := @more 64 q64 (@un 64 _ _ d64 d65 rfl)
theorem q66 : ∀ n, 50 ≤ n → n < 66 → Un n := @more 65 q65 (@un 65 _ _ d65 d66 rfl)
theorem q67 : ∀ n, 50 ≤ n → n < 67 → Un n := @more 66 q66 (@un 66 _ _ d66 d67 rfl)
theorem q68 : ∀ n, 50 ≤ n → n < 68 → Un n := @more 67 q67 (@un 67 _ _ d67 d68 rfl)
theorem q69 : ∀ n, 50 ≤ n → n < 69 → Un n := @more 68 q68 (@un 68 _ _ d68 d69 rfl)
theorem q70 : ∀ n, 50 ≤ n → n < 70 → Un n := @more 69 q69 (@un 69 _ _ d69 d70 rfl)
theorem q71 : ∀ n, 50 ≤ n → n < 71 → Un n := @more 70 q70 (@un 70 _ _ d70 d71 rfl)
theorem q72 : ∀ n, 50 ≤ n → n < 72 → Un n := @more 71 q71 (@un 71 _ _ d71 d72 rfl)
theorem q73 : ∀ n, 50 ≤ n → n < 73 → Un n := @more 72 q72 (@un 72 _ _ d72 d73 rfl)
theorem q74 : ∀ n, 50 ≤ n → n < 74 → Un n := @more 73 q73 (@un 73 _ _ d73 d74 rfl)
theorem q75 : ∀ n, 50 ≤ n → n < 75 → Un n := @more 74 q74 (@un 74 _ _ d74 d75 rfl)
theorem q76 : ∀ n, 50 ≤ n → n < 76 → Un n := @more 75 q75 (@un 75 _ _ d75 d76 rfl)
theorem q77 : ∀ n, 50 ≤ n → n < 77 → Un n := @more 76 q76 (@un 76 _ _ d76 d77 rfl)
theorem q78 : ∀ n, 50 ≤ n → n < 78 → Un n := @more 77 q77 (@un 77 _ _ d77 d78 rfl)
theorem q79 : ∀ n, 50 ≤ n → n < 79 → Un n := @more 78 q78 (@un 78 _ _ d78 d79 rfl)
theorem q80 : ∀ n, 50 ≤ n → n < 80 → Un n := @more 79 q79 (@un 79 _ _ d79 d80 rfl)
theorem q81 : ∀ n, 50 ≤ n → n < 81 → Un n := @more 80 q80 (@un 80 _ _ d80 d81 rfl)
theorem q82 : ∀ n, 50 ≤ n → n < 82 → Un n := @more 81 q81 (@un 81 _ _ d81 d82 rfl)
theorem q83 : ∀ n, 50 ≤ n → n < 83 → Un n := @more 82 q82 (@un 82 _ _ d82 d83 rfl)
theorem q84 : ∀ n, 50 ≤ n → n < 84 → Un n := @more 83 q83 (@un 83 _ _ d83 d84 rfl)
theorem q85 : ∀ n, 50 ≤ n → n < 85 → Un n := @more 84 q84 (@un 84 _ _ d84 d85 rfl)
theorem q86 : ∀ n, 50 ≤ n → n < 86 → Un n := @more 85 q85 (@un 85 _ _ d85 d86 rfl)
theorem q87 : ∀ n, 50 ≤ n → n < 87 → Un n := @more 86 q86 (@un 86 _ _ d86 d87 rfl)
theorem q88 : ∀ n, 50 ≤ n → n < 88 → Un n := @more 87 q87 (@un 87 _ _ d87 d88 rfl)
theorem q89 : ∀ n, 50 ≤ n → n < 89 → Un n := @more 88 q88 (@un 88 _ _ d88 d89 rfl)
theorem q90 : ∀ n, 50 ≤ n → n < 90 → Un n := @more 89 q89 (@un 89 _ _ d89 d90 rfl)
theorem q91 : ∀ n, 50 ≤ n → n < 91 → Un n := @more 90 q90 (@un 90 _ _ d90 d91 rfl)
theorem q92 : ∀ n, 50 ≤ n → n < 92 → Un n := @more 91 q91 (@un 91 _ _ d91 d92 rfl)
theorem q93 : ∀ n, 50 ≤ n → n < 93 → Un n := @more 92 q92 (@un 92 _ _ d92 d93 rfl)
theorem q94 : ∀ n, 50 ≤ n → n < 94 → Un n := @more 93 q93 (@un 93 _ _ d93 d94 rfl)
theorem q95 : ∀ n, 50 ≤ n → n < 95 → Un n := @more 94 q94 (@un 94 _ _ d94 d95 rfl)
theorem q96 : ∀ n, 50 ≤ n → n < 96 → Un n := @more 95 q95 (@un 95 _ _ d95 d96 rfl)
theorem q97 : ∀ n, 50 ≤ n → n < 97 → Un n := @more 96 q96 (@un 96 _ _ d96 d97 rfl)
theorem q98 : ∀ n, 50 ≤ n → n < 98 → Un n := @more 97 q97 (@un 97 _ _ d97 d98 rfl)
theorem q99 : ∀ n, 50 ≤ n → n < 99 → Un n := @more 98 q98 (@un 98 _ _ d98 d99 rfl)
theorem q100 : ∀ n, 50 ≤ n → n < 100 → Un n := @more 99 q99 (@un 99 _ _ d99 d100 rfl)
theorem q101 : ∀ n, 50 ≤ n → n < 101 → Un n := @more 100 q100 (@un 100 _ _ d100 d101 rfl)
theorem q102 : ∀ n, 50 ≤ n → n < 102 → Un n := @more 101 q101 (@un 101 _ _ d101 d102 rfl)
theorem q103 : ∀ n, 50 ≤ n → n < 103 → Un n := @more 102 q102 (@un 102 _ _ d102 d103 rfl)
theorem q104 : ∀ n, 50 ≤ n → n < 104 → Un n := @more 103 q103 (@un 103 _ _ d103 d104 rfl)
theorem q105 : ∀ n, 50 ≤ n → n < 105 → Un n := @more 104 q104 (@un 104 _ _ d104 d105 rfl)
theorem q106 : ∀ n, 50 ≤ n → n < 106 → Un n := @more 105 q105 (@un 105 _ _ d105 d106 rfl)
theorem q107 : ∀ n, 50 ≤ n → n < 107 → Un n := @more 106 q106 (@un 106 _ _ d106 d107 rfl)
theorem q108 : ∀ n, 50 ≤ n → n < 108 → Un n := @more 107 q107 (@un 107 _ _ d107 d108 rfl)
theorem q109 : ∀ n, 50 ≤ n → n < 109 → Un n := @more 108 q108 (@un 108 _ _ d108 d109 rfl)
theorem q110 : ∀ n, 50 ≤ n → n < 110 → Un n := @more 109 q109 (@un 109 _ _ d109 d110 rfl)
theorem q111 : ∀ n, 50 ≤ n → n < 111 → Un n := @more 110 q110 (@un 110 _ _ d110 d111 rfl)
theorem q112 : ∀ n, 50 ≤ n → n < 112 → Un n := @more 111 q111 (@un 111 _ _ d111 d112 rfl)
theorem q113 : ∀ n, 50 ≤ n → n < 113 → Un n := @more 112 q112 (@un 112 _ _ d112 d113 rfl)
theorem q114 : ∀ n, 50 ≤ n → n < 114 → Un n := @more 113 q113 (@un 113 _ _ d113 d114 rfl)
theorem q115 : ∀ n, 50 ≤ n → n < 115 → Un n := @more 114 q114 (@un 114 _ _ d114 d115 rfl)
theorem q116 : ∀ n, 50 ≤ n → n < 116 → Un n := @more 115 q115 (@un 115 _ _ d115 d116 rfl)
theorem q117 : ∀ n, 50 ≤ n → n < 117 → Un n := @more 116 q116 (@un 116 _ _ d116 d117 rfl)
theorem q118 : ∀ n, 50 ≤ n → n < 118 → Un n := @more 117 q117 (@un 117 _ _ d117 d118 rfl)
theorem q119 : ∀ n, 50 ≤ n → n < 119 → Un n := @more 118 q118 (@un 118 _ _ d118 d119 rfl)
theorem q120 : ∀ n, 50 ≤ n → n < 120 → Un n := @more 119 q119 (@un 119 _ _ d119 d120 rfl)
theorem q121 : ∀ n, 50 ≤ n → n < 121 → Un n := @more 120 q120 (@un 120 _ _ d120 d121 rfl)
theorem q122 : ∀ n, 50 ≤ n → n < 122 → Un n := @more 121 q121 (@un 121 _ _ d121 d122 rfl)
theorem q123 : ∀ n, 50 ≤ n → n < 123 → Un n := @more 122 q122 (@un 122 _ _ d122 d123 rfl)
theorem q124 : ∀ n, 50 ≤ n → n < 124 → Un n := @more 123 q123 (@un 123 _ _ d123 d124 rfl)
theorem q125 : ∀ n, 50 ≤ n → n < 125 → Un n := @more 124 q124 (@un 124 _ _ d124 d125 rfl)
theorem q126 : ∀ n, 50 ≤ n → n < 126 → Un n := @more 125 q125 (@un 125 _ _ d125 d126 rfl)
theorem q127 : ∀ n, 50 ≤ n → n < 127 → Un n := @more 126 q126 (@un 126 _ _ d126 d127 rfl)
theorem q128 : ∀ n, 50 ≤ n → n < 128 → Un n := @more 127 q127 (@un 127 _ _ d127 d128 rfl)
theorem q129 : ∀ n, 50 ≤ n → n < 129 → Un n := @more 128 q128 (@un 128 _ _ d128 d129 rfl)
theorem q130 : ∀ n, 50 ≤ n → n < 130 → Un n := @more 129 q129 (@un 129 _ _ d129 d130 rfl)
theorem q131 : ∀ n, 50 ≤ n → n < 131 → Un n := @more 130 q130 (@un 130 _ _ d130 d131 rfl)
theorem q132 : ∀ n, 50 ≤ n → n < 132 → Un n := @more 131 q131 (@un 131 _ _ d131 d132 rfl)
theorem q133 : ∀ n, 50 ≤ n → n < 133 → Un n := @more 132 q132 (@un 132 _ _ d132 d133 rfl)
theorem q134 : ∀ n, 50 ≤ n → n < 134 → Un n := @more 133 q133 (@un 133 _ _ d133 d134 rfl)
theorem q135 : ∀ n, 50 ≤ n → n < 135 → Un n := @more 134 q134 (@un 134 _ _ d134 d135 rfl)
theorem q136 : ∀ n, 50 ≤ n → n < 136 → Un n := @more 135 q135 (@un 135 _ _ d135 d136 rfl)
theorem q137 : ∀ n, 50 ≤ n → n < 137 → Un n := @more 136 q136 (@un 136 _ _ d136 d137 rfl)
theorem q138 : ∀ n, 50 ≤ n → n < 138 → Un n := @more 137 q137 (@un 137 _ _ d137 d138 rfl)
theorem q139 : ∀ n, 50 ≤ n → n < 139 → Un n := @more 138 q138 (@un 138 _ _ d138 d139 rfl)
theorem q140 : ∀ n, 50 ≤ n → n < 140 → Un n := @more 139 q139 (@un 139 _ _ d139 d140 rfl)
end Fa
end Go.Proofs.YtgbdleenkblcfaaDoor
