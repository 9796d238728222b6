/- AES: the words of a key as bytes, one after the other. -/
import Derived.Test.YtjcdbjapadgdfaaDoorBD
import Derived.Test.YtjcdbjapadgdfaaDoorAS
namespace Go.Proofs.YtjcdbjapadgdfaaDoor
open Go.RowKit

theorem bW_len (x : Nat) : (bW x).length = 4 := rfl
theorem bytesL_get : ∀ (ws : List Nat) (i k : Nat), k < 4 → (bytesL ws).getD (4 * i + k) 0 = (bW (ws.getD i 0)).getD k 0
  | [], i, k, hk => by
    rw [show ([] : List Nat).getD i 0 = 0 by simp, show bytesL [] = [] from rfl, show ([] : List Nat).getD (4 * i + k) 0 = 0 by simp]
    rcases (by omega : k = 0 ∨ k = 1 ∨ k = 2 ∨ k = 3) with rfl | rfl | rfl | rfl <;> rfl
  | x :: ws, 0, k, hk => by
    show (bW x ++ bytesL ws).getD (4 * 0 + k) 0 = _
    rw [Nat.mul_zero, Nat.zero_add, List.getD, List.getElem?_append_left (by rw [bW_len]; exact hk)]; rfl
  | x :: ws, i + 1, k, hk => by
    show (bW x ++ bytesL ws).getD (4 * (i + 1) + k) 0 = _
    rw [List.getD, List.getElem?_append_right (by rw [bW_len]; omega), bW_len, show 4 * (i + 1) + k - 4 = 4 * i + k by omega]
    exact bytesL_get ws i k hk
theorem b0_xor {a b : Nat} : b0 (a ^^^ b) = b0 a ^^^ b0 b := by
  unfold b0
  rw [show (16777216 : Nat) = 2 ^ 24 from rfl, ← Nat.shiftRight_eq_div_pow, ← Nat.shiftRight_eq_div_pow, ← Nat.shiftRight_eq_div_pow, Nat.shiftRight_xor_distrib]
theorem b1_xor {a b : Nat} : b1 (a ^^^ b) = b1 a ^^^ b1 b := by
  unfold b1
  rw [show (65536 : Nat) = 2 ^ 16 from rfl, show (256 : Nat) = 2 ^ 8 from rfl, ← Nat.shiftRight_eq_div_pow, ← Nat.shiftRight_eq_div_pow, ← Nat.shiftRight_eq_div_pow, Nat.shiftRight_xor_distrib, Nat.xor_mod_two_pow]
theorem b2_xor {a b : Nat} : b2 (a ^^^ b) = b2 a ^^^ b2 b := by
  unfold b2
  rw [show (256 : Nat) = 2 ^ 8 from rfl, ← Nat.shiftRight_eq_div_pow, ← Nat.shiftRight_eq_div_pow, ← Nat.shiftRight_eq_div_pow, Nat.shiftRight_xor_distrib, Nat.xor_mod_two_pow]
theorem b3_xor {a b : Nat} : b3 (a ^^^ b) = b3 a ^^^ b3 b := by
  unfold b3
  rw [show (256 : Nat) = 2 ^ 8 from rfl, Nat.xor_mod_two_pow]
theorem bW_xor (a b : Nat) {k : Nat} (hk : k < 4) : (bW (a ^^^ b)).getD k 0 = (bW a).getD k 0 ^^^ (bW b).getD k 0 := by
  rcases (by omega : k = 0 ∨ k = 1 ∨ k = 2 ∨ k = 3) with rfl | rfl | rfl | rfl
  · exact b0_xor
  · exact b1_xor
  · exact b2_xor
  · exact b3_xor
/-- All words of a key. -/
def Kw (kw : List Nat) (i : Nat) : Nat := (kf kw 11).getD i 0
theorem Kw_eq {kw : List Nat} (h : kw.length = 4) {n j : Nat} (hn : n < 11) (hj : j < 4) : Kw kw (4 * n + j) = (rk kw n).getD j 0 := by
  rw [← kf_get h hn]
  unfold Kw
  rw [List.getD, List.getD, List.getElem?_take, if_pos hj, List.getElem?_drop, show n * 4 + j = 4 * n + j by omega]
theorem Kw_first {kw : List Nat} (h : kw.length = 4) {n : Nat} (hn : n < 10) : Kw kw (4 * n + 4) = subW sb (mov1 (Kw kw (4 * n + 3))) ^^^ pw n ^^^ Kw kw (4 * n) := by
  have e1 := Kw_eq h (n := n + 1) (j := 0) (by omega) (by omega)
  have e2 := Kw_eq h (n := n) (j := 3) (by omega) (by omega)
  have e3 := Kw_eq h (n := n) (j := 0) (by omega) (by omega)
  rw [show 4 * (n + 1) + 0 = 4 * n + 4 by omega] at e1
  rw [Nat.add_zero] at e3
  rw [e1, e2, e3]
  rfl
theorem Kw_next {kw : List Nat} (h : kw.length = 4) {n j : Nat} (hn : n < 10) (hj : j < 3) : Kw kw (4 * n + 4 + (j + 1)) = Kw kw (4 * n + 4 + j) ^^^ Kw kw (4 * n + (j + 1)) := by
  have e1 := Kw_eq h (n := n + 1) (j := j + 1) (by omega) (by omega)
  have e2 := Kw_eq h (n := n + 1) (j := j) (by omega) (by omega)
  have e3 := Kw_eq h (n := n) (j := j + 1) (by omega) (by omega)
  rw [show 4 * (n + 1) + (j + 1) = 4 * n + 4 + (j + 1) by omega] at e1
  rw [show 4 * (n + 1) + j = 4 * n + 4 + j by omega] at e2
  rw [e1, e2, e3]
  rcases (by omega : j = 0 ∨ j = 1 ∨ j = 2) with rfl | rfl | rfl <;> rfl
/-- All bytes of the words of a key. -/
def FL (kw : List Nat) : List Nat := bytesL (kf kw 11)
theorem FL_len {kw : List Nat} (h : kw.length = 4) : (FL kw).length = 176 := by unfold FL; rw [bytesL_len, kf_len h]
theorem FL_get (kw : List Nat) (i : Nat) {k : Nat} (hk : k < 4) : (FL kw).getD (4 * i + k) 0 = (bW (Kw kw i)).getD k 0 := bytesL_get _ i k hk
theorem kf_w32 {kw : List Nat} (h : W32 kw) : ∀ n, W32 (kf kw n)
  | 0 => fun x hx => by cases hx
  | n + 1 => fun x hx => by
    rw [kf_succ] at hx
    rcases List.mem_append.1 hx with hx | hx
    · exact kf_w32 h n x hx
    · exact rk_w32 h n x hx
theorem FL_256 {kw : List Nat} (h : W32 kw) : ∀ x ∈ FL kw, x < 256 := bytesL_256 (kf_w32 h 11)
/-- The powers that the first words of round keys are combined with. -/
def rc : Nat → Nat
  | 0 => 1
  | n + 1 => xt (rc n)
theorem rc_lt : ∀ n, rc n < 256
  | 0 => by unfold rc; omega
  | n + 1 => xt_lt _ (rc_lt n)
theorem rc_pw : ∀ n, n < 10 → bW (pw n) = [rc n, 0, 0, 0] := by decide +kernel
/-- What word i is combined with. -/
def LaL (kw : List Nat) (i : Nat) : List Nat :=
  if i % 4 = 0 then [tb sb ((FL kw).getD (4 * i - 3) 0) ^^^ rc ((i - 1) / 4), tb sb ((FL kw).getD (4 * i - 2) 0), tb sb ((FL kw).getD (4 * i - 1) 0), tb sb ((FL kw).getD (4 * i - 4) 0)]
  else ((FL kw).drop (4 * i - 4)).take 4
theorem sb_lt (x : Nat) : tb sb x < 256 := tb_256 sb_256 x
theorem FL_step {kw : List Nat} (h : kw.length = 4) (hw : W32 kw) {i k : Nat} (h4 : 4 ≤ i) (h44 : i < 44) (hk : k < 4) : (FL kw).getD (4 * i + k) 0 = (FL kw).getD (4 * i - 16 + k) 0 ^^^ (LaL kw i).getD k 0 := by
  obtain ⟨n, j, hn, hj, rfl⟩ : ∃ n j, n < 10 ∧ j < 4 ∧ i = 4 * n + 4 + j := ⟨(i - 4) / 4, i % 4, by omega, by omega, by omega⟩
  rw [FL_get kw _ hk, show 4 * (4 * n + 4 + j) - 16 + k = 4 * (4 * n + j) + k by omega, FL_get kw _ hk]
  cases j with
  | zero =>
    unfold LaL
    rw [if_pos (by omega), Nat.add_zero, Kw_first h hn, bW_xor _ _ hk, bW_xor _ _ hk, rc_pw n hn, Nat.xor_comm, show 4 * n + 0 = 4 * n from rfl]
    congr 1
    rw [show (4 * n + 4 - 1) / 4 = n by omega, show 4 * (4 * n + 4) - 3 = 4 * (4 * n + 3) + 1 by omega, show 4 * (4 * n + 4) - 2 = 4 * (4 * n + 3) + 2 by omega, show 4 * (4 * n + 4) - 1 = 4 * (4 * n + 3) + 3 by omega, show 4 * (4 * n + 4) - 4 = 4 * (4 * n + 3) + 0 by omega, FL_get kw _ (by omega), FL_get kw _ (by omega), FL_get kw _ (by omega), FL_get kw _ (by omega)]
    have hx32 : Kw kw (4 * n + 3) < 4294967296 := (kf_w32 hw 11).get _
    obtain ⟨x, hx⟩ : ∃ x, Kw kw (4 * n + 3) = x := ⟨_, rfl⟩
    rw [hx] at hx32 ⊢
    have e0 : b0 (mov1 x) = b1 x ∧ b1 (mov1 x) = b2 x ∧ b2 (mov1 x) = b3 x ∧ b3 (mov1 x) = b0 x := ⟨b0_pk (b2_lt _) (b3_lt _) (b0_lt hx32), b1_pk (b2_lt _) (b3_lt _) (b0_lt hx32), b2_pk (b3_lt _) (b0_lt hx32), b3_pk (b0_lt hx32)⟩
    have e1 : b0 (subW sb (mov1 x)) = tb sb (b0 (mov1 x)) := b0_pk (sb_lt _) (sb_lt _) (sb_lt _)
    have e2 : b1 (subW sb (mov1 x)) = tb sb (b1 (mov1 x)) := b1_pk (sb_lt _) (sb_lt _) (sb_lt _)
    have e3 : b2 (subW sb (mov1 x)) = tb sb (b2 (mov1 x)) := b2_pk (sb_lt _) (sb_lt _)
    have e4 : b3 (subW sb (mov1 x)) = tb sb (b3 (mov1 x)) := b3_pk (sb_lt _)
    rw [e0.1] at e1; rw [e0.2.1] at e2; rw [e0.2.2.1] at e3; rw [e0.2.2.2] at e4
    rcases (by omega : k = 0 ∨ k = 1 ∨ k = 2 ∨ k = 3) with rfl | rfl | rfl | rfl
    · show b0 (subW sb (mov1 x)) ^^^ rc n = tb sb (b1 x) ^^^ rc n
      rw [e1]
    · show b1 (subW sb (mov1 x)) ^^^ 0 = tb sb (b2 x)
      rw [e2, Nat.xor_zero]
    · show b2 (subW sb (mov1 x)) ^^^ 0 = tb sb (b3 x)
      rw [e3, Nat.xor_zero]
    · show b3 (subW sb (mov1 x)) ^^^ 0 = tb sb (b0 x)
      rw [e4, Nat.xor_zero]
  | succ j =>
    unfold LaL
    rw [if_neg (by omega), Kw_next h hn (by omega), bW_xor _ _ hk, Nat.xor_comm]
    congr 1
    rw [dt_get _ _ hk, show 4 * (4 * n + 4 + (j + 1)) - 4 + k = 4 * (4 * n + 4 + j) + k by omega, FL_get kw _ hk]
end Go.Proofs.YtjcdbjapadgdfaaDoor
