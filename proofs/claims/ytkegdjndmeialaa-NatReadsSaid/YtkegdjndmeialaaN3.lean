/- The string of a number that was read from a string; strings of too many numerals; what the reference does not parse. -/
import Derived.Test.YtkegdjndmeialaaR12
namespace Go.Proofs.Ytkegdjndmeialaa
open Go.RowKit

theorem take_divB (B : Nat) (hB : 0 < B) (zs : List Nat) (h : ∀ x ∈ zs, x < B) (m : Nat) (hm : m ≤ zs.length) : valBE B zs / B ^ m = valBE B (zs.take (zs.length - m)) := by
  have h1 := valBE_append B (zs.take (zs.length - m)) (zs.drop (zs.length - m))
  have hl : (zs.drop (zs.length - m)).length = m := by simp; omega
  have hlt := valBE_lt B hB (zs.drop (zs.length - m)) (fun x hx => h x (List.mem_of_mem_drop hx))
  rw [List.take_append_drop, hl] at h1
  rw [hl] at hlt
  rw [h1, Nat.mul_comm, Nat.mul_add_div (Nat.pow_pos hB), Nat.div_eq_of_lt hlt, Nat.add_zero]

theorem take_stepB (B : Nat) (zs : List Nat) (j : Nat) (hj : j < zs.length) : valBE B (zs.take (j + 1)) = valBE B (zs.take j) * B + zs.getD j 0 := by
  have h : zs.take (j + 1) = zs.take j ++ [zs.getD j 0] := by
    rw [List.take_add_one]; simp [List.getD, hj]
  rw [h, valBE_snoc]

/-- The digit i of a list of digits. -/
theorem digit_of (B : Nat) (hB : 0 < B) (zs : List Nat) (h : ∀ x ∈ zs, x < B) (i : Nat) (hi : i < zs.length) : valBE B zs / B ^ (zs.length - 1 - i) % B = zs.getD i 0 := by
  rw [take_divB B hB zs h _ (by omega), show zs.length - (zs.length - 1 - i) = i + 1 by omega, take_stepB B zs i hi, Nat.mul_comm, Nat.mul_add_mod]
  exact Nat.mod_eq_of_lt (h _ (by rw [List.getD, List.getElem?_eq_getElem hi]; exact List.getElem_mem _))

theorem text_parts {s : ByteArray} (h : isTextB s = true) : 0 < s.size ∧ ((natsOf s).getD 0 0 ≠ 48 ∨ s.size = 1) ∧ ∀ i (hi : i < s.size), isNumB (s[i].toNat : Nat) = true := by
  refine ⟨?_, ?_, isTextB_num s h⟩ <;> (unfold isTextB at h; simp only [Bool.and_eq_true, decide_eq_true_eq, Bool.or_eq_true, bne_iff_ne, beq_iff_eq] at h)
  · exact h.1.1
  · exact h.1.2

theorem digs_lt {s : ByteArray} (h : isTextB s = true) : ∀ x ∈ digs s, x < 16 := by
  intro x hx
  obtain ⟨i, hi, rfl⟩ := List.getElem_of_mem hx
  have hi2 : i < s.size := by rw [digs_length] at hi; exact hi
  have h1 := digs_get s i hi2
  rw [List.getD, List.getElem?_eq_getElem hi, Option.getD_some] at h1
  rw [h1]
  obtain ⟨h2, h3⟩ := numV_bd _ ((text_parts h).2.2 i hi2)
  omega

theorem digs_lead {s : ByteArray} (h : isTextB s = true) (h1 : 1 < s.size) : (digs s).getD 0 0 ≠ 0 := by
  obtain ⟨h0, hl, hn⟩ := text_parts h
  rw [digs_get s 0 h0]
  have h2 := hn 0 h0
  rw [natsOf_get s 0 h0] at hl
  have h3 : s[0].toNat ≠ 48 := by rcases hl with hl | hl <;> omega
  unfold isNumB at h2
  simp only [Bool.or_eq_true, decide_eq_true_eq] at h2
  unfold numV
  split <;> omega

theorem digs_ge {s : ByteArray} (h : isTextB s = true) (h1 : 1 < s.size) : 16 ^ (s.size - 1) ≤ valBE 16 (digs s) := by
  have h2 := valBE_ge 16 (digs s) 0 (by rw [digs_length]; omega) (digs_lead h h1)
  rw [List.drop_zero, digs_length] at h2
  exact h2

theorem p64_hex : P64 ^ 16 = 16 ^ 256 := by
  obtain ⟨n, hn⟩ : ∃ n, n = 16 := ⟨_, rfl⟩
  have e : P64 = 16 ^ 16 := by rw [P64_eq]
  rw [e, ← hn, ← Nat.pow_mul, hn]

theorem text_full {s : ByteArray} (h : isTextB s = true) (h1 : 256 < s.size) : ¬ valBE 16 (digs s) < P64 ^ 16 := by
  have h2 := digs_ge h (by omega)
  rw [p64_hex]
  have h3 : 16 ^ 256 ≤ 16 ^ (s.size - 1) := Nat.pow_le_pow_right (by omega) (by omega)
  exact Nat.not_lt.2 (Nat.le_trans h3 h2)
theorem text_fits {s : ByteArray} (h : isTextB s = true) (h1 : s.size ≤ 256) : valBE 16 (digs s) < P64 ^ 16 := by
  have h2 := valBE_lt 16 (by omega) (digs s) (digs_lt h)
  rw [digs_length] at h2
  rw [p64_hex]
  exact Nat.lt_of_lt_of_le h2 (Nat.pow_le_pow_right (by omega) h1)
theorem text_dlen {s : ByteArray} (h : isTextB s = true) (h1 : s.size ≤ 1000) : dlen 65536 (valBE 16 (digs s)) ≤ 1000 := by
  have h2 := valBE_lt 16 (by omega) (digs s) (digs_lt h)
  rw [digs_length] at h2
  refine Nat.le_trans (dlen_le (by omega) (Nat.lt_of_lt_of_le h2 ?_)) h1
  exact Nat.pow_le_pow_left (by omega) _

theorem nHex_text {s : ByteArray} (h : isTextB s = true) : nHex (valBE 16 (digs s)) = s.size := by
  obtain ⟨h0, hl, hn⟩ := text_parts h
  have h2 := valBE_lt 16 (by omega) (digs s) (digs_lt h)
  rw [digs_length] at h2
  have h3 : dlen 2 (valBE 16 (digs s)) ≤ 4 * s.size := dlen_le (by omega) (by rw [Nat.pow_mul]; exact h2)
  unfold nHex
  by_cases h1 : 1 < s.size
  · have h4 := digs_ge h h1
    have h5 : ¬ dlen 2 (valBE 16 (digs s)) ≤ 4 * (s.size - 1) := by
      intro h6
      have h7 := lt_dlen (show 2 ≤ 2 by omega) (valBE 16 (digs s))
      have h8 : (2 : Nat) ^ dlen 2 (valBE 16 (digs s)) ≤ 2 ^ (4 * (s.size - 1)) := Nat.pow_le_pow_right (by omega) h6
      rw [Nat.pow_mul] at h8
      have h9 : (2 ^ 4 : Nat) = 16 := by decide
      rw [h9] at h8
      omega
    omega
  · omega

theorem strOf_natsOf (s : ByteArray) : strOf (natsOf s) = s := by
  unfold strOf natsOf
  apply ByteArray.ext
  simp [Function.comp_def]

theorem text_back {s : ByteArray} (h : isTextB s = true) : strOf (hexN (valBE 16 (digs s))) = s := by
  have hh := nHex_text h
  have e : hexN (valBE 16 (digs s)) = natsOf s := by
    refine List.ext_getElem? fun i => ?_
    unfold hexN
    rw [hh, List.getElem?_map]
    by_cases hi : i < s.size
    · have hd := digit_of 16 (by omega) (digs s) (digs_lt h) i (by rw [digs_length]; exact hi)
      rw [digs_length, digs_get s i hi] at hd
      have hx := hexc_numV _ ((text_parts h).2.2 i hi)
      have hg := natsOf_get s i hi
      have hl : i < (natsOf s).length := by rw [natsOf_length]; exact hi
      rw [List.getD, List.getElem?_eq_getElem hl, Option.getD_some] at hg
      rw [List.getElem?_range hi, List.getElem?_eq_getElem hl, hg, ← hx, ← hd, Option.map_some]
      congr 3
      rw [show (s.size - 1 - i) * 4 = 4 * (s.size - 1 - i) by omega, Nat.pow_mul]
    · rw [List.getElem?_eq_none (by simp; omega), List.getElem?_eq_none (by rw [natsOf_length]; omega)]
      rfl
  rw [e, strOf_natsOf]

set_option maxRecDepth 100000 in
theorem rparse_empty (w : World) (s : ByteArray) (hs : s.size = 0) : Calls Try.prog 20 #[.string s] w fun e w' => e = .returned (.tuple #[.slice none 0 0, .bool false]) ∧ Below w.heap.size w w' := by
  go_enter Try.func20, Try.ntmps20
  go_wp2
  go_ret2
  exact ⟨rfl, Below.refl _ _⟩
set_option maxRecDepth 100000 in
theorem rparse_zero (w : World) (s : ByteArray) (hs : 1 < s.size) (hz : s[0].toNat = 48) (hm : s.size ≤ 1000) : Calls Try.prog 20 #[.string s] w fun e w' => e = .returned (.tuple #[.slice none 0 0, .bool false]) ∧ Below w.heap.size w w' := by
  have hne2 : ((s.size : Int) == 0) = false := by
    rw [beq_eq_false_iff_ne]; omega
  have h5 : ((s[0].toNat : Nat) : Int) = 48 := by omega
  go_enter Try.func20, Try.ntmps20
  go_wp2
  go_ret2
  exact ⟨rfl, Below.refl _ _⟩
theorem rparse_no (w : World) (s : ByteArray) (h : isTextB s = false) (hm : s.size ≤ 1000) : Calls Try.prog 20 #[.string s] w fun e w' => e = .returned (.tuple #[.slice none 0 0, .bool false]) ∧ Below w.heap.size w w' := by
  by_cases h0 : s.size = 0
  · exact rparse_empty w s h0
  · have hp : 0 < s.size := by omega
    by_cases hl : s[0].toNat ≠ 48 ∨ s.size = 1
    · refine rparse_bad s hp hl ?_ hm w
      unfold isTextB at h
      cases ha : allNum s with
      | false => rfl
      | true =>
        rw [ha, natsOf_get s 0 hp] at h
        have h1 : decide (0 < s.size) = true := by simpa using hp
        have h2 : (s[0].toNat != 48 || s.size == 1) = true := by
          rw [Bool.or_eq_true, bne_iff_ne, beq_iff_eq]; exact hl
        rw [h1, h2] at h
        exact absurd h (by decide)
    · have h1 : s[0].toNat = 48 := by omega
      exact rparse_zero w s (by omega) h1 hm
end Go.Proofs.Ytkegdjndmeialaa
