/- Adding, by the reference. -/
import Derived.Test.YtkegdjndmeialaaR2
namespace Go.Proofs.Ytkegdjndmeialaa
open Go.RowKit

theorem add_digits (v u k x y cy : Nat) (hx : dgt 65536 v k = x) (hy : dgt 65536 u k = y) (hc : addC 65536 v u k = cy) :
    (x + y + cy) % 65536 = dgt 65536 (v + u) k ∧ (x + y + cy) / 65536 = addC 65536 v u (k + 1) ∧ cy ≤ 1 := by
  have h := addC_step (show 0 < 65536 by omega) v u k
  have h1 := d16_lt (v + u) k
  have h2 := addC_le (show 0 < 65536 by omega) v u k
  rw [hx, hy, hc] at h
  rw [hc] at h2
  omega
theorem addC_end {v u N : Nat} (hv : v < 65536 ^ N) (hu : u < 65536 ^ N) : addC 65536 v u (N + 1) = 0 := by
  have e : (65536 : Nat) ^ (N + 1) = 65536 ^ N * 65536 := Nat.pow_succ ..
  rw [addC_top (by omega) (by omega)]
  exact Nat.div_eq_of_lt (by omega)
theorem add_done {v u k : Nat} (hv : v < 65536 ^ k) (hu : u < 65536 ^ k) (h : addC 65536 v u k = 0) : v + u < 65536 ^ k := by
  rw [addC_top hv hu] at h
  rcases Nat.div_eq_zero_iff.1 h with h | h
  · exact absurd h (Nat.ne_of_gt (Nat.pow_pos (by omega)))
  · exact h

set_option maxRecDepth 100000 in
set_option maxHeartbeats 1000000 in
theorem radd_any (v u n m : Nat) (s t : Value) (w : World) (hs : DigN v n s w) (ht : DigN u m t w) (hn : n ≤ 1000000) (hm : m ≤ 1000000) :
    Calls Try.prog 34 #[s, t] w fun e w' => ∃ r, e = .returned r ∧ RefN (v + u) r w' ∧ Below w.heap.size w w' := by
  obtain ⟨i0, hi, hz0, hz1, hz2⟩ := info_parts Try.info3
  have HS := Lib.hid hs
  have HT := Lib.hid ht
  have HV0 := Lib.hid hs.1
  have HU0 := Lib.hid ht.1
  obtain ⟨N, hnN, hmN, hN⟩ : ∃ N, n ≤ N ∧ m ≤ N ∧ N ≤ 1000000 := ⟨max n m, by omega, by omega, by omega⟩
  have HV := Lib.hid (show v < 65536 ^ N from Nat.lt_of_lt_of_le hs.1 (Nat.pow_le_pow_right (by omega) hnN))
  have HU := Lib.hid (show u < 65536 ^ N from Nat.lt_of_lt_of_le ht.1 (Nat.pow_le_pow_right (by omega) hmN))
  obtain ⟨_, a, c, rfl, h2, h3, h4⟩ := hs
  obtain ⟨_, a', c', rfl, h2', h3', h4'⟩ := ht
  clear h4 h4' h2 h2' h3 h3'
  rename_i hx1 hx2
  clear hx1 hx2
  go_enter Try.func34, Try.ntmps34
  go_wp2_with fail
  go_loopw [5, 6, 7] (fun x q i wr => ∃ k cy : Nat, k ≤ N + 1 ∧ addC 65536 v u k = cy ∧ q = .int .i64 (cy : Nat) ∧ i = .int .i64 (k : Nat) ∧ wr.ownsRow w.heap.size 3 1 x k (dcells (v + u) k) ∧ Below w.heap.size w wr)
    (fun _ _ i _ => N + 1 - (intOf i).toNat)
  case atStart => exact ⟨0, 0, by omega, addC_zero _ _ _, rfl, rfl, World.ownsRow_nil _ _ _ _, Below.refl _ _⟩
  case round =>
    obtain ⟨k, cy, hk, hcy, rfl, rfl, hown, hbel⟩ := hrel
    have hsz := hbel.size
    have HCY := Lib.hid hcy
    clear hcy
    by_cases hgo : k < n ∨ k < m ∨ 0 < cy
    · have hkN : k ≤ N := by
        rcases Nat.lt_or_ge N k with h | h
        · have hkk : k = N + 1 := by omega
          have h0 := addC_end HV.out HU.out
          rw [← hkk, HCY.out] at h0
          omega
        · exact h
      obtain ⟨x, hx⟩ : ∃ x, dgt 65536 v k = x := ⟨_, rfl⟩
      obtain ⟨y, hy⟩ : ∃ y, dgt 65536 u k = y := ⟨_, rfl⟩
      obtain ⟨hd1, hd2, hcy1⟩ := add_digits v u k x y cy hx hy HCY.out
      have hxl := d16_lt v k
      have hyl := d16_lt u k
      have HDk := Lib.hid (digit_any v n k _ wr (HS.out.kept hbel) (by omega))
      have HEk := Lib.hid (digit_any u m k _ wr (HT.out.kept hbel) (by omega))
      rw [hx] at hxl HDk
      rw [hy] at hyl HEk
      have HD1 := Lib.hid hd1
      have HD2 := Lib.hid hd2
      clear hx hy hd1 hd2
      by_cases h1 : k < n
      · clear hgo
        go_wp2_with (first
          | (go_at_call_of 50 (Value.slice a n c); refine HDk.out.mono ?_; rintro e w2 ⟨rfl, hw⟩; subst hw)
          | (go_at_call_of 50 (Value.slice a' m c'); refine HEk.out.mono ?_; rintro e w2 ⟨rfl, hw⟩; subst hw)
          | (at_builtin; refine wpList_append_own _ rfl _ _ 32 rfl w.heap.size 3 i0 (.int .i64 0) 1 8 Try.underlying32 hi hz0 hz1 hz2 rfl (by decide) _ _ _ rfl (hown.alloc _) ⟨w2.heap.size, 0, none⟩ 1 1 [.int .i64 (((x : Int) + (y : Int) + (cy : Int)) % 65536)] rfl rfl (cell_one_new _ _ _) (fun x hx => by simp at hx; subst hx; rfl) (by unfold maxLen; omega) (by omega) (by simp; omega) ?_; intro v' w3 hown' hgrow3 hnil3))
        refine ⟨⟨k + 1, (x + y + cy) / 65536, by omega, HD2.out.symm, congrArg (Value.int .i64) (by omega), rfl, ?_, (hbel.alloc hsz _).grown hgrow3 (by simp; omega) (fun j hj => (hown.lt j hj).1)⟩, by simp [intOf] <;> omega⟩
        rw [dcells_succ, ← HD1.out, show (((x + y + cy) % 65536 : Nat) : Int) = ((x : Int) + (y : Int) + (cy : Int)) % 65536 by omega]
        exact hown'
      · by_cases h2 : k < m
        · clear hgo
          go_wp2_with (first
            | (go_at_call_of 50 (Value.slice a n c); refine HDk.out.mono ?_; rintro e w2 ⟨rfl, hw⟩; subst hw)
            | (go_at_call_of 50 (Value.slice a' m c'); refine HEk.out.mono ?_; rintro e w2 ⟨rfl, hw⟩; subst hw)
            | (at_builtin; refine wpList_append_own _ rfl _ _ 32 rfl w.heap.size 3 i0 (.int .i64 0) 1 8 Try.underlying32 hi hz0 hz1 hz2 rfl (by decide) _ _ _ rfl (hown.alloc _) ⟨w2.heap.size, 0, none⟩ 1 1 [.int .i64 (((x : Int) + (y : Int) + (cy : Int)) % 65536)] rfl rfl (cell_one_new _ _ _) (fun x hx => by simp at hx; subst hx; rfl) (by unfold maxLen; omega) (by omega) (by simp; omega) ?_; intro v' w3 hown' hgrow3 hnil3))
          refine ⟨⟨k + 1, (x + y + cy) / 65536, by omega, HD2.out.symm, congrArg (Value.int .i64) (by omega), rfl, ?_, (hbel.alloc hsz _).grown hgrow3 (by simp; omega) (fun j hj => (hown.lt j hj).1)⟩, by simp [intOf] <;> omega⟩
          rw [dcells_succ, ← HD1.out, show (((x + y + cy) % 65536 : Nat) : Int) = ((x : Int) + (y : Int) + (cy : Int)) % 65536 by omega]
          exact hown'
        · have h3 : 0 < cy := by omega
          clear hgo
          go_wp2_with (first
            | (go_at_call_of 50 (Value.slice a n c); refine HDk.out.mono ?_; rintro e w2 ⟨rfl, hw⟩; subst hw)
            | (go_at_call_of 50 (Value.slice a' m c'); refine HEk.out.mono ?_; rintro e w2 ⟨rfl, hw⟩; subst hw)
            | (at_builtin; refine wpList_append_own _ rfl _ _ 32 rfl w.heap.size 3 i0 (.int .i64 0) 1 8 Try.underlying32 hi hz0 hz1 hz2 rfl (by decide) _ _ _ rfl (hown.alloc _) ⟨w2.heap.size, 0, none⟩ 1 1 [.int .i64 (((x : Int) + (y : Int) + (cy : Int)) % 65536)] rfl rfl (cell_one_new _ _ _) (fun x hx => by simp at hx; subst hx; rfl) (by unfold maxLen; omega) (by omega) (by simp; omega) ?_; intro v' w3 hown' hgrow3 hnil3))
          refine ⟨⟨k + 1, (x + y + cy) / 65536, by omega, HD2.out.symm, congrArg (Value.int .i64) (by omega), rfl, ?_, (hbel.alloc hsz _).grown hgrow3 (by simp; omega) (fun j hj => (hown.lt j hj).1)⟩, by simp [intOf] <;> omega⟩
          rw [dcells_succ, ← HD1.out, show (((x + y + cy) % 65536 : Nat) : Int) = ((x : Int) + (y : Int) + (cy : Int)) % 65536 by omega]
          exact hown'
    · have h1 : ¬ k < n := by omega
      have h2 : ¬ k < m := by omega
      obtain rfl : cy = 0 := by omega
      have HDone := Lib.hid (add_done (Nat.lt_of_lt_of_le HV0.out (Nat.pow_le_pow_right (by omega) (by omega : n ≤ k))) (Nat.lt_of_lt_of_le HU0.out (Nat.pow_le_pow_right (by omega) (by omega : m ≤ k))) HCY.out)
      clear hgo
      go_wp2_with fail
      refine (trim_any _ k _ wr (digN_owns hown HDone.out)).mono ?_
      rintro e w2 ⟨s', rfl, hR, rfl⟩
      go_wp2_with fail
      go_ret
      exact ⟨_, rfl, hR, hbel⟩
end Go.Proofs.Ytkegdjndmeialaa
