/- The reference's shift. -/
import Derived.Test.YtkegdjndmeialaaR8
namespace Go.Proofs.Ytkegdjndmeialaa
open Go.RowKit

set_option maxRecDepth 100000 in
set_option maxHeartbeats 1000000 in
theorem rshift_any (v n m : Nat) (s : Value) (w : World) (hs : DigN v n s w) (hn : n ≤ 1000000) (hm : m ≤ 1024) :
    Calls Try.prog 44 #[s, .int .i64 (m : Nat)] w fun e w' => ∃ t, e = .returned t ∧ RefN (v * 2 ^ m) t w' ∧ Below w.heap.size w w' := by
  obtain ⟨i0, hi, hz0, hz1, hz2⟩ := info_parts Try.info3
  have HS := Lib.hid hs
  have HV := Lib.hid hs.1
  obtain ⟨hx1, a, c, rfl, h2, h3, h4⟩ := hs
  clear hx1 h2 h3 h4
  have hpow := two_pow_16 m
  obtain ⟨r, hr⟩ : ∃ r, m % 16 = r := ⟨_, rfl⟩
  obtain ⟨q, hq⟩ : ∃ q, m / 16 = q := ⟨_, rfl⟩
  rw [hr, hq] at hpow
  obtain ⟨V, hVV⟩ : ∃ V, v * 2 ^ r = V := ⟨_, rfl⟩
  rw [hpow, ← Nat.mul_assoc, hVV]
  have HVV := Lib.hid hVV
  have HR := Lib.hid hr
  have hr16 : r < 16 := by omega
  have hq64 : q ≤ 64 := by omega
  have hqi : (m : Int) / 16 = ((q : Nat) : Int) := by omega
  have HQI := Lib.hid hqi
  clear hr hq hqi hpow hVV
  go_enter Try.func44, Try.ntmps44
  go_wp2_with (at_make; rw [HQI.out]; refine wpList_make_full _ rfl _ _ 32 rfl w.heap.size 3 i0 (.int .i64 0) 1 Try.underlying32 hi hz0 hz1 .i64 .i64 _ _ q rfl rfl rfl rfl (by rw [hz2]; omega) (by unfold maxLen; omega) (Nat.le_refl _) ?_)
  intro w2 hown2 hg2
  have hbel2 : Below w.heap.size w w2 := (Below.refl _ w).grown hg2 (Nat.le_refl _) (fun k e => by cases e)
  have hown3 : w2.ownsRow w.heap.size 3 1 (.slice (some ⟨w.heap.size, 0, none⟩) q q) (q + 0) (dcells (V * 65536 ^ q) (q + 0)) := by
    rw [Nat.add_zero, dcells_low, ← made_zero]; exact hown2
  have HO2 := Lib.hid hown3
  have HB2 := Lib.hid hbel2
  clear hown2 hown3 hg2 hbel2
  go_wp2_with fail
  go_loopw [5, 6, 7] (fun x y i wr => ∃ k cy : Nat, k ≤ n + 1 ∧ shC v r k = cy ∧ y = .int .i64 (cy : Nat) ∧ i = .int .i64 (k : Nat) ∧ wr.ownsRow w.heap.size 3 1 x (q + k) (dcells (V * 65536 ^ q) (q + k)) ∧ Below w.heap.size w wr)
    (fun _ _ i _ => n + 1 - (intOf i).toNat)
  case atStart => exact ⟨0, 0, by omega, shC_zero _ _, rfl, rfl, HO2.out, HB2.out⟩
  case round =>
    obtain ⟨k, cy, hk, hcy, rfl, rfl, hown, hbel⟩ := hrel
    have hsz := hbel.size
    have HCY := Lib.hid hcy
    have hcl := shC_lt v r k
    rw [hcy] at hcl
    clear hcy
    by_cases hgo : k < n ∨ 0 < cy
    · have hkN : k ≤ n := by
        rcases Nat.lt_or_ge n k with h | h
        · have hkk : k = n + 1 := by omega
          have h0 := shC_end HV.out hr16
          rw [← hkk, HCY.out] at h0
          omega
        · exact h
      obtain ⟨x, hx⟩ : ∃ x, dgt 65536 v k = x := ⟨_, rfl⟩
      have hstep := sh_step v r k
      have hdl := d16_lt (v * 2 ^ r) k
      rw [hx, HCY.out] at hstep
      have hup := dgt_up V q k
      rw [HVV.out] at hstep hdl
      have hxl := d16_lt v k
      have HDk := Lib.hid (digit_any v n k _ wr (HS.out.kept hbel) (by omega))
      rw [hx] at hxl HDk
      have hT : 2 ^ r ≤ 32768 := by
        have := Nat.pow_le_pow_right (n := 2) (by omega) (show r ≤ 15 by omega)
        omega
      have hmul : x * 2 ^ r ≤ 65535 * 32768 := Nat.mul_le_mul (by omega) hT
      obtain ⟨p, hp⟩ : ∃ p, x * 2 ^ r = p := ⟨_, rfl⟩
      rw [hp] at hmul hstep
      have hxp : ((x : Int) * 2 ^ (m % 16)) = ((p : Nat) : Int) := by
        rw [HR.out, ← hp, Int.natCast_mul, Int.natCast_pow]; rfl
      have HWR := Lib.hid (show wrap64 (wrap64 ((x : Int) * 2 ^ (m % 16)) + (cy : Int)) = ((p + cy : Nat) : Int) by
        rw [hxp, wrap_id (z := ((p : Nat) : Int)) (by omega) (by omega), wrap_id (by omega) (by omega)]; omega)
      clear hxp
      clear hp
      have HST := Lib.hid hstep
      have HUP := Lib.hid hup
      have HDL := Lib.hid hdl
      clear hx hstep hup hdl
      by_cases h1 : k < n
      · clear hgo
        go_wp2_with (first
          | (go_at_call 50; refine HDk.out.mono ?_; rintro e w4 ⟨rfl, hw⟩; subst hw)
          | (at_builtin; refine wpList_append_own _ rfl _ _ 32 rfl w.heap.size 3 i0 (.int .i64 0) 1 8 Try.underlying32 hi hz0 hz1 hz2 rfl (by decide) _ _ _ rfl (hown.alloc _) ⟨w4.heap.size, 0, none⟩ 1 1 [.int .i64 ((wrap64 (wrap64 ((x : Int) * 2 ^ (m % 16)) + (cy : Int))).tmod 65536)] rfl rfl (cell_one_new _ _ _) (fun x hx => by simp at hx; subst hx; rfl) (by unfold maxLen; omega) (by omega) (by simp; omega) ?_; intro v' w3 hown' hgrow3 hnil3))
        refine ⟨⟨k + 1, (p + cy) / 65536, by omega, ?_, congrArg (Value.int .i64) ?_, congrArg (Value.int .i64) (by omega), ?_, (hbel.alloc hsz _).grown hgrow3 (by simp; omega) (fun j hj => (hown.lt j hj).1)⟩, by simp [intOf] <;> omega⟩
        · have := HST.out; have := HDL.out; omega
        · rw [HWR.out, Int.tdiv_eq_ediv_of_nonneg (by omega), wrap_id (by omega) (by omega)]; omega
        · rw [← Nat.add_assoc, dcells_succ, HUP.out, show ((dgt 65536 V k : Nat) : Int) = (wrap64 (wrap64 ((x : Int) * 2 ^ (m % 16)) + (cy : Int))).tmod 65536 by
            rw [HWR.out, Int.tmod_eq_emod_of_nonneg (by omega)]; have := HST.out; have := HDL.out; omega]
          exact hown'
      · have h2 : 0 < cy := by omega
        clear hgo
        go_wp2_with (first
          | (go_at_call 50; refine HDk.out.mono ?_; rintro e w4 ⟨rfl, hw⟩; subst hw)
          | (at_builtin; refine wpList_append_own _ rfl _ _ 32 rfl w.heap.size 3 i0 (.int .i64 0) 1 8 Try.underlying32 hi hz0 hz1 hz2 rfl (by decide) _ _ _ rfl (hown.alloc _) ⟨w4.heap.size, 0, none⟩ 1 1 [.int .i64 ((wrap64 (wrap64 ((x : Int) * 2 ^ (m % 16)) + (cy : Int))).tmod 65536)] rfl rfl (cell_one_new _ _ _) (fun x hx => by simp at hx; subst hx; rfl) (by unfold maxLen; omega) (by omega) (by simp; omega) ?_; intro v' w3 hown' hgrow3 hnil3))
        refine ⟨⟨k + 1, (p + cy) / 65536, by omega, ?_, congrArg (Value.int .i64) ?_, congrArg (Value.int .i64) (by omega), ?_, (hbel.alloc hsz _).grown hgrow3 (by simp; omega) (fun j hj => (hown.lt j hj).1)⟩, by simp [intOf] <;> omega⟩
        · have := HST.out; have := HDL.out; omega
        · rw [HWR.out, Int.tdiv_eq_ediv_of_nonneg (by omega), wrap_id (by omega) (by omega)]; omega
        · rw [← Nat.add_assoc, dcells_succ, HUP.out, show ((dgt 65536 V k : Nat) : Int) = (wrap64 (wrap64 ((x : Int) * 2 ^ (m % 16)) + (cy : Int))).tmod 65536 by
            rw [HWR.out, Int.tmod_eq_emod_of_nonneg (by omega)]; have := HST.out; have := HDL.out; omega]
          exact hown'
    · have h1 : ¬ k < n := by omega
      obtain rfl : cy = 0 := by omega
      have hvk := Nat.lt_of_lt_of_le HV.out (Nat.pow_le_pow_right (by omega) (by omega : n ≤ k))
      have hdone := sh_done hvk HCY.out
      rw [HVV.out] at hdone
      have HDone := Lib.hid (show V * 65536 ^ q < 65536 ^ (q + k) by rw [Nat.add_comm, Nat.pow_add]; exact Nat.mul_lt_mul_of_pos_right hdone (Nat.pow_pos (by omega)))
      clear hgo hvk hdone
      go_wp2_with fail
      refine (trim_any _ (q + k) _ wr (digN_owns hown HDone.out)).mono ?_
      rintro e w2 ⟨s', rfl, hR, rfl⟩
      go_wp2_with fail
      go_ret
      exact ⟨_, rfl, hR, hbel⟩
end Go.Proofs.Ytkegdjndmeialaa
