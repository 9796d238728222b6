/- Sums and differences of residues; the number 1. -/
import Derived.Test.YtlmfiggmjpjpiaaMK
import Derived.Test.YtlmfiggmjpjpiaaF0
import Derived.Test.YtlmfiggmjpjpiaaC3
import Derived.Test.YtlmfiggmjpjpiaaC9
namespace Go.Proofs.Ytlmfiggmjpjpiaa
open Go.RowKit

/-- Four blocks of numbers: a modulus, two numbers, a result. -/
theorem four (w : World) (m a b : Nat) : ∃ W, (((w.alloc (.cells (natA m) 58)).alloc (.cells (natA a) 28)).alloc (.cells (natA b) 28)).alloc (.cells (natA 0) 28) = W ∧ Below w.heap.size w W ∧ rowN W w.heap.size = some (natA m) ∧ rowN W (w.heap.size + 1) = some (natA a) ∧
    rowN W (w.heap.size + 1 + 1) = some (natA b) ∧ rowN W (w.heap.size + 1 + 1 + 1) = some (natA 0) ∧ W.heap.size = w.heap.size + 1 + 1 + 1 + 1 := by
  refine ⟨_, rfl, ((((Below.refl _ w).alloc (Nat.le_refl _) _).alloc (by simp) _).alloc (by simp <;> omega) _).alloc (by simp <;> omega) _, ?_, ?_, ?_, ?_, ?_⟩
  · simp only [rowN_alloc, World.size_alloc, if_true]; (repeat rw [if_neg (by omega)])
  · simp only [rowN_alloc, World.size_alloc, if_true]; (repeat rw [if_neg (by omega)])
  · simp only [rowN_alloc, World.size_alloc, if_true]; (repeat rw [if_neg (by omega)])
  · simp only [rowN_alloc, World.size_alloc, if_true]
  · simp

set_option maxRecDepth 100000 in
set_option maxHeartbeats 400000 in
theorem plus_ge (m a b : Nat) (hm : m < P64 ^ 16) (ha : a < m) (hb : b < m) (hge : m - b ≤ a) (w : World) : Calls Try.prog 38 #[.agg (natA m), .agg (natA a), .agg (natA b)] w fun e w' => e = .returned (.agg (natA (a + b - m))) ∧ Below w.heap.size w w' := by
  have HS1 := Lib.hid (fun W => sub_fits m b hm (Nat.lt_trans hb hm) (Nat.le_of_lt hb) W)
  have HS2 := Lib.hid (fun W => sub_fits a (m - b) (Nat.lt_trans ha hm) (Nat.lt_of_le_of_lt (Nat.sub_le _ _) hm) hge W)
  have HC := Lib.hid (fun W => compare_any a (m - b) (Nat.lt_trans ha hm) (Nat.lt_of_le_of_lt (Nat.sub_le _ _) hm) W)
  obtain ⟨c, hc⟩ : ∃ c, cmpN a (m - b) = c := ⟨_, rfl⟩
  have hc0 : 0 ≤ c := by rw [← hc]; unfold cmpN; rw [if_neg (by omega)]; split <;> omega
  have e : a - (m - b) = a + b - m := by omega
  rw [hc] at HC
  rw [e] at HS2
  clear hc e hm ha hge
  generalize a + b - m = r at *
  generalize m - b = gap at *
  have HF := Lib.hid (four w m a b)
  go_enter Try.func38, Try.ntmps38
  go_wp2_with fail
  refine (HS1.out _).mono ?_
  rintro e w1 ⟨rfl, hb⟩
  obtain ⟨W0, hW, hB0, h1, h2, h3, h4, h5⟩ := HF.out
  rw [hW] at hb
  have HB0 := Lib.hid hB0
  clear hB0 hW HF h5
  replace h1 := kept hb _ _ h1
  replace h2 := kept hb _ _ h2
  replace h3 := kept hb _ _ h3
  replace h4 := kept hb _ _ h4
  have HB1 := Lib.hid (HB0.out.trans (hb.mono HB0.out.size))
  have l4 := rowN_lt h4
  clear hb HB0 HS1
  go_wp2_with fail
  refine (HC.out _).mono ?_
  rintro e w2 ⟨rfl, hb⟩
  obtain ⟨h7, hk, hBel⟩ := stored hb
  replace h1 := hk _ _ h1
  replace h2 := hk _ _ h2
  replace h3 := hk _ _ h3
  replace h4 := hk _ _ h4
  have HB2 := Lib.hid (HB1.out.trans (hBel.mono HB1.out.size))
  clear hb hk hBel
  generalize w1.heap.size = g7 at *
  go_wp2_with fail
  refine (HS2.out _).mono ?_
  rintro e w3 ⟨rfl, hb⟩
  replace h2 := kept hb _ _ h2
  replace h4 := kept hb _ _ h4
  have HB3 := Lib.hid (HB2.out.trans (hb.mono HB2.out.size))
  clear hb
  go_wp2_with fail
  exact ret_nat _ (natA r) rfl rfl rfl (by rw [rowN_setRow, if_pos rfl, rowN_setRow, if_neg (by omega), h4]; rfl) (natA_size _) ⟨rfl, below_setRow' (below_setRow' HB3.out (by omega) _) (by omega) _⟩
set_option maxRecDepth 100000 in
set_option maxHeartbeats 400000 in
theorem plus_lt (m a b : Nat) (hm : m < P64 ^ 16) (ha : a < m) (hb : b < m) (hlt : a < m - b) (w : World) : Calls Try.prog 38 #[.agg (natA m), .agg (natA a), .agg (natA b)] w fun e w' => e = .returned (.agg (natA (a + b))) ∧ Below w.heap.size w w' := by
  have HS1 := Lib.hid (fun W => sub_fits m b hm (Nat.lt_trans hb hm) (Nat.le_of_lt hb) W)
  have HS2 := Lib.hid (fun W => add_fits a b (Nat.lt_trans ha hm) (Nat.lt_trans hb hm) (by omega) W)
  have HC := Lib.hid (fun W => compare_any a (m - b) (Nat.lt_trans ha hm) (Nat.lt_of_le_of_lt (Nat.sub_le _ _) hm) W)
  obtain ⟨c, hc⟩ : ∃ c, cmpN a (m - b) = c := ⟨_, rfl⟩
  have hc0 : c < 0 := by rw [← hc]; unfold cmpN; rw [if_pos hlt]; omega
  rw [hc] at HC
  clear hc hm ha hlt
  generalize a + b = r at *
  generalize m - b = gap at *
  have HF := Lib.hid (four w m a b)
  go_enter Try.func38, Try.ntmps38
  go_wp2_with fail
  refine (HS1.out _).mono ?_
  rintro e w1 ⟨rfl, hb⟩
  obtain ⟨W0, hW, hB0, h1, h2, h3, h4, h5⟩ := HF.out
  rw [hW] at hb
  have HB0 := Lib.hid hB0
  clear hB0 hW HF h5
  replace h1 := kept hb _ _ h1
  replace h2 := kept hb _ _ h2
  replace h3 := kept hb _ _ h3
  replace h4 := kept hb _ _ h4
  have HB1 := Lib.hid (HB0.out.trans (hb.mono HB0.out.size))
  have l4 := rowN_lt h4
  clear hb HB0 HS1
  go_wp2_with fail
  refine (HC.out _).mono ?_
  rintro e w2 ⟨rfl, hb⟩
  obtain ⟨h7, hk, hBel⟩ := stored hb
  replace h1 := hk _ _ h1
  replace h2 := hk _ _ h2
  replace h3 := hk _ _ h3
  replace h4 := hk _ _ h4
  have HB2 := Lib.hid (HB1.out.trans (hBel.mono HB1.out.size))
  clear hb hk hBel
  generalize w1.heap.size = g7 at *
  go_wp2_with fail
  refine (HS2.out _).mono ?_
  rintro e w3 ⟨rfl, hb⟩
  replace h2 := kept hb _ _ h2
  replace h4 := kept hb _ _ h4
  have HB3 := Lib.hid (HB2.out.trans (hb.mono HB2.out.size))
  clear hb
  go_wp2_with fail
  exact ret_nat _ (natA r) rfl rfl rfl (by rw [rowN_setRow, if_pos rfl, rowN_setRow, if_neg (by omega), h4]; rfl) (natA_size _) ⟨rfl, below_setRow' (below_setRow' HB3.out (by omega) _) (by omega) _⟩

theorem plus_any (m a b : Nat) (hm : m < P64 ^ 16) (ha : a < m) (hb : b < m) (w : World) : Calls Try.prog 38 #[.agg (natA m), .agg (natA a), .agg (natA b)] w fun e w' => e = .returned (.agg (natA ((a + b) % m))) ∧ Below w.heap.size w w' := by
  by_cases h : m - b ≤ a
  · have e : (a + b) % m = a + b - m := by rw [Nat.mod_eq_sub_mod (by omega), Nat.mod_eq_of_lt (by omega)]
    rw [e]
    exact plus_ge m a b hm ha hb h w
  · rw [Nat.mod_eq_of_lt (show a + b < m by omega)]
    exact plus_lt m a b hm ha hb (by omega) w

set_option maxRecDepth 100000 in
set_option maxHeartbeats 400000 in
theorem minus_ge (m a b : Nat) (hm : m < P64 ^ 16) (ha : a < m) (hle : b ≤ a) (w : World) : Calls Try.prog 39 #[.agg (natA m), .agg (natA a), .agg (natA b)] w fun e w' => e = .returned (.agg (natA (a - b))) ∧ Below w.heap.size w w' := by
  have HS1 := Lib.hid (fun W => sub_fits a b (Nat.lt_trans ha hm) (by omega) hle W)
  clear hm ha hle
  generalize a - b = r at *
  have HF := Lib.hid (four w m a b)
  go_enter Try.func39, Try.ntmps39
  go_wp2_with fail
  refine (HS1.out _).mono ?_
  rintro e w1 ⟨rfl, hb⟩
  obtain ⟨W0, hW, hB0, h1, h2, h3, h4, h5⟩ := HF.out
  rw [hW] at hb
  have HB0 := Lib.hid hB0
  clear hB0 hW HF h5
  replace h4 := kept hb _ _ h4
  have HB1 := Lib.hid (HB0.out.trans (hb.mono HB0.out.size))
  have l4 := rowN_lt h4
  clear hb HB0 HS1 h1 h2 h3
  go_wp2_with fail
  have hb2 : Below w1.heap.size w1 ((w1.alloc (.cells (natA 0) 28)).setRow w1.heap.size (natA r)) := below_setRow' ((Below.refl _ w1).alloc (Nat.le_refl _) _) (Nat.le_refl _) _
  exact ret_nat _ (natA r) rfl rfl rfl (by rw [rowN_setRow, if_pos rfl, brow hb2 _ l4, h4]; rfl) (natA_size _) ⟨rfl, below_setRow' (HB1.out.trans (hb2.mono HB1.out.size)) (by omega) _⟩

set_option maxRecDepth 100000 in
set_option maxHeartbeats 400000 in
theorem minus_lt (m a b : Nat) (hm : m < P64 ^ 16) (ha : a < m) (hb : b < m) (hlt : a < b) (w : World) : Calls Try.prog 39 #[.agg (natA m), .agg (natA a), .agg (natA b)] w fun e w' => e = .returned (.agg (natA (a + (m - b)))) ∧ Below w.heap.size w w' := by
  have HS1 := Lib.hid (fun W => sub_less a b (Nat.lt_trans ha hm) (Nat.lt_trans hb hm) hlt W)
  have HS2 := Lib.hid (fun W => sub_fits m b hm (Nat.lt_trans hb hm) (Nat.le_of_lt hb) W)
  have HS3 := Lib.hid (fun W => add_fits a (m - b) (Nat.lt_trans ha hm) (Nat.lt_of_le_of_lt (Nat.sub_le _ _) hm) (by omega) W)
  clear hm ha hb hlt
  generalize a + (m - b) = r at *
  generalize m - b = gap at *
  have HF := Lib.hid (four w m a b)
  go_enter Try.func39, Try.ntmps39
  go_wp2_with fail
  refine (HS1.out _).mono ?_
  rintro e w1 ⟨rfl, hb⟩
  obtain ⟨W0, hW, hB0, h1, h2, h3, h4, h5⟩ := HF.out
  rw [hW] at hb
  have HB0 := Lib.hid hB0
  clear hB0 hW HF h5
  replace h1 := kept hb _ _ h1
  replace h2 := kept hb _ _ h2
  replace h3 := kept hb _ _ h3
  replace h4 := kept hb _ _ h4
  have HB1 := Lib.hid (HB0.out.trans (hb.mono HB0.out.size))
  have l4 := rowN_lt h4
  clear hb HB0 HS1
  go_wp2_with fail
  refine (HS2.out _).mono ?_
  rintro e w2 ⟨rfl, hb⟩
  obtain ⟨h7, hk, hBel⟩ := stored hb
  replace h2 := hk _ _ h2
  replace h4 := hk _ _ h4
  have HB2 := Lib.hid (HB1.out.trans (hBel.mono HB1.out.size))
  have l7 := rowN_lt h7
  clear hb hk hBel h1 h3
  generalize w1.heap.size = g7 at *
  go_wp2_with fail
  refine (HS3.out _).mono ?_
  rintro e w3 ⟨rfl, hb⟩
  obtain ⟨h9, hk, hBel⟩ := stored hb
  replace h4 := hk _ _ h4
  replace h7 := hk _ _ h7
  have HB3 := Lib.hid (HB2.out.trans (hBel.mono HB2.out.size))
  clear hb hk hBel h2
  go_wp2_with fail
  exact ret_nat _ (natA r) rfl rfl rfl (by rw [rowN_setRow, if_pos rfl, rowN_setRow, if_neg (by omega), h4]; rfl) (natA_size _) ⟨rfl, below_setRow' (below_setRow' HB3.out (by omega) _) (by omega) _⟩

theorem minus_any (m a b : Nat) (hm : m < P64 ^ 16) (ha : a < m) (hb : b < m) (w : World) : Calls Try.prog 39 #[.agg (natA m), .agg (natA a), .agg (natA b)] w fun e w' => e = .returned (.agg (natA ((a + (m - b)) % m))) ∧ Below w.heap.size w w' := by
  by_cases h : b ≤ a
  · have e : (a + (m - b)) % m = a - b := by
      rw [show a + (m - b) = (a - b) + m by omega, Nat.add_mod_right, Nat.mod_eq_of_lt (by omega)]
    rw [e]
    exact minus_ge m a b hm ha h w
  · rw [Nat.mod_eq_of_lt (show a + (m - b) < m by omega)]
    exact minus_lt m a b hm ha hb (by omega) w

set_option maxRecDepth 100000 in
theorem one_any (w : World) : Calls Try.prog 68 #[] w fun e w' => e = .returned (.agg (natA 1)) ∧ Below w.heap.size w w' := by
  have HI := Lib.hid (fun W => known_int 1 1 rfl (by omega) W)
  go_enter Try.func68, Try.ntmps68
  go_wp2_with fail
  have hb0 : Below w.heap.size w (w.alloc (.cells (natA 0) 28)) := (Below.refl _ w).alloc (Nat.le_refl _) _
  refine (HI.out _).mono ?_
  rintro e w1 ⟨rfl, hb⟩
  have h0 := kept hb w.heap.size (natA 0) (by rw [rowN_alloc, if_pos rfl])
  have l0 := rowN_lt h0
  have HB := Lib.hid (hb0.trans (hb.mono hb0.size))
  clear hb hb0
  go_wp2_with fail
  have hb2 : Below w1.heap.size w1 ((w1.alloc (.cells (natA 0) 28)).setRow w1.heap.size (natA 1)) := below_setRow' ((Below.refl _ w1).alloc (Nat.le_refl _) _) (Nat.le_refl _) _
  exact ret_nat _ (natA 1) rfl rfl rfl (by rw [rowN_setRow, if_pos rfl, brow hb2 _ l0, h0]; rfl) (natA_size _) ⟨rfl, below_setRow' (HB.out.trans (hb2.mono HB.out.size)) (by omega) _⟩
end Go.Proofs.Ytlmfiggmjpjpiaa
