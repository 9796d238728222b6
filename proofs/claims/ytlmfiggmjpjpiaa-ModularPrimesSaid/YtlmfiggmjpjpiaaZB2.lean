/- Operations on residues. Residues, sums, differences, products and powers modulo a number. -/
import Derived.Test.YtlmfiggmjpjpiaaZB
import Derived.Test.YtlmfiggmjpjpiaaZA
namespace Go.Proofs.Ytlmfiggmjpjpiaa
open Go.RowKit

def pairMake (x y : Value) : Sem Next := do pure (.value (← Instr.buildSlice 80 2 #[(0, x), (1, y)]))
theorem execOp_pair80 (ρ : Operand → Value) (dst : Option Tmp) (x y : Operand) (ty : TypeId) (pos : String) (after : Array Edge) (guard : Option (Nat × Bool)) :
    execOp ρ { dst, op := .buildSlice 80 2 #[(0, x), (1, y)], type := ty, pos, after, guard } = pairMake (ρ x) (ρ y) := by simp [execOp, pairMake]
theorem run_pairMake (W : World) (a b : Nat) : (pairMake (.agg (natA a)) (.agg (natA b))).run Try.prog W = .ok (.value (.slice (some ⟨W.heap.size, 0, none⟩) 2 2)) (W.alloc (.cells (pairA a b) 28)) := by
  simp [pairMake, run_pair]
attribute [local go_sem ↓] execOp_pair80
attribute [local go_sem] run_pairMake

theorem storedT {u w' : World} {x : Nat} {ty : TypeId} (hb : Below ((u.alloc (.cells (natA 0) ty)).setRow u.heap.size (natA x)).heap.size ((u.alloc (.cells (natA 0) ty)).setRow u.heap.size (natA x)) w') :
    rowN w' u.heap.size = some (natA x) ∧ (∀ g cs, rowN u g = some cs → rowN w' g = some cs) ∧ Below u.heap.size u w' := by
  have hr := brow hb
  have hsz : ((u.alloc (.cells (natA 0) ty)).setRow u.heap.size (natA x)).heap.size = u.heap.size + 1 := by simp [World.setRow]
  refine ⟨?_, fun g cs h => ?_, ?_⟩
  · rw [hr _ (by omega), rowN_setRow, if_pos rfl, rowN_alloc, if_pos rfl]; rfl
  · have hl := rowN_lt h
    rw [hr _ (by omega), rowN_setRow, if_neg (by omega), rowN_alloc, if_neg (by omega)]; exact h
  · exact (below_setRow' ((Below.refl _ u).alloc (Nat.le_refl _) _) (Nat.le_refl _) _).trans (hb.mono (by omega))
theorem storedT0 (u : World) (x : Nat) (ty : TypeId) : rowN ((u.alloc (.cells (natA 0) ty)).setRow u.heap.size (natA x)) u.heap.size = some (natA x) ∧ (∀ g cs, rowN u g = some cs → rowN ((u.alloc (.cells (natA 0) ty)).setRow u.heap.size (natA x)) g = some cs) ∧ Below u.heap.size u ((u.alloc (.cells (natA 0) ty)).setRow u.heap.size (natA x)) :=
  storedT (Below.refl _ _)
theorem fourT (w : World) (ty : TypeId) (m a b : Nat) : ∃ W, (((w.alloc (.cells (natA m) ty)).alloc (.cells (natA a) 28)).alloc (.cells (natA b) 28)).alloc (.cells (natA 0) 28) = W ∧ Below w.heap.size w W ∧ rowN W w.heap.size = some (natA m) ∧ rowN W (w.heap.size + 1) = some (natA a) ∧
    rowN W (w.heap.size + 1 + 1) = some (natA b) ∧ rowN W (w.heap.size + 1 + 1 + 1) = some (natA 0) := by
  refine ⟨_, rfl, ((((Below.refl _ w).alloc (Nat.le_refl _) _).alloc (by simp) _).alloc (by simp <;> omega) _).alloc (by simp <;> omega) _, ?_, ?_, ?_, ?_⟩
  · simp only [rowN_alloc, World.size_alloc, if_true]; (repeat rw [if_neg (by omega)])
  · simp only [rowN_alloc, World.size_alloc, if_true]; (repeat rw [if_neg (by omega)])
  · simp only [rowN_alloc, World.size_alloc, if_true]; (repeat rw [if_neg (by omega)])
  · simp only [rowN_alloc, World.size_alloc, if_true]

set_option maxRecDepth 100000 in
set_option maxHeartbeats 400000 in
theorem calc_zero (f : Value) (hf : ∃ F, f = .func (.func F) #[] #[]) (a b : Nat) (w : World) : Calls Try.prog 37 #[f, .agg (natA a), .agg (natA b), .agg (natA 0)] w fun e w' => e = .returned (.tuple #[.agg (natA 0), .int .i64 2]) ∧ Below w.heap.size w w' := by
  obtain ⟨F, rfl⟩ := hf
  have HN := Lib.hid (fun W => newMod_zero W)
  have HF := Lib.hid (fourT w 28 a b 0)
  go_enter Try.func37, Try.ntmps37
  go_wp2_with fail
  refine (HN.out _).mono ?_
  rintro e w1 ⟨rfl, hb⟩
  obtain ⟨W0, hW, hB0, h1, h2, h3, h4⟩ := HF.out
  rw [hW] at hb
  have HB0 := Lib.hid hB0
  clear hB0 hW HF
  replace h4 := kept hb _ _ h4
  have HB1 := Lib.hid (HB0.out.trans (hb.mono HB0.out.size))
  have l4 := rowN_lt h4
  clear hb HB0 h1 h2 h3
  obtain ⟨k1, k2, k3⟩ := storedT0 w1 0 58
  have K4 := Lib.hid (k2 _ _ h4)
  have K3 := Lib.hid k3
  clear k1 k2 k3
  go_wp2_with fail
  exact ret_nat_tmp _ (natA 0) rfl rfl rfl (row_new K4.out) (natA_size _) ⟨rfl, below_setRow' (HB1.out.trans (K3.out.mono HB1.out.size)) (by omega) _⟩

set_option maxRecDepth 100000 in
set_option maxHeartbeats 1000000 in
theorem calc_pos (K m : Nat) (op : Nat → Nat → Nat) (hJn : Joins K m op) (a b : Nat) (hm : m < P64 ^ 16) (h0 : 0 < m) (ha : a < P64 ^ 16) (hb : b < P64 ^ 16) (w : World) :
    Calls Try.prog 37 #[.func (.func K) #[] #[], .agg (natA a), .agg (natA b), .agg (natA m)] w fun e w' => e = .returned (.tuple #[.agg (natA (op (a % m) (b % m))), .int .i64 0]) ∧ Below w.heap.size w w' := by
  have hE := hJn.enter
  have HN := Lib.hid (fun W => newMod_pos m hm (by omega) W)
  have HRS := Lib.hid (fun g W hg => residues_any m a b hm h0 ha hb g W hg)
  have HJ := Lib.hid (fun W => hJn.call (a % m) (b % m) W (Nat.mod_lt _ h0) (Nat.mod_lt _ h0))
  have HF := Lib.hid (fourT w 28 a b m)
  clear hJn hm h0 ha hb
  generalize op (a % m) (b % m) = r at *
  generalize a % m = ra at *
  generalize b % m = rb at *
  go_enter Try.func37, Try.ntmps37
  go_wp2_with fail
  refine (HN.out _).mono ?_
  rintro e w1 ⟨rfl, hb⟩
  obtain ⟨W0, hW, hB0, h1, h2, h3, h4⟩ := HF.out
  rw [hW] at hb
  have HB0 := Lib.hid hB0
  clear hB0 hW HF
  replace h1 := kept hb _ _ h1
  replace h2 := kept hb _ _ h2
  replace h4 := kept hb _ _ h4
  have HB1 := Lib.hid (HB0.out.trans (hb.mono HB0.out.size))
  have l4 := rowN_lt h4
  clear hb HB0 h3
  obtain ⟨k1, k2, k3⟩ := storedT0 w1 m 58
  have K1 := Lib.hid (k2 _ _ h1)
  have K2 := Lib.hid (k2 _ _ h2)
  have K4 := Lib.hid (k2 _ _ h4)
  have K10 := Lib.hid k1
  have K3 := Lib.hid (HB1.out.trans (k3.mono HB1.out.size))
  clear k1 k2 k3
  have hP : rowN (((w1.alloc (.cells (natA 0) 58)).setRow w1.heap.size (natA m)).alloc (.cells (pairA a b) 28)) (w1.heap.size + 1) = some (pairA a b) := by rw [rowN_alloc, if_pos (by simp [World.setRow])]
  have hbP : Below ((w1.alloc (.cells (natA 0) 58)).setRow w1.heap.size (natA m)).heap.size ((w1.alloc (.cells (natA 0) 58)).setRow w1.heap.size (natA m)) (((w1.alloc (.cells (natA 0) 58)).setRow w1.heap.size (natA m)).alloc (.cells (pairA a b) 28)) := (Below.refl _ _).alloc (Nat.le_refl _) _
  have HP := Lib.hid hP
  have HBP := Lib.hid hbP
  clear hP hbP
  go_wp2_with fail
  refine (HRS.out (w1.heap.size + 1) _ HP.out).mono ?_
  rintro e w2 ⟨g', rfl, hg', hb⟩
  have hbb := HBP.out.trans (hb.mono HBP.out.size)
  have e4 := kept hbb _ _ K4.out
  have e10 := kept hbb _ _ K10.out
  have HB2 := Lib.hid (K3.out.trans (hbb.mono K3.out.size))
  have l10 := rowN_lt h4
  clear hb hbb h1 h2 h4
  generalize w1.heap.size = g10 at *
  go_wp2_with fail
  have d4 : rowN w2.drew (w.heap.size + 1 + 1 + 1) = some (natA 0) := e4
  have d10 : rowN w2.drew g10 = some (natA m) := e10
  have dg : rowN w2.drew g' = some (pairA ra rb) := hg'
  have HD := Lib.hid HB2.out.drew
  have hne : g' ≠ w.heap.size + 1 + 1 + 1 := by
    rintro rfl
    rw [hg'] at e4
    have := congrArg (Option.map Array.size) e4
    simp [pairA_size, natA_size] at this
  clear e4 e10 hg'
  go_region_held3 (fun W => rowN W g10 = some (natA m) ∧ rowN W g' = some (pairA ra rb) ∧ rowLoad 28 W g' (some (pairA ra rb)) = .ok (.agg (natA ra)) W ∧ (natLoad 28 (.pointer (some ⟨g', 16, none⟩))).run Try.prog W = .ok (.value (.agg (natA rb))) W) (first | exact ⟨d10, dg, rowLoad_fst dg, load_snd dg⟩ | exact ⟨row_other d10 (by omega), row_other dg hne, rowLoad_fst (row_other dg hne), load_snd (row_other dg hne)⟩) (first
    | (refine (HJ.out _).mono ?_; rintro e x1 ⟨rfl, hb⟩; replace d4 := kept hb _ _ d4; replace d10 := kept hb _ _ d10; replace dg := kept hb _ _ dg; replace HD := Lib.hid (HD.out.trans (hb.mono HD.out.size)); clear hb))
  all_goals
    go_wp2_with fail
    exact ret_nat_tmp _ (natA r) rfl rfl rfl (row_new d4) (natA_size _) ⟨rfl, below_setRow' HD.out (by omega) _⟩
end Go.Proofs.Ytlmfiggmjpjpiaa

namespace Go.Proofs.Ytlmfiggmjpjpiaa
open Go.RowKit

theorem minus_joins (m : Nat) (hm : m < P64 ^ 16) : Joins 39 m (fun a b => (a + (m - b)) % m) :=
  ⟨fun args w => by kernel_rfl, fun a b ha _ => Nat.mod_lt _ (by omega), fun a b W ha hb => minus_any m a b hm ha hb W⟩
theorem tm_mod (m a b : Nat) : tm m (a % m) (b % m) = tm m a b := by rw [tm_eq, tm_eq, ← Nat.mul_mod]
theorem pm_mod (m b k : Nat) : pm m (b % m) k = pm m b k := by rw [pm_eq, pm_eq, ← Nat.pow_mod]
theorem threeT (w : World) (a b : Nat) : ∃ W, ((w.alloc (.cells (natA a) 28)).alloc (.cells (natA b) 28)).alloc (.cells (natA 0) 28) = W ∧ Below w.heap.size w W ∧ rowN W w.heap.size = some (natA a) ∧ rowN W (w.heap.size + 1) = some (natA b) ∧ rowN W (w.heap.size + 1 + 1) = some (natA 0) := by
  refine ⟨_, rfl, (((Below.refl _ w).alloc (Nat.le_refl _) _).alloc (by simp) _).alloc (by simp <;> omega) _, ?_, ?_, ?_⟩
  · simp only [rowN_alloc, World.size_alloc, if_true]; (repeat rw [if_neg (by omega)])
  · simp only [rowN_alloc, World.size_alloc, if_true]; (repeat rw [if_neg (by omega)])
  · simp only [rowN_alloc, World.size_alloc, if_true]

set_option maxRecDepth 100000 in
set_option maxHeartbeats 400000 in
theorem mod_add_zero (a b : Nat) (w : World) : Calls Try.prog 13 #[.agg (natA a), .agg (natA b), .agg (natA 0)] w fun e w' => e = .returned (.tuple #[.agg (natA 0), .int .i64 2]) ∧ Below w.heap.size w w' := by
  have HC := Lib.hid (fun W => calc_zero (.func (.func 38) #[] #[]) ⟨_, rfl⟩ a b W)
  have HF := Lib.hid (fourT w 28 a b 0)
  go_enter Try.func13, Try.ntmps13
  go_wp2_with fail
  refine (HC.out _).mono ?_
  rintro e w1 ⟨rfl, hb⟩
  obtain ⟨W0, hW, hB0, h1, h2, h3, h4⟩ := HF.out
  rw [hW] at hb
  have HB0 := Lib.hid hB0
  clear hB0 hW HF
  replace h4 := kept hb _ _ h4
  have HB1 := Lib.hid (HB0.out.trans (hb.mono HB0.out.size))
  clear hb HB0 h1 h2 h3
  go_wp2_with fail
  exact ret_nat_tmp _ (natA 0) rfl rfl rfl (row_new h4) (natA_size _) ⟨rfl, below_setRow' HB1.out (by omega) _⟩

set_option maxRecDepth 100000 in
set_option maxHeartbeats 400000 in
theorem mod_add_pos (m a b r : Nat) (hm : m < P64 ^ 16) (h0 : 0 < m) (ha : a < P64 ^ 16) (hb : b < P64 ^ 16) (hr : (a % m + b % m) % m = r) (w : World) : Calls Try.prog 13 #[.agg (natA a), .agg (natA b), .agg (natA m)] w fun e w' => e = .returned (.tuple #[.agg (natA r), .int .i64 0]) ∧ Below w.heap.size w w' := by
  have HC := Lib.hid (fun W => calc_pos 38 m _ (plus_joins m hm) a b hm h0 ha hb W)
  rw [hr] at HC
  have HF := Lib.hid (fourT w 28 a b m)
  clear hm h0 ha hb hr
  go_enter Try.func13, Try.ntmps13
  go_wp2_with fail
  refine (HC.out _).mono ?_
  rintro e w1 ⟨rfl, hb⟩
  obtain ⟨W0, hW, hB0, h1, h2, h3, h4⟩ := HF.out
  rw [hW] at hb
  have HB0 := Lib.hid hB0
  clear hB0 hW HF
  replace h4 := kept hb _ _ h4
  have HB1 := Lib.hid (HB0.out.trans (hb.mono HB0.out.size))
  clear hb HB0 h1 h2 h3
  go_wp2_with fail
  exact ret_nat_tmp _ (natA r) rfl rfl rfl (row_new h4) (natA_size _) ⟨rfl, below_setRow' HB1.out (by omega) _⟩

set_option maxRecDepth 100000 in
set_option maxHeartbeats 400000 in
theorem mod_sub_zero (a b : Nat) (w : World) : Calls Try.prog 14 #[.agg (natA a), .agg (natA b), .agg (natA 0)] w fun e w' => e = .returned (.tuple #[.agg (natA 0), .int .i64 2]) ∧ Below w.heap.size w w' := by
  have HC := Lib.hid (fun W => calc_zero (.func (.func 39) #[] #[]) ⟨_, rfl⟩ a b W)
  have HF := Lib.hid (fourT w 28 a b 0)
  go_enter Try.func14, Try.ntmps14
  go_wp2_with fail
  refine (HC.out _).mono ?_
  rintro e w1 ⟨rfl, hb⟩
  obtain ⟨W0, hW, hB0, h1, h2, h3, h4⟩ := HF.out
  rw [hW] at hb
  have HB0 := Lib.hid hB0
  clear hB0 hW HF
  replace h4 := kept hb _ _ h4
  have HB1 := Lib.hid (HB0.out.trans (hb.mono HB0.out.size))
  clear hb HB0 h1 h2 h3
  go_wp2_with fail
  exact ret_nat_tmp _ (natA 0) rfl rfl rfl (row_new h4) (natA_size _) ⟨rfl, below_setRow' HB1.out (by omega) _⟩

set_option maxRecDepth 100000 in
set_option maxHeartbeats 400000 in
theorem mod_sub_pos (m a b r : Nat) (hm : m < P64 ^ 16) (h0 : 0 < m) (ha : a < P64 ^ 16) (hb : b < P64 ^ 16) (hr : (a % m + (m - b % m)) % m = r) (w : World) : Calls Try.prog 14 #[.agg (natA a), .agg (natA b), .agg (natA m)] w fun e w' => e = .returned (.tuple #[.agg (natA r), .int .i64 0]) ∧ Below w.heap.size w w' := by
  have HC := Lib.hid (fun W => calc_pos 39 m _ (minus_joins m hm) a b hm h0 ha hb W)
  rw [hr] at HC
  have HF := Lib.hid (fourT w 28 a b m)
  clear hm h0 ha hb hr
  go_enter Try.func14, Try.ntmps14
  go_wp2_with fail
  refine (HC.out _).mono ?_
  rintro e w1 ⟨rfl, hb⟩
  obtain ⟨W0, hW, hB0, h1, h2, h3, h4⟩ := HF.out
  rw [hW] at hb
  have HB0 := Lib.hid hB0
  clear hB0 hW HF
  replace h4 := kept hb _ _ h4
  have HB1 := Lib.hid (HB0.out.trans (hb.mono HB0.out.size))
  clear hb HB0 h1 h2 h3
  go_wp2_with fail
  exact ret_nat_tmp _ (natA r) rfl rfl rfl (row_new h4) (natA_size _) ⟨rfl, below_setRow' HB1.out (by omega) _⟩

set_option maxRecDepth 100000 in
set_option maxHeartbeats 400000 in
theorem mod_mul_zero (a b : Nat) (w : World) : Calls Try.prog 21 #[.agg (natA a), .agg (natA b), .agg (natA 0)] w fun e w' => e = .returned (.tuple #[.agg (natA 0), .int .i64 2]) ∧ Below w.heap.size w w' := by
  have HC := Lib.hid (fun W => calc_zero (.func (.func 46) #[] #[]) ⟨_, rfl⟩ a b W)
  have HF := Lib.hid (fourT w 28 a b 0)
  go_enter Try.func21, Try.ntmps21
  go_wp2_with fail
  refine (HC.out _).mono ?_
  rintro e w1 ⟨rfl, hb⟩
  obtain ⟨W0, hW, hB0, h1, h2, h3, h4⟩ := HF.out
  rw [hW] at hb
  have HB0 := Lib.hid hB0
  clear hB0 hW HF
  replace h4 := kept hb _ _ h4
  have HB1 := Lib.hid (HB0.out.trans (hb.mono HB0.out.size))
  clear hb HB0 h1 h2 h3
  go_wp2_with fail
  exact ret_nat_tmp _ (natA 0) rfl rfl rfl (row_new h4) (natA_size _) ⟨rfl, below_setRow' HB1.out (by omega) _⟩

set_option maxRecDepth 100000 in
set_option maxHeartbeats 400000 in
theorem mod_mul_pos (m a b r : Nat) (hm : m < P64 ^ 16) (h0 : 0 < m) (ha : a < P64 ^ 16) (hb : b < P64 ^ 16) (hr : tm m (a % m) (b % m) = r) (w : World) : Calls Try.prog 21 #[.agg (natA a), .agg (natA b), .agg (natA m)] w fun e w' => e = .returned (.tuple #[.agg (natA r), .int .i64 0]) ∧ Below w.heap.size w w' := by
  have HC := Lib.hid (fun W => calc_pos 46 m _ (times_joins m hm h0) a b hm h0 ha hb W)
  rw [hr] at HC
  have HF := Lib.hid (fourT w 28 a b m)
  clear hm h0 ha hb hr
  go_enter Try.func21, Try.ntmps21
  go_wp2_with fail
  refine (HC.out _).mono ?_
  rintro e w1 ⟨rfl, hb⟩
  obtain ⟨W0, hW, hB0, h1, h2, h3, h4⟩ := HF.out
  rw [hW] at hb
  have HB0 := Lib.hid hB0
  clear hB0 hW HF
  replace h4 := kept hb _ _ h4
  have HB1 := Lib.hid (HB0.out.trans (hb.mono HB0.out.size))
  clear hb HB0 h1 h2 h3
  go_wp2_with fail
  exact ret_nat_tmp _ (natA r) rfl rfl rfl (row_new h4) (natA_size _) ⟨rfl, below_setRow' HB1.out (by omega) _⟩

set_option maxRecDepth 100000 in
set_option maxHeartbeats 400000 in
theorem reduce_zero (a : Nat) (w : World) : Calls Try.prog 12 #[.agg (natA a), .agg (natA 0)] w fun e w' => e = .returned (.tuple #[.agg (natA 0), .int .i64 2]) ∧ Below w.heap.size w w' := by
  have HN := Lib.hid (fun W => newMod_zero W)
  have HF := Lib.hid (threeT w a 0)
  go_enter Try.func12, Try.ntmps12
  go_wp2_with fail
  refine (HN.out _).mono ?_
  rintro e w1 ⟨rfl, hb⟩
  obtain ⟨W0, hW, hB0, h1, h2, h3⟩ := HF.out
  rw [hW] at hb
  have HB0 := Lib.hid hB0
  clear hB0 hW HF
  replace h3 := kept hb _ _ h3
  have HB1 := Lib.hid (HB0.out.trans (hb.mono HB0.out.size))
  have l3 := rowN_lt h3
  clear hb HB0 h1 h2
  obtain ⟨k1, k2, k3⟩ := storedT0 w1 0 58
  have K4 := Lib.hid (k2 _ _ h3)
  have K3 := Lib.hid (HB1.out.trans (k3.mono HB1.out.size))
  clear k1 k2 k3
  go_wp2_with fail
  exact ret_nat_tmp _ (natA 0) rfl rfl rfl (row_new K4.out) (natA_size _) ⟨rfl, below_setRow' K3.out (by omega) _⟩

set_option maxRecDepth 100000 in
set_option maxHeartbeats 400000 in
theorem reduce_pos (m a : Nat) (hm : m < P64 ^ 16) (h0 : 0 < m) (ha : a < P64 ^ 16) (w : World) : Calls Try.prog 12 #[.agg (natA a), .agg (natA m)] w fun e w' => e = .returned (.tuple #[.agg (natA (a % m)), .int .i64 0]) ∧ Below w.heap.size w w' := by
  have HN := Lib.hid (fun W => newMod_pos m hm (by omega) W)
  have HR := Lib.hid (fun W => residue_any m a hm h0 ha W)
  have HF := Lib.hid (threeT w a m)
  clear hm h0 ha
  generalize a % m = r at *
  go_enter Try.func12, Try.ntmps12
  go_wp2_with fail
  refine (HN.out _).mono ?_
  rintro e w1 ⟨rfl, hb⟩
  obtain ⟨W0, hW, hB0, h1, h2, h3⟩ := HF.out
  rw [hW] at hb
  have HB0 := Lib.hid hB0
  clear hB0 hW HF
  replace h1 := kept hb _ _ h1
  replace h3 := kept hb _ _ h3
  have HB1 := Lib.hid (HB0.out.trans (hb.mono HB0.out.size))
  have l3 := rowN_lt h3
  clear hb HB0 h2
  go_wp2_with fail
  refine (HR.out _).mono ?_
  rintro e w2 ⟨rfl, hb⟩
  obtain ⟨h7, hk, hBel⟩ := storedT hb
  replace h3 := hk _ _ h3
  have HB2 := Lib.hid (HB1.out.trans (hBel.mono HB1.out.size))
  clear hb hk hBel h7 h1
  go_wp2_with fail
  exact ret_nat_tmp _ (natA r) rfl rfl rfl (row_new h3) (natA_size _) ⟨rfl, below_setRow' HB2.out (by omega) _⟩

set_option maxRecDepth 100000 in
set_option maxHeartbeats 400000 in
theorem mod_exp_zero (a b : Nat) (w : World) : Calls Try.prog 23 #[.agg (natA a), .agg (natA b), .agg (natA 0)] w fun e w' => e = .returned (.tuple #[.agg (natA 0), .int .i64 2]) ∧ Below w.heap.size w w' := by
  have HN := Lib.hid (fun W => newMod_zero W)
  have HF := Lib.hid (fourT w 28 a b 0)
  go_enter Try.func23, Try.ntmps23
  go_wp2_with fail
  refine (HN.out _).mono ?_
  rintro e w1 ⟨rfl, hb⟩
  obtain ⟨W0, hW, hB0, h1, h2, h3, h4⟩ := HF.out
  rw [hW] at hb
  have HB0 := Lib.hid hB0
  clear hB0 hW HF
  replace h4 := kept hb _ _ h4
  have HB1 := Lib.hid (HB0.out.trans (hb.mono HB0.out.size))
  have l4 := rowN_lt h4
  clear hb HB0 h1 h2 h3
  obtain ⟨k1, k2, k3⟩ := storedT0 w1 0 58
  have K4 := Lib.hid (k2 _ _ h4)
  have K3 := Lib.hid (HB1.out.trans (k3.mono HB1.out.size))
  clear k1 k2 k3
  go_wp2_with fail
  exact ret_nat_tmp _ (natA 0) rfl rfl rfl (row_new K4.out) (natA_size _) ⟨rfl, below_setRow' K3.out (by omega) _⟩

set_option maxRecDepth 100000 in
set_option maxHeartbeats 400000 in
theorem mod_exp_pos (m b v : Nat) (hm : m < P64 ^ 16) (h0 : 0 < m) (hb : b < P64 ^ 16) (hv : v < P64 ^ 16) (w : World) : Calls Try.prog 23 #[.agg (natA b), .agg (natA v), .agg (natA m)] w fun e w' => e = .returned (.tuple #[.agg (natA (pm m b v)), .int .i64 0]) ∧ Below w.heap.size w w' := by
  have HN := Lib.hid (fun W => newMod_pos m hm (by omega) W)
  have HR := Lib.hid (fun W => residue_any m b hm h0 hb W)
  have HP := Lib.hid (fun W => power_any m (b % m) v hm h0 (Nat.mod_lt _ h0) hv W)
  rw [pm_mod] at HP
  have HF := Lib.hid (fourT w 28 b v m)
  clear hm h0 hb hv
  generalize pm m b v = r at *
  generalize b % m = bm at *
  go_enter Try.func23, Try.ntmps23
  go_wp2_with fail
  refine (HN.out _).mono ?_
  rintro e w1 ⟨rfl, hb⟩
  obtain ⟨W0, hW, hB0, h1, h2, h3, h4⟩ := HF.out
  rw [hW] at hb
  have HB0 := Lib.hid hB0
  clear hB0 hW HF
  replace h1 := kept hb _ _ h1
  replace h2 := kept hb _ _ h2
  replace h4 := kept hb _ _ h4
  have HB1 := Lib.hid (HB0.out.trans (hb.mono HB0.out.size))
  have l4 := rowN_lt h4
  clear hb HB0 h3
  obtain ⟨k1, k2, k3⟩ := storedT0 w1 m 58
  have K1 := Lib.hid (k2 _ _ h1)
  have K2 := Lib.hid (k2 _ _ h2)
  have K4 := Lib.hid (k2 _ _ h4)
  have K8 := Lib.hid k1
  have K3 := Lib.hid (HB1.out.trans (k3.mono HB1.out.size))
  clear k1 k2 k3 h1 h2 h4
  go_wp2_with fail
  generalize (w1.alloc (.cells (natA 0) 58)).setRow w1.heap.size (natA m) = W2 at *
  generalize w1.heap.size = g8 at *
  have d1 : rowN W2.drew w.heap.size = some (natA b) := K1.out
  have d2 : rowN W2.drew (w.heap.size + 1) = some (natA v) := K2.out
  have d4 : rowN W2.drew (w.heap.size + 1 + 1 + 1) = some (natA 0) := K4.out
  have d8 : rowN W2.drew g8 = some (natA m) := K8.out
  have HD := Lib.hid K3.out.drew
  clear K1 K2 K4 K8
  go_region_held3 (fun W => rowN W w.heap.size = some (natA b) ∧ rowN W (w.heap.size + 1) = some (natA v) ∧ rowN W g8 = some (natA m)) (first | exact ⟨d1, d2, d8⟩ | exact ⟨row_other d1 (by omega), row_other d2 (by omega), row_other d8 (by omega)⟩) (first
    | (go_at_call 36; refine (HR.out _).mono ?_; rintro e x1 ⟨rfl, hb⟩; replace d1 := kept hb _ _ d1; replace d2 := kept hb _ _ d2; replace d4 := kept hb _ _ d4; replace d8 := kept hb _ _ d8; replace HD := Lib.hid (HD.out.trans (hb.mono HD.out.size)); clear hb)
    | (go_at_call 48; refine (HP.out _).mono ?_; rintro e x1 ⟨rfl, hb⟩; replace d1 := kept hb _ _ d1; replace d2 := kept hb _ _ d2; replace d4 := kept hb _ _ d4; replace d8 := kept hb _ _ d8; replace HD := Lib.hid (HD.out.trans (hb.mono HD.out.size)); clear hb))
  all_goals
    go_wp2_with fail
    exact ret_nat_tmp _ (natA r) rfl rfl rfl (row_new d4) (natA_size _) ⟨rfl, below_setRow' HD.out (by omega) _⟩
end Go.Proofs.Ytlmfiggmjpjpiaa
