/- What Divide comes to, by 0 and by one digit; GCD. -/
import Derived.Test.YtlmfiggmjpjpiaaD1
import Derived.Deep.LoopGhost
namespace Go.Proofs.Ytlmfiggmjpjpiaa
open Go.RowKit

theorem natLen_small {u : Nat} (h0 : 0 < u) (h1 : u < P64) : natLen u = 1 := by
  refine dlen_eq (by rw [P64_eq]; decide) (by rw [Nat.pow_one]; exact h1) (.inr ?_)
  rw [Nat.sub_self, Nat.pow_zero]; exact h0

set_option maxRecDepth 100000 in
theorem divide_zero (v : Nat) (w : World) : Calls Try.prog 56 #[.agg (natA v), .agg (natA 0)] w fun e w' =>
    e = .returned (.tuple #[.agg (natA 0), .agg (natA 0), .int .i64 2]) ∧ Below w.heap.size w w' := by
  have hl : natLen 0 = 0 := rfl
  have HL := Lib.hid hl
  clear hl
  go_enter Try.func56, Try.ntmps56
  go_wp2_with fail
  refine (length_any 0 (Nat.pow_pos P64_pos) _).mono ?_
  rintro e w1 ⟨rfl, hb1⟩
  rw [HL.out]
  have hrow := brow hb1
  have hQ : rowN w1 (w.heap.size + 1 + 1) = some (natA 0) := by
    rw [hrow _ (by simp)]; simp only [rowN_alloc, World.size_alloc, if_true] <;> (repeat rw [if_neg (by omega)])
  have hR : rowN w1 (w.heap.size + 1 + 1 + 1) = some (natA 0) := by
    rw [hrow _ (by simp)]; simp only [rowN_alloc, World.size_alloc, if_true] <;> (repeat rw [if_neg (by omega)])
  have hbel : Below w.heap.size w w1 := (((((Below.refl _ _).alloc (Nat.le_refl _) _).alloc (by simp) _).alloc (by simp; omega) _).alloc (by simp; omega) _).trans (hb1.mono (by simp; omega))
  have HBel := Lib.hid hbel
  clear hbel hrow hb1
  go_wp2_with fail
  exact ret_nat_nat_tmp _ _ (natA 0) (natA 0) rfl rfl rfl rfl (by simp [rowN_setRow, hQ]) (natA_size _) (by simp [rowN_setRow, hR]) (natA_size _) ⟨rfl, below_setRow' (below_setRow' HBel.out (by omega) _) (by omega) _⟩

set_option maxRecDepth 100000 in
theorem divide_short (v u : Nat) (h0 : 0 < u) (h1 : u < P64)
    (hS : ∀ W, Calls Try.prog 72 #[.agg (natA v), .int .u64 (u : Nat)] W fun e W' => e = .returned (.tuple #[.agg (natA (v / u)), .agg (natA (v % u))]) ∧ Below W.heap.size W W')
    (w : World) : Calls Try.prog 56 #[.agg (natA v), .agg (natA u)] w fun e w' =>
    e = .returned (.tuple #[.agg (natA (v / u)), .agg (natA (v % u)), .int .i64 0]) ∧ Below w.heap.size w w' := by
  have HL := Lib.hid (natLen_small h0 h1)
  have HU := Lib.hid (show u < P64 ^ 16 from Nat.lt_of_lt_of_le h1 (by
    have h := Nat.pow_le_pow_right P64_pos (show 1 ≤ 16 by omega)
    rw [Nat.pow_one] at h
    exact h))
  have HD := Lib.hid (show dgt P64 u 0 = u by rw [dgt_small h1, if_pos rfl])
  have HS := Lib.hid hS
  clear hS h1
  generalize v / u = q at *
  generalize v % u = r at *
  go_enter Try.func56, Try.ntmps56
  go_wp2_with fail
  refine (length_any u HU.out _).mono ?_
  rintro e w1 ⟨rfl, hb1⟩
  rw [HL.out]
  have hrow := brow hb1
  have hA : rowN w1 w.heap.size = some (natA v) := by
    rw [hrow _ (by simp <;> omega)]; simp only [rowN_alloc, World.size_alloc, if_true] <;> (repeat rw [if_neg (by omega)])
  have hB : rowN w1 (w.heap.size + 1) = some (natA u) := by
    rw [hrow _ (by simp <;> omega)]; simp only [rowN_alloc, World.size_alloc, if_true] <;> (repeat rw [if_neg (by omega)])
  have hQ : rowN w1 (w.heap.size + 1 + 1) = some (natA 0) := by
    rw [hrow _ (by simp)]; simp only [rowN_alloc, World.size_alloc, if_true] <;> (repeat rw [if_neg (by omega)])
  have hR : rowN w1 (w.heap.size + 1 + 1 + 1) = some (natA 0) := by
    rw [hrow _ (by simp)]; simp only [rowN_alloc, World.size_alloc, if_true] <;> (repeat rw [if_neg (by omega)])
  have hbel : Below w.heap.size w w1 := (((((Below.refl _ _).alloc (Nat.le_refl _) _).alloc (by simp) _).alloc (by simp; omega) _).alloc (by simp; omega) _).trans (hb1.mono (by simp; omega))
  have hsz : w.heap.size + 1 + 1 + 1 < w1.heap.size := by have := hb1.size; simp at this; omega
  have hcell := ((rowN_cell hB).1 0).trans (natA_get u 0 (by omega))
  rw [HD.out] at hcell
  have HBel := Lib.hid hbel
  have HQ := Lib.hid hQ
  have HR := Lib.hid hR
  clear hbel hrow hb1 hQ hR hB
  go_wp2_with fail
  refine (HS.out _).mono ?_
  rintro e w2 ⟨rfl, hb2⟩
  have hQ2 : rowN w2 (w.heap.size + 1 + 1) = some (natA 0) := by rw [brow hb2 _ (by omega)]; exact HQ.out
  have hR2 : rowN w2 (w.heap.size + 1 + 1 + 1) = some (natA 0) := by rw [brow hb2 _ (by omega)]; exact HR.out
  have HB2 := Lib.hid (HBel.out.trans (hb2.mono (by omega)))
  clear hb2 hA hcell hsz
  go_wp2_with fail
  go_region
  go_wp2_with fail
  exact ret_nat_nat_tmp _ _ (natA q) (natA r) rfl rfl rfl rfl (by simp [rowN_setRow, rowN_drew, hQ2]) (natA_size _) (by simp [rowN_setRow, rowN_drew, hR2]) (natA_size _)
    ⟨rfl, below_setRow' (below_setRow' (Below.drew (below_setRow' (below_setRow' HB2.out (by omega) _) (by omega) _)) (by omega) _) (by omega) _⟩

def natNeq (x y : Operand) (a b : Value) : Sem Next := do pure (.value (← (do eqGuard .neq 28 x y a b; binOp .neq 28 a b)))
@[go_sem ↓] theorem execOp_neq28 (ρ : Operand → Value) (dst : Option Tmp) (x y : Operand) (ty yt : TypeId) (pos : String) (after : Array Edge) (guard : Option (Nat × Bool)) :
    execOp ρ { dst, op := .binOp .neq 28 x y yt, type := ty, pos, after, guard } = natNeq x y (ρ x) (ρ y) := rfl
@[go_sem] theorem run_natNeq (x y : Operand) (v u : Nat) (w : World) : (natNeq x y (.agg (natA v)) (.agg (natA u))).run Try.prog w = .ok (.value (.bool (!natEq v u))) w := by
  have h0 : Try.prog.eqGuardType Try.prog.depth 28 = false := by kernel_rfl
  have hg := run_eqGuard_agg (P := Try.prog) w .neq 28 x y (natA v) (natA u) h0
  have he : ∀ n, n = 9997 + 2 + 1 → (Op.equalIn n 28 (.agg (natA v)) (.agg (natA u))).run Try.prog w = .ok (natEq v u) w := fun n hn => by rw [hn]; exact run_eq28 9997 v u w
  have he' := he 10000 (by decide)
  simp only [natNeq, Sem.run_bind, hg, Result.andThen_ok, run_neq_struct, he', Sem.run_pure]

/-- What the loop holds. -/
def GcdRel (M g : Nat) (w : World) (k : Nat) (wr : World) : Prop :=
  ∃ x, x < M ∧ k < M ∧ Nat.gcd x k = g ∧ rowN wr w.heap.size = some (natA x) ∧ rowN wr (w.heap.size + 1) = some (natA k) ∧ rowN wr (w.heap.size + 1 + 1) = some (natA 0) ∧ Below w.heap.size w wr ∧ w.heap.size + 1 + 1 < wr.heap.size

set_option maxRecDepth 100000 in
theorem gcd_any (M : Nat) (hM : M ≤ P64 ^ 16) (hD : ∀ x y W, x < M → 0 < y → y < M → Calls Try.prog 56 #[.agg (natA x), .agg (natA y)] W fun e W' => e = .returned (.tuple #[.agg (natA (x / y)), .agg (natA (x % y)), .int .i64 0]) ∧ Below W.heap.size W W')
    (v u : Nat) (hv : v < M) (hu : u < M) (w : World) : Calls Try.prog 32 #[.agg (natA v), .agg (natA u)] w fun e w' => e = .returned (.agg (natA (Nat.gcd v u))) ∧ Below w.heap.size w w' := by
  have HM := Lib.hid hM
  have HD := Lib.hid hD
  have HV := Lib.hid hv
  have HU := Lib.hid hu
  clear hM hD hv hu
  generalize hg : Nat.gcd v u = g
  have HG := Lib.hid hg
  clear hg
  go_enter Try.func32, Try.ntmps32
  go_wp2_with fail
  go_loopg [] u (fun k wr => GcdRel M g w k wr)
  case atStart =>
    refine ⟨v, HV.out, HU.out, HG.out, ?_, ?_, ?_, (((Below.refl _ _).alloc (Nat.le_refl _) _).alloc (by simp) _).alloc (by simp <;> omega) _, by simp⟩
    all_goals (simp only [rowN_alloc, World.size_alloc, if_true] <;> (repeat rw [if_neg (by omega)]))
  case round =>
    obtain ⟨x, hx, hk, hgcd, hA, hB, hR, hbel, hsz⟩ := hrel
    have HX := Lib.hid hx
    have HK := Lib.hid hk
    have HGG := Lib.hid hgcd
    have HBel := Lib.hid hbel
    have HR := Lib.hid hR
    clear hx hk hgcd hbel hR
    have hne : natEq gk 0 = decide (gk = 0) := natEq_iff (Nat.lt_of_lt_of_le HK.out HM.out) (Nat.pow_pos P64_pos)
    by_cases h0 : gk = 0
    · have hne' : natEq gk 0 = true := by rw [hne]; simp [h0]
      have HX0 := Lib.hid (show x = g by have := HGG.out; rw [h0, Nat.gcd_zero_right] at this; exact this)
      have hR2 := HR.out
      clear hne h0
      go_wp2_with fail
      rw [← HX0.out]
      exact ret_nat _ (natA x) rfl rfl rfl (by simp [rowN_setRow, hR2]) (natA_size _) ⟨rfl, below_setRow' HBel.out (by omega) _⟩
    · have hne' : natEq gk 0 = false := by rw [hne]; simp [h0]
      have H0 := Lib.hid h0
      clear hne h0
      go_wp2_with fail
      refine (HD.out x gk _ HX.out (by have := H0.out; omega) HK.out).mono ?_
      rintro e w2 ⟨rfl, hb2⟩
      generalize x / gk = q at *
      generalize hr : x % gk = r at *
      have HRR := Lib.hid hr
      clear hr
      have hA2 : rowN w2 w.heap.size = some (natA x) := by rw [brow hb2 _ (by omega)]; exact hA
      have hB2 : rowN w2 (w.heap.size + 1) = some (natA gk) := by rw [brow hb2 _ (by omega)]; exact hB
      have HR2 := Lib.hid (show rowN w2 (w.heap.size + 1 + 1) = some (natA 0) by rw [brow hb2 _ (by omega)]; exact HR.out)
      have HB2 := Lib.hid (HBel.out.trans (hb2.mono (by omega)))
      have hsz2 : w.heap.size + 1 + 1 < w2.heap.size := Nat.lt_of_lt_of_le hsz hb2.size
      clear hA hB hsz hb2
      go_wp2_with fail
      go_region
      go_wp2_with fail
      go_roundg r
      case measure => rw [← HRR.out]; exact Nat.mod_lt _ (by have := H0.out; omega)
      case rel =>
        have hrk : r < gk := by rw [← HRR.out]; exact Nat.mod_lt _ (by have := H0.out; omega)
        have hR3 := HR2.out
        refine ⟨gk, HK.out, Nat.lt_trans hrk HK.out, ?_, ?_, ?_, ?_, ?_, ?_⟩
        · rw [← HRR.out, ← HGG.out, Nat.gcd_comm gk, ← Nat.gcd_rec, Nat.gcd_comm]
        · simp only [rowN_setRow, rowN_drew, rowN_alloc, World.size_alloc, if_true]
          repeat (first | rw [if_neg (by omega)] | rw [if_pos (by omega)])
          rw [hA2]; rfl
        · simp only [rowN_setRow, rowN_drew, rowN_alloc, World.size_alloc, if_true]
          repeat (first | rw [if_neg (by omega)] | rw [if_pos (by omega)])
          rw [hB2]; rfl
        · simp only [rowN_setRow, rowN_drew, rowN_alloc, World.size_alloc]
          repeat (first | rw [if_neg (by omega)] | rw [if_pos (by omega)])
          exact hR3
        · refine below_setRow' (below_setRow' (Below.drew (below_setRow' (below_setRow' ((HB2.out.alloc (by omega) _).alloc (by simp <;> omega) _) (by omega) _) (by omega) _)) (Nat.le_refl _) _) (by omega) _
        · simp [World.setRow, World.drew]; omega
end Go.Proofs.Ytlmfiggmjpjpiaa
