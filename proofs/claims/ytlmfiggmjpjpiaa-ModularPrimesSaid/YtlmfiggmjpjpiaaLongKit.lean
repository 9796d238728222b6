/- divideLong: loads and slices in regions that draw their order; what holds before its rounds and in each. -/
import Derived.Test.YtlmfiggmjpjpiaaQ4
import Derived.Test.YtlmfiggmjpjpiaaWideKit
import Derived.Test.YtlmfiggmjpjpiaaZMath
namespace Go.Proofs.Ytlmfiggmjpjpiaa
open Go.RowKit

theorem yields_load28 {ops : Array Oper} {S : World → Prop} {op : Oper} {a : Act} (hw : Region.wanted op (yielded ops a.tmps) = true) (x : Operand) (ho : op.op = .load 28 x)
    (g : Nat) (hx : a.eval x = .pointer (some ⟨g, 0, none⟩)) (v : Nat) (hS : ∀ w, S w → rowN w g = some (natA v)) : YieldsIf Try.prog ops S op (.agg (natA v)) a :=
  .inl ⟨hw, fun w hw' => by
    unfold execOp
    simp only [ho, hx, Instr.loadAt, Instr.sureAddr, Sem.run_bind, Sem.run_pure, Result.andThen_ok, run_loadVar28, hS w hw', rowLoad_some _ _ _ _ (natA_size v)]⟩

theorem yields_load95 {ops : Array Oper} {S : World → Prop} {op : Oper} {a : Act} (hw : Region.wanted op (yielded ops a.tmps) = true) (x : Operand) (ho : op.op = .load 104 x)
    (g : Nat) (hx : a.eval x = .pointer (some ⟨g, 0, none⟩)) (v : Nat) (hS : ∀ w, S w → rowN w g = some (wdA 17 v)) : YieldsIf Try.prog ops S op (.agg (wdA 17 v)) a :=
  .inl ⟨hw, fun w hw' => by
    unfold execOp
    simp only [ho, hx, Instr.loadAt, Instr.sureAddr, Sem.run_bind, Sem.run_pure, Result.andThen_ok, run_loadVar95, hS w hw', wideLoadR_some _ _ _ (wdA_size 17 v)]⟩

theorem arr95 : Try.prog.arrayLen 104 = 17 ∧ Try.prog.elem 104 = 24 ∧ Try.prog.underlying 104 = some (.array (Try.prog.arrayLen 104) (Try.prog.elem 104)) := ⟨by kernel_rfl, by kernel_rfl, by kernel_rfl⟩
theorem run_slice95_h (g k : Nat) (hk : k ≤ 17) (W : World) : (Instr.sliceAt 104 (.pointer (some ⟨g, 0, none⟩)) none (some (.int .i64 (k : Nat))) none).run Try.prog W = .ok (.slice (some ⟨g, 0, none⟩) k 17) W := by
  obtain ⟨h1, h2, h3⟩ := arr95
  rw [run_sliceAt_array_h W 104 _ h3 _ _ (by omega) (by rw [h1]; omega), h2, h1, Try.sizeOf24]
  simp [slicedAt, Addr.add]
theorem run_slice95_lh (g i j : Nat) (hi : i ≤ j) (hj : j ≤ 17) (hi17 : i < 17) (W : World) : (Instr.sliceAt 104 (.pointer (some ⟨g, 0, none⟩)) (some (.int .i64 (i : Nat))) (some (.int .i64 (j : Nat))) none).run Try.prog W = .ok (.slice (some ⟨g, i, none⟩) (j - i) (17 - i)) W := by
  obtain ⟨h1, h2, h3⟩ := arr95
  rw [run_sliceAt_array_lh W 104 _ h3 _ _ _ _ (by omega) (by omega) (by rw [h1]; omega), h2, h1, Try.sizeOf24]
  have e : ¬ 17 = i := by omega
  simp [slicedAt, Addr.add, e]
  exact fun h => h.symm
end Go.Proofs.Ytlmfiggmjpjpiaa

namespace Go.Proofs.Ytlmfiggmjpjpiaa


theorem lead_bounds {d s : Nat} (hd : d < P64) (hs : Lib.bitLen d + s = 64) (hs1 : s < 64) : 2 ^ 63 ≤ d * 2 ^ s ∧ (d + 1) * 2 ^ s ≤ 2 ^ 64 := by
  obtain ⟨b1, b2, b3⟩ := Lib.bitLenAux_bounds 64 d (by rw [← P64_pow]; exact hd) (by
    rcases Nat.eq_zero_or_pos d with rfl | h
    · have : Lib.bitLen 0 = 0 := by decide
      omega
    · omega)
  have hb' : Lib.bitLenAux 64 d = Lib.bitLen d := rfl
  rw [hb'] at b1 b2 b3
  generalize Lib.bitLen d = b at *
  have e64 : (2 : Nat) ^ b * 2 ^ s = 2 ^ 64 := by rw [← Nat.pow_add, hs]
  have e63 : (2 : Nat) ^ (b - 1) * 2 ^ s = 2 ^ 63 := by rw [← Nat.pow_add, show b - 1 + s = 63 by omega]
  exact ⟨by rw [← e63]; exact Nat.mul_le_mul_right _ b2, by rw [← e64]; exact Nat.mul_le_mul_right _ b3⟩

/-- Before the rounds: j digits are to come. -/
theorem long_start {v u s n m j : Nat} (hv : v < P64 ^ m) (hu : P64 ^ (n - 1) ≤ u) (hmn : m ≤ n - 1 + j) : v * 2 ^ s < u * 2 ^ s * P64 ^ j := by
  have hS : 0 < 2 ^ s := Nat.two_pow_pos s
  have h1 : v < u * P64 ^ j := by
    refine Nat.lt_of_lt_of_le hv (Nat.le_trans (Nat.pow_le_pow_right P64_pos hmn) ?_)
    rw [Nat.pow_add]
    exact Nat.mul_le_mul_right _ hu
  rw [Nat.mul_assoc, Nat.mul_comm (2 ^ s), ← Nat.mul_assoc]
  exact Nat.mul_lt_mul_of_pos_right h1 hS

theorem left_lt {B U V k n : Nat} (hB : 0 < B) (hV0 : 0 < V) (hV : V < B ^ n) : left B U V (k + 1) < B ^ (k + (n + 1)) := by
  obtain ⟨_, _, h⟩ := left_win (U := U) (k := k) hB hV0
  have hP : 0 < B ^ k := Nat.pow_pos hB
  rw [Nat.div_lt_iff_lt_mul hP] at h
  refine Nat.lt_of_lt_of_le h ?_
  have h2 : V * B ≤ B ^ (n + 1) := by rw [Nat.pow_succ]; exact Nat.mul_le_mul_right _ (Nat.le_of_lt hV)
  rw [Nat.add_comm k, Nat.pow_add]
  exact Nat.mul_le_mul_right _ h2

/-- A round: the digits the estimate reads, the estimate q, what the window becomes. -/
structure Round (X V k n q d X' a0 a1 a2 b0 b1 : Nat) : Prop where
  hX : X < P64 ^ (k + (n + 1))
  hP : V * q < P64 ^ (n + 1)
  hq : q < P64
  e0 : dgt P64 X (k + n) = a0
  e1 : dgt P64 X (k + n - 1) = a1
  e2 : dgt P64 X (k + n - 2) = a2
  f0 : dgt P64 V (n - 1) = b0
  f1 : dgt P64 V (n - 2) = b1
  est : estN P64 a0 a1 a2 b0 b1 = q
  ways : (winSet P64 X k (n + 1) (subW P64 (n + 1) (X / P64 ^ k) (V * q)) = X' ∧ ¬ X / P64 ^ k < V * q ∧ q = d) ∨
    (winSet P64 (winSet P64 X k (n + 1) (subW P64 (n + 1) (X / P64 ^ k) (V * q))) k (n + 1) (winSet P64 X k (n + 1) (subW P64 (n + 1) (X / P64 ^ k) (V * q)) / P64 ^ k + V) = X' ∧ X / P64 ^ k < V * q ∧ q = d + 1)

theorem round_any {U V k n : Nat} (hn : 2 ≤ n) (hV : V < P64 ^ n) (hV1 : P64 ≤ 2 * dgt P64 V (n - 1)) (hV0 : 0 < V) :
    ∃ q a0 a1 a2 b0 b1, Round (left P64 U V (k + 1)) V k n q (dgt P64 (U / V) k) (left P64 U V k) a0 a1 a2 b0 b1 := by
  obtain ⟨h, rfl⟩ : ∃ h, n = h + 2 := ⟨n - 2, by omega⟩
  obtain ⟨_, _, hWV⟩ := left_win (U := U) (k := k) P64_pos hV0
  have hX := left_lt (U := U) (k := k) P64_pos hV0 hV
  obtain ⟨s1, s2⟩ := left_step (U := U) (k := k) P64_pos hV0
  obtain ⟨c1, c2, c3⟩ := est_bounds (B := P64) (W := left P64 U V (k + 1) / P64 ^ k) (V := V) (k := h) (by rw [P64_eq]; decide) hV hV1 hWV
  generalize hq : estN P64 (dgt P64 (left P64 U V (k + 1) / P64 ^ k) (h + 2)) (dgt P64 (left P64 U V (k + 1) / P64 ^ k) (h + 1)) (dgt P64 (left P64 U V (k + 1) / P64 ^ k) h) (dgt P64 V (h + 1)) (dgt P64 V h) = q at *
  generalize hXX : left P64 U V (k + 1) = X at *
  have hq64 : q < P64 := by have := P64_pos; omega
  refine ⟨q, dgt P64 (X / P64 ^ k) (h + 2), dgt P64 (X / P64 ^ k) (h + 1), dgt P64 (X / P64 ^ k) h, dgt P64 V (h + 1), dgt P64 V h, ⟨hX, ?_, hq64, ?_, ?_, ?_, rfl, rfl, hq, ?_⟩⟩
  · rw [Nat.pow_succ]
    exact Nat.mul_lt_mul'' hV hq64
  · rw [← dgt_high]
  · rw [← dgt_high]; congr 1
  · rw [← dgt_high]; congr 1
  · rcases two_cases c1 c2 with e | e
    · obtain ⟨r1, r2⟩ := round_fits (X := X) (i := k) (n := h + 2) P64_pos hV hV0 e
      exact .inl ⟨by rw [r1, s2], r2, by rw [e, s1]⟩
    · obtain ⟨r1, r2⟩ := round_over (X := X) (i := k) (n := h + 2) P64_pos hV hV0 e hWV
      exact .inr ⟨by rw [r1, s2], r2, by rw [e, s1]⟩
end Go.Proofs.Ytlmfiggmjpjpiaa

