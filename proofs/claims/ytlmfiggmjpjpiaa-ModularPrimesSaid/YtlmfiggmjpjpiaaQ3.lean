/- A row of Mul: combine with the closure that multiplies. -/
import Derived.Test.YtlmfiggmjpjpiaaQ2
import Derived.Test.YtlmfiggmjpjpiaaWide
namespace Go.Proofs.Ytlmfiggmjpjpiaa
open Go.RowKit

theorem enter64 (args : Array Value) (w : World) : (callFunc 80 args).run Try.prog w = .ok (.enter 80 args) w := by
  simp [callFunc, Try.func80, Try.f80, mark]

theorem Carry2.kept {F C f : Nat} {c : Nat → Nat} {k bx : Nat} {W₁ W₂ : World} (h : Carry2 F C f c k W₁) (hch : Ch (fun b => b = bx) W₁ W₂) (hF : F ≠ bx) (hC : C ≠ bx) : Carry2 F C f c k W₂ :=
  ⟨by rw [hch.cell (block_lt_of_cell h.1) hF]; exact h.1, h.2.kept hch hC⟩
theorem Carry2.set {F C f : Nat} {c : Nat → Nat} {k n : Nat} {W : World} (h : Carry2 F C f c k W) (hne : F ≠ C) (hn : c (k + 1) = n) : Carry2 F C f c (k + 1) (W.setCell ⟨C, 0, none⟩ (.int .u64 (n : Nat))) :=
  ⟨by rw [(Ch.setCell (fun b => b = C) W ⟨C, 0, none⟩ (.int .u64 (n : Nat)) rfl).cell (block_lt_of_cell h.1) hne]; exact h.1, h.2.set hn⟩

theorem mul_round (a u P i k F C : Nat) (hne : F ≠ C) (ha : a < P64) (W₁ : World) (hi : Carry2 F C a (fun k => (mrow P64 a u P i k).2) k W₁) :
    Calls Try.prog 80 (#[.int .u64 (dgt P64 P (i + k) : Nat), .int .u64 (dgt P64 u k : Nat)] ++ #[.pointer (some ⟨F, 0, none⟩), .pointer (some ⟨C, 0, none⟩)]) W₁ fun e W₂ =>
      e = .returned (.int .u64 ((dgt P64 (mrow P64 a u P i k).1 (i + k) + a * dgt P64 u k + (mrow P64 a u P i k).2) % P64 : Nat)) ∧ Carry2 F C a (fun k => (mrow P64 a u P i k).2) (k + 1) W₂ ∧ Ch (fun b => b = C) W₁ W₂ := by
  have h := mul1_any (dgt P64 P (i + k)) (dgt P64 u k) a (mrow P64 a u P i k).2 F C (dgt_lt P64_pos) (dgt_lt P64_pos) ha (mrow_carry P64_pos ha k) W₁ hi.1 hi.2.1 hi.2.2
  have e1 : dgt P64 u k * a + dgt P64 P (i + k) + (mrow P64 a u P i k).2 = dgt P64 (mrow P64 a u P i k).1 (i + k) + a * dgt P64 u k + (mrow P64 a u P i k).2 := by
    rw [mrow_dgt P64_pos k (i + k) (Nat.le_refl _), Nat.mul_comm]; omega
  rw [e1] at h
  have hcat : (#[.int .u64 (dgt P64 P (i + k) : Nat), .int .u64 (dgt P64 u k : Nat)] ++ #[.pointer (some ⟨F, 0, none⟩), .pointer (some ⟨C, 0, none⟩)] : Array Value) = #[.int .u64 (dgt P64 P (i + k) : Nat), .int .u64 (dgt P64 u k : Nat), .pointer (some ⟨F, 0, none⟩), .pointer (some ⟨C, 0, none⟩)] := by simp
  rw [hcat]
  refine h.mono ?_
  rintro e W₂ ⟨rfl, rfl⟩
  exact ⟨rfl, hi.set hne rfl, Ch.setCell _ _ _ _ rfl⟩

theorem combine_mul (a u P i m cx cy A B F C : Nat) (ha : a < P64) (him : i + m ≤ 17) (hm : m ≤ 16) (hAB : B ≠ A) (hFA : F ≠ A) (hCA : C ≠ A) (hBC : B ≠ C) (hFC : F ≠ C) (W : World) (hA : rowN W A = some (wdA 17 P)) (hB : rowN W B = some (natA u)) (hC : Carry2 F C a (fun k => (mrow P64 a u P i k).2) 0 W) :
    Calls Try.prog 74 #[.slice (some ⟨A, i, none⟩) m cx, .slice (some ⟨B, 0, none⟩) m cy, .func (.func 80) #[] #[.pointer (some ⟨F, 0, none⟩), .pointer (some ⟨C, 0, none⟩)]] W fun e W' =>
      e = .returned (.tuple #[]) ∧ rowN W' A = some (wdA 17 (mrow P64 a u P i m).1) ∧ Carry2 F C a (fun k => (mrow P64 a u P i k).2) m W' ∧ Ch (fun b => b = C ∨ b = A) W W' := by
  have h := combine_any m A i cx B 0 m cy 80 #[.pointer (some ⟨F, 0, none⟩), .pointer (some ⟨C, 0, none⟩)] (wdA 17 P) (fun k => (dgt P64 P (i + k) : Nat)) (fun k => (dgt P64 u k : Nat))
    (fun k => (((dgt P64 (mrow P64 a u P i k).1 (i + k) + a * dgt P64 u k + (mrow P64 a u P i k).2) % P64 : Nat) : Int)) (Carry2 F C a (fun k => (mrow P64 a u P i k).2)) (fun b => b = C)
    enter64 (by omega) (Nat.le_refl _) W hA (fun e => hCA e.symm) hAB (rowN_lt hB) hBC (fun k hk => wdA_get _ _ _ (by omega)) (fun k hk => by rw [Nat.zero_add, (rowN_cell hB).1]; exact natA_get u k (by omega))
    hC (fun k W₁ W₂ hi hch => hi.kept hch hFA hCA) (fun k W₁ _ hi => mul_round a u P i k F C hFC ha W₁ hi)
  refine h.mono ?_
  rintro e W' ⟨rfl, hr, hi, hch⟩
  exact ⟨rfl, by rw [hr, mrow_row 17 a u P i m m (Nat.le_refl _)], hi, hch⟩

/-! A product's seventeen digits. -/
theorem wdA_zero_lit : wdA 17 0 = #[.int .u64 0, .int .u64 0, .int .u64 0, .int .u64 0, .int .u64 0, .int .u64 0, .int .u64 0, .int .u64 0, .int .u64 0, .int .u64 0, .int .u64 0, .int .u64 0, .int .u64 0, .int .u64 0, .int .u64 0, .int .u64 0, .int .u64 0] := by
  rw [wdA_zero]; rfl
@[go_sem ↓] theorem run_zeroValue84 (W : World) : (zeroValue 98).run Try.prog W = .ok (.agg (wdA 17 0)) W := by
  rw [wdA_zero_lit]; kernel_rfl
@[go_sem ↓] theorem run_zeroValue95 (W : World) : (zeroValue 104).run Try.prog W = .ok (.agg (wdA 17 0)) W := by
  rw [wdA_zero_lit]; kernel_rfl
end Go.Proofs.Ytlmfiggmjpjpiaa
