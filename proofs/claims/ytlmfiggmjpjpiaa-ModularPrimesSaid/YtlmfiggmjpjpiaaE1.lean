/- What set comes to. -/
import Derived.Test.YtlmfiggmjpjpiaaC8
import Derived.Test.YtlmfiggmjpjpiaaZMath
namespace Go.Proofs.Ytlmfiggmjpjpiaa
open Go.RowKit

theorem set_num (v n : Nat) (hn : n < 1024) :
    (natA v).setIfInBounds (n / 64) (.int .u64 (bits BinOp.or IntKind.u64 ((dgt P64 v (n / 64) : Nat) : Int) (IntKind.u64.wrap ((2 : Int) ^ (n % 64))))) = natA (v ||| 2 ^ n) := by
  have hlt : 2 ^ (n % 64) < 18446744073709551616 := by
    have : 2 ^ (n % 64) < 2 ^ 64 := Nat.pow_lt_pow_right (by omega) (by omega)
    omega
  have hw : IntKind.u64.wrap ((2 : Int) ^ (n % 64)) = ((2 ^ (n % 64) : Nat) : Int) := by
    rw [show ((2 : Int) ^ (n % 64)) = ((2 ^ (n % 64) : Nat) : Int) by simp, IntKind.wrap_u64]
    generalize 2 ^ (n % 64) = p at *
    omega
  have hd := dgt_lt (v := v) (i := n / 64) P64_pos
  rw [P64_eq] at hd
  have e : dgt P64 (v ||| 2 ^ n) (n / 64) = dgt P64 v (n / 64) ||| 2 ^ (n % 64) := by
    rw [P64_pow, dgt_or, dgt_two_pow, if_pos rfl]
  have hs := natA_set v (v ||| 2 ^ n) (n / 64) (by omega) (fun j _ hj => by rw [P64_pow, dgt_or, dgt_two_pow, if_neg hj, Nat.or_zero])
  rw [e] at hs
  rw [hw, P64_eq, bits_or_u64_nat _ _ hd hlt, ← P64_eq]
  exact hs

set_option maxRecDepth 100000 in
theorem set_any (g v : Nat) (i : Int) (h0 : 0 ≤ i) (hi : i < 1024) (w : World) (hg : rowN w g = some (natA v)) :
    Calls Try.prog 94 #[.pointer (some ⟨g, 0, none⟩), .int .i64 i] w fun e w' => e = .returned (.tuple #[]) ∧ rowN w' g = some (natA (v ||| 2 ^ i.toNat)) ∧ ∃ u, w' = (w.setCell ⟨g, i.toNat / 64, none⟩ u).drew := by
  obtain ⟨n, rfl⟩ := Int.eq_ofNat_of_zero_le h0
  rw [Int.toNat_natCast]
  have h1 : n / 64 < 16 := by omega
  have HP := Lib.hid (set_num v n (by omega))
  obtain ⟨hc0, hf0⟩ := rowN_cell hg
  have hc : w.cell? ⟨g, n / 64, none⟩ = some (.int .u64 (dgt P64 v (n / 64) : Nat)) := by rw [hc0]; exact natA_get _ _ h1
  have hf := hf0 (n / 64)
  have HG := Lib.hid hg
  clear h0 hc0 hf0 hg
  go_enter Try.func94, Try.ntmps94
  go_wp2
  go_region
  go_end0
  refine ⟨rfl, ?_, _, rfl⟩
  rw [rowN_drew, rowN_setCell, if_pos rfl, HG.out]
  simp only [Option.map_some, Option.isSome_none, Bool.false_eq_true, if_false]
  rw [← HP.out]
end Go.Proofs.Ytlmfiggmjpjpiaa
