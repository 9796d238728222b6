/- The reference: right, pick, most. -/
import Derived.Test.YtmlacbdonkfbdaaDoorSB
namespace Go.Proofs.YtmlacbdonkfbdaaDoor
open Go.RowKit

theorem rr_add (x n : Nat) (hx : x < 4294967296) (hn : n ≤ 32) : x / 2 ^ n + x * 2 ^ (32 - n) % 4294967296 = rr x n := by
  unfold rr
  have h1 : x * 2 ^ (32 - n) % 4294967296 = 2 ^ (32 - n) * (x % 2 ^ n) := by
    have e : 4294967296 = 2 ^ (32 - n) * 2 ^ n := by rw [← Nat.pow_add, Nat.sub_add_cancel hn]
    rw [e, Nat.mul_comm x, Nat.mul_mod_mul_left]
  have h2 : x / 2 ^ n < 2 ^ (32 - n) := by
    rw [Nat.div_lt_iff_lt_mul (Nat.two_pow_pos n), ← Nat.pow_add, Nat.sub_add_cancel hn]; omega
  rw [h1, ← Nat.two_pow_add_eq_or_of_lt h2, Nat.add_comm]
theorem add_rr (x n m d : Nat) (hm : 2 ^ (32 - n) = m) (hd : 2 ^ n = d) (hn : n ≤ 32) (hx : x < 4294967296) :
    ((x : Nat) : Int) / ((d : Nat) : Int) + ((x : Nat) : Int) * ((m : Nat) : Int) % 4294967296 = ((rr x n : Nat) : Int) := by
  rw [← rr_add x n hx hn, hm, hd, Int.natCast_add, Int.natCast_emod, Int.natCast_mul, Int.natCast_ediv]; rfl
set_option maxRecDepth 100000 in
theorem right2 (x : Nat) (hx : x < 4294967296) (w : World) : Calls Tryd.prog 40 #[.int .i64 (x : Nat), .int .i64 2] w fun e w' => e = .returned (.int .i64 (rr x 2 : Nat)) ∧ w' = w.drew := by
  have HC := Lib.hid (add_rr x 2 1073741824 4 (by decide) (by decide) (by decide) hx)
  go_enter Tryd.func40, Tryd.ntmps40
  go_wp2_with (go_region)
  go_ret
  exact ⟨ret_eq (congrArg (Value.int .i64) HC.out), rfl⟩
set_option maxRecDepth 100000 in
theorem right6 (x : Nat) (hx : x < 4294967296) (w : World) : Calls Tryd.prog 40 #[.int .i64 (x : Nat), .int .i64 6] w fun e w' => e = .returned (.int .i64 (rr x 6 : Nat)) ∧ w' = w.drew := by
  have HC := Lib.hid (add_rr x 6 67108864 64 (by decide) (by decide) (by decide) hx)
  go_enter Tryd.func40, Tryd.ntmps40
  go_wp2_with (go_region)
  go_ret
  exact ⟨ret_eq (congrArg (Value.int .i64) HC.out), rfl⟩
set_option maxRecDepth 100000 in
theorem right7 (x : Nat) (hx : x < 4294967296) (w : World) : Calls Tryd.prog 40 #[.int .i64 (x : Nat), .int .i64 7] w fun e w' => e = .returned (.int .i64 (rr x 7 : Nat)) ∧ w' = w.drew := by
  have HC := Lib.hid (add_rr x 7 33554432 128 (by decide) (by decide) (by decide) hx)
  go_enter Tryd.func40, Tryd.ntmps40
  go_wp2_with (go_region)
  go_ret
  exact ⟨ret_eq (congrArg (Value.int .i64) HC.out), rfl⟩
set_option maxRecDepth 100000 in
theorem right11 (x : Nat) (hx : x < 4294967296) (w : World) : Calls Tryd.prog 40 #[.int .i64 (x : Nat), .int .i64 11] w fun e w' => e = .returned (.int .i64 (rr x 11 : Nat)) ∧ w' = w.drew := by
  have HC := Lib.hid (add_rr x 11 2097152 2048 (by decide) (by decide) (by decide) hx)
  go_enter Tryd.func40, Tryd.ntmps40
  go_wp2_with (go_region)
  go_ret
  exact ⟨ret_eq (congrArg (Value.int .i64) HC.out), rfl⟩
set_option maxRecDepth 100000 in
theorem right13 (x : Nat) (hx : x < 4294967296) (w : World) : Calls Tryd.prog 40 #[.int .i64 (x : Nat), .int .i64 13] w fun e w' => e = .returned (.int .i64 (rr x 13 : Nat)) ∧ w' = w.drew := by
  have HC := Lib.hid (add_rr x 13 524288 8192 (by decide) (by decide) (by decide) hx)
  go_enter Tryd.func40, Tryd.ntmps40
  go_wp2_with (go_region)
  go_ret
  exact ⟨ret_eq (congrArg (Value.int .i64) HC.out), rfl⟩
set_option maxRecDepth 100000 in
theorem right17 (x : Nat) (hx : x < 4294967296) (w : World) : Calls Tryd.prog 40 #[.int .i64 (x : Nat), .int .i64 17] w fun e w' => e = .returned (.int .i64 (rr x 17 : Nat)) ∧ w' = w.drew := by
  have HC := Lib.hid (add_rr x 17 32768 131072 (by decide) (by decide) (by decide) hx)
  go_enter Tryd.func40, Tryd.ntmps40
  go_wp2_with (go_region)
  go_ret
  exact ⟨ret_eq (congrArg (Value.int .i64) HC.out), rfl⟩
set_option maxRecDepth 100000 in
theorem right18 (x : Nat) (hx : x < 4294967296) (w : World) : Calls Tryd.prog 40 #[.int .i64 (x : Nat), .int .i64 18] w fun e w' => e = .returned (.int .i64 (rr x 18 : Nat)) ∧ w' = w.drew := by
  have HC := Lib.hid (add_rr x 18 16384 262144 (by decide) (by decide) (by decide) hx)
  go_enter Tryd.func40, Tryd.ntmps40
  go_wp2_with (go_region)
  go_ret
  exact ⟨ret_eq (congrArg (Value.int .i64) HC.out), rfl⟩
set_option maxRecDepth 100000 in
theorem right19 (x : Nat) (hx : x < 4294967296) (w : World) : Calls Tryd.prog 40 #[.int .i64 (x : Nat), .int .i64 19] w fun e w' => e = .returned (.int .i64 (rr x 19 : Nat)) ∧ w' = w.drew := by
  have HC := Lib.hid (add_rr x 19 8192 524288 (by decide) (by decide) (by decide) hx)
  go_enter Tryd.func40, Tryd.ntmps40
  go_wp2_with (go_region)
  go_ret
  exact ⟨ret_eq (congrArg (Value.int .i64) HC.out), rfl⟩
set_option maxRecDepth 100000 in
theorem right22 (x : Nat) (hx : x < 4294967296) (w : World) : Calls Tryd.prog 40 #[.int .i64 (x : Nat), .int .i64 22] w fun e w' => e = .returned (.int .i64 (rr x 22 : Nat)) ∧ w' = w.drew := by
  have HC := Lib.hid (add_rr x 22 1024 4194304 (by decide) (by decide) (by decide) hx)
  go_enter Tryd.func40, Tryd.ntmps40
  go_wp2_with (go_region)
  go_ret
  exact ⟨ret_eq (congrArg (Value.int .i64) HC.out), rfl⟩
set_option maxRecDepth 100000 in
theorem right25 (x : Nat) (hx : x < 4294967296) (w : World) : Calls Tryd.prog 40 #[.int .i64 (x : Nat), .int .i64 25] w fun e w' => e = .returned (.int .i64 (rr x 25 : Nat)) ∧ w' = w.drew := by
  have HC := Lib.hid (add_rr x 25 128 33554432 (by decide) (by decide) (by decide) hx)
  go_enter Tryd.func40, Tryd.ntmps40
  go_wp2_with (go_region)
  go_ret
  exact ⟨ret_eq (congrArg (Value.int .i64) HC.out), rfl⟩
theorem right_any (x n : Nat) (hx : x < 4294967296) (hn : Pl n) (w : World) : Calls Tryd.prog 40 #[.int .i64 (x : Nat), .int .i64 (n : Nat)] w fun e w' => e = .returned (.int .i64 (rr x n : Nat)) ∧ w' = w.drew := by
  rcases hn with rfl | rfl | rfl | rfl | rfl | rfl | rfl | rfl | rfl | rfl
  · exact right2 x hx w
  · exact right6 x hx w
  · exact right7 x hx w
  · exact right11 x hx w
  · exact right13 x hx w
  · exact right17 x hx w
  · exact right18 x hx w
  · exact right19 x hx w
  · exact right22 x hx w
  · exact right25 x hx w

theorem u64_nat (a : Nat) (h : a < 18446744073709551616) : (BitVec.ofInt 64 (a : Int)).toNat = a := by
  rw [BitVec.ofInt_natCast, BitVec.toNat_ofNat]; exact Nat.mod_eq_of_lt (by omega)
theorem wrap_i64_nat (a : Nat) (h : a < 9223372036854775808) : IntKind.i64.wrap ((a : Nat) : Int) = (a : Int) := by
  rw [IntKind.wrap_i64]; omega
theorem bits_and64 (a b : Nat) (ha : a < 4294967296) (hb : b < 4294967296) : bits .and .i64 (a : Int) (b : Int) = ((a &&& b : Nat) : Int) := by
  show IntKind.i64.wrap ((BitVec.ofInt 64 (a : Int) &&& BitVec.ofInt 64 (b : Int)).toNat : Int) = _
  have := and_lt a b hb
  rw [BitVec.toNat_and, u64_nat a (by omega), u64_nat b (by omega), wrap_i64_nat _ (by omega)]
theorem bits_xor64 (a b : Nat) (ha : a < 4294967296) (hb : b < 4294967296) : bits .xor .i64 (a : Int) (b : Int) = ((a ^^^ b : Nat) : Int) := by
  show IntKind.i64.wrap ((BitVec.ofInt 64 (a : Int) ^^^ BitVec.ofInt 64 (b : Int)).toNat : Int) = _
  have := xor_lt a b ha hb
  rw [BitVec.toNat_xor, u64_nat a (by omega), u64_nat b (by omega), wrap_i64_nat _ (by omega)]

set_option maxRecDepth 100000 in
theorem pick_any (x y z : Nat) (hx : x < 4294967296) (hy : y < 4294967296) (hz : z < 4294967296) (w : World) : Calls Tryd.prog 41 #[.int .i64 (x : Nat), .int .i64 (y : Nat), .int .i64 (z : Nat)] w fun e w' => e = .returned (.int .i64 (chx x y z : Nat)) ∧ w = w' := by
  have HC := Lib.hid (show bits BinOp.xor IntKind.i64 (bits BinOp.and IntKind.i64 (x : Int) (y : Int)) (bits BinOp.and IntKind.i64 (4294967295 - (x : Int)) (z : Int)) = ((chx x y z : Nat) : Int) by
    rw [show (4294967295 : Int) - (x : Int) = ((4294967295 - x : Nat) : Int) by omega, bits_and64 _ _ hx hy, bits_and64 _ _ (by omega) hz, bits_xor64 _ _ (and_lt _ _ hy) (and_lt _ _ hz)]
    rfl)
  go_enter Tryd.func41, Tryd.ntmps41
  go_wp2_with fail
  go_ret
  exact ⟨ret_eq (congrArg (Value.int .i64) HC.out), rfl⟩
set_option maxRecDepth 100000 in
theorem most_any (x y z : Nat) (hx : x < 4294967296) (hy : y < 4294967296) (hz : z < 4294967296) (w : World) : Calls Tryd.prog 42 #[.int .i64 (x : Nat), .int .i64 (y : Nat), .int .i64 (z : Nat)] w fun e w' => e = .returned (.int .i64 (majx x y z : Nat)) ∧ w = w' := by
  have HC := Lib.hid (show bits BinOp.xor IntKind.i64 (bits BinOp.xor IntKind.i64 (bits BinOp.and IntKind.i64 (x : Int) (y : Int)) (bits BinOp.and IntKind.i64 (x : Int) (z : Int))) (bits BinOp.and IntKind.i64 (y : Int) (z : Int)) = ((majx x y z : Nat) : Int) by
    rw [bits_and64 _ _ hx hy, bits_and64 _ _ hx hz, bits_and64 _ _ hy hz, bits_xor64 _ _ (and_lt _ _ hy) (and_lt _ _ hz), bits_xor64 _ _ (xor_lt _ _ (and_lt _ _ hy) (and_lt _ _ hz)) (and_lt _ _ hz)]
    rfl)
  go_enter Tryd.func42, Tryd.ntmps42
  go_wp2_with fail
  go_ret
  exact ⟨ret_eq (congrArg (Value.int .i64) HC.out), rfl⟩
end Go.Proofs.YtmlacbdonkfbdaaDoor
