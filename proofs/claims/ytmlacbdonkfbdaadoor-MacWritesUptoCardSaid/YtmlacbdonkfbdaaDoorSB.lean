/- The leaves of package sha: rotations, and the functions of words. -/
import Derived.Test.YtmlacbdonkfbdaaDoorSK
namespace Go.Proofs.YtmlacbdonkfbdaaDoor
open Go.RowKit

theorem u32_nat (a : Nat) (h : a < 4294967296) : (BitVec.ofInt 32 (a : Int)).toNat = a := by
  rw [BitVec.ofInt_natCast, BitVec.toNat_ofNat]; exact Nat.mod_eq_of_lt (by omega)
theorem and_lt (a b : Nat) (hb : b < 4294967296) : a &&& b < 4294967296 := Nat.and_lt_two_pow (n := 32) _ (by omega)
theorem or_lt (a b : Nat) (ha : a < 4294967296) (hb : b < 4294967296) : a ||| b < 4294967296 := Nat.or_lt_two_pow (n := 32) (by omega) (by omega)
theorem xor_lt (a b : Nat) (ha : a < 4294967296) (hb : b < 4294967296) : a ^^^ b < 4294967296 := Nat.xor_lt_two_pow (n := 32) (by omega) (by omega)
theorem bits_and32 (a b : Nat) (ha : a < 4294967296) (hb : b < 4294967296) : bits .and .u32 (a : Int) (b : Int) = ((a &&& b : Nat) : Int) := by
  show IntKind.u32.wrap ((BitVec.ofInt 32 (a : Int) &&& BitVec.ofInt 32 (b : Int)).toNat : Int) = _
  have := and_lt a b hb
  rw [BitVec.toNat_and, u32_nat a ha, u32_nat b hb, IntKind.wrap_u32]
  omega
theorem bits_or32 (a b : Nat) (ha : a < 4294967296) (hb : b < 4294967296) : bits .or .u32 (a : Int) (b : Int) = ((a ||| b : Nat) : Int) := by
  show IntKind.u32.wrap ((BitVec.ofInt 32 (a : Int) ||| BitVec.ofInt 32 (b : Int)).toNat : Int) = _
  have := or_lt a b ha hb
  rw [BitVec.toNat_or, u32_nat a ha, u32_nat b hb, IntKind.wrap_u32]
  omega
theorem bits_xor32 (a b : Nat) (ha : a < 4294967296) (hb : b < 4294967296) : bits .xor .u32 (a : Int) (b : Int) = ((a ^^^ b : Nat) : Int) := by
  show IntKind.u32.wrap ((BitVec.ofInt 32 (a : Int) ^^^ BitVec.ofInt 32 (b : Int)).toNat : Int) = _
  have := xor_lt a b ha hb
  rw [BitVec.toNat_xor, u32_nat a ha, u32_nat b hb, IntKind.wrap_u32]
  omega
theorem u32_max : IntKind.u32.max = 4294967295 := by kernel_rfl
theorem u32_signed : IntKind.u32.signed = false := by kernel_rfl
theorem xor_max (x : Nat) (h : x < 4294967296) : 4294967295 ^^^ x = 4294967295 - x := by
  have h1 : (4294967295 : Nat) = 2 ^ 32 - 1 := by decide
  refine Nat.eq_of_testBit_eq fun i => ?_
  rw [Nat.testBit_xor]
  have e : 4294967295 - x = 2 ^ 32 - (x + 1) := by omega
  rw [e, Nat.testBit_two_pow_sub_succ (by omega), h1, Nat.testBit_two_pow_sub_one]
  by_cases hi : i < 32
  · simp [hi]
  · have : x.testBit i = false := Nat.testBit_lt_two_pow (Nat.lt_of_lt_of_le (show x < 2 ^ 32 by omega) (Nat.pow_le_pow_right (by omega) (by omega)))
    simp [hi, this]
theorem rr_lt (x n : Nat) (hx : x < 4294967296) : rr x n < 4294967296 :=
  or_lt _ _ (Nat.mod_lt _ (by omega)) (Nat.lt_of_le_of_lt (Nat.div_le_self _ _) hx)
theorem chx_lt (x y z : Nat) (hy : y < 4294967296) (hz : z < 4294967296) : chx x y z < 4294967296 := xor_lt _ _ (and_lt _ _ hy) (and_lt _ _ hz)
theorem majx_lt (x y z : Nat) (hy : y < 4294967296) (hz : z < 4294967296) : majx x y z < 4294967296 := xor_lt _ _ (xor_lt _ _ (and_lt _ _ hy) (and_lt _ _ hz)) (and_lt _ _ hz)
theorem xr_snoc (x : Nat) (ns : List Nat) (n : Nat) : xr x (ns ++ [n]) = xr x ns ^^^ rr x n := by unfold xr; rw [List.foldl_append]; rfl
theorem xr_lt (x : Nat) (hx : x < 4294967296) : ∀ ns : List Nat, xr x ns < 4294967296 := by
  have h : ∀ (ns : List Nat) (j : Nat), j < 4294967296 → ns.foldl (fun j n => j ^^^ rr x n) j < 4294967296 := by
    intro ns
    induction ns with
    | nil => intro j hj; exact hj
    | cons n ns ih => intro j hj; exact ih _ (xor_lt _ _ hj (rr_lt x n hx))
  exact fun ns => h ns 0 (by omega)
theorem cast_rr (x n m d : Nat) (hm : 2 ^ (32 - n) = m) (hd : 2 ^ n = d) (hx : x < 4294967296) :
    bits BinOp.or IntKind.u32 (((x : Nat) : Int) * ((m : Nat) : Int) % 4294967296) (((x : Nat) : Int) / ((d : Nat) : Int)) = ((rr x n : Nat) : Int) := by
  have h1 : (((x : Nat) : Int) * ((m : Nat) : Int) % 4294967296) = ((x * m % 4294967296 : Nat) : Int) := by rw [Int.natCast_emod, Int.natCast_mul]; rfl
  have h2 : (((x : Nat) : Int) / ((d : Nat) : Int)) = ((x / d : Nat) : Int) := by rw [Int.natCast_ediv]
  rw [h1, h2, bits_or32 _ _ (Nat.mod_lt _ (by omega)) (Nat.lt_of_le_of_lt (Nat.div_le_self _ _) hx)]
  unfold rr
  rw [hm, hd]

set_option maxRecDepth 100000 in
theorem rot2 (x : Nat) (hx : x < 4294967296) (w : World) : Calls Tryd.prog 52 #[.int .u32 (x : Nat), .int .i64 (-2)] w fun e w' => e = .returned (.int .u32 (rr x 2 : Nat)) ∧ w = w' := by
  have h1 : bits BinOp.and IntKind.u64 (IntKind.u64.wrap (-2)) 31 = 30 := by kernel_rfl
  have HC := Lib.hid (cast_rr x 2 1073741824 4 (by decide) (by decide) hx)
  go_enter Tryd.func52, Tryd.ntmps52
  go_wp2_with fail
  go_ret
  exact ⟨ret_eq (congrArg (Value.int .u32) HC.out), rfl⟩
set_option maxRecDepth 100000 in
theorem rot6 (x : Nat) (hx : x < 4294967296) (w : World) : Calls Tryd.prog 52 #[.int .u32 (x : Nat), .int .i64 (-6)] w fun e w' => e = .returned (.int .u32 (rr x 6 : Nat)) ∧ w = w' := by
  have h1 : bits BinOp.and IntKind.u64 (IntKind.u64.wrap (-6)) 31 = 26 := by kernel_rfl
  have HC := Lib.hid (cast_rr x 6 67108864 64 (by decide) (by decide) hx)
  go_enter Tryd.func52, Tryd.ntmps52
  go_wp2_with fail
  go_ret
  exact ⟨ret_eq (congrArg (Value.int .u32) HC.out), rfl⟩
set_option maxRecDepth 100000 in
theorem rot7 (x : Nat) (hx : x < 4294967296) (w : World) : Calls Tryd.prog 52 #[.int .u32 (x : Nat), .int .i64 (-7)] w fun e w' => e = .returned (.int .u32 (rr x 7 : Nat)) ∧ w = w' := by
  have h1 : bits BinOp.and IntKind.u64 (IntKind.u64.wrap (-7)) 31 = 25 := by kernel_rfl
  have HC := Lib.hid (cast_rr x 7 33554432 128 (by decide) (by decide) hx)
  go_enter Tryd.func52, Tryd.ntmps52
  go_wp2_with fail
  go_ret
  exact ⟨ret_eq (congrArg (Value.int .u32) HC.out), rfl⟩
set_option maxRecDepth 100000 in
theorem rot11 (x : Nat) (hx : x < 4294967296) (w : World) : Calls Tryd.prog 52 #[.int .u32 (x : Nat), .int .i64 (-11)] w fun e w' => e = .returned (.int .u32 (rr x 11 : Nat)) ∧ w = w' := by
  have h1 : bits BinOp.and IntKind.u64 (IntKind.u64.wrap (-11)) 31 = 21 := by kernel_rfl
  have HC := Lib.hid (cast_rr x 11 2097152 2048 (by decide) (by decide) hx)
  go_enter Tryd.func52, Tryd.ntmps52
  go_wp2_with fail
  go_ret
  exact ⟨ret_eq (congrArg (Value.int .u32) HC.out), rfl⟩
set_option maxRecDepth 100000 in
theorem rot13 (x : Nat) (hx : x < 4294967296) (w : World) : Calls Tryd.prog 52 #[.int .u32 (x : Nat), .int .i64 (-13)] w fun e w' => e = .returned (.int .u32 (rr x 13 : Nat)) ∧ w = w' := by
  have h1 : bits BinOp.and IntKind.u64 (IntKind.u64.wrap (-13)) 31 = 19 := by kernel_rfl
  have HC := Lib.hid (cast_rr x 13 524288 8192 (by decide) (by decide) hx)
  go_enter Tryd.func52, Tryd.ntmps52
  go_wp2_with fail
  go_ret
  exact ⟨ret_eq (congrArg (Value.int .u32) HC.out), rfl⟩
set_option maxRecDepth 100000 in
theorem rot17 (x : Nat) (hx : x < 4294967296) (w : World) : Calls Tryd.prog 52 #[.int .u32 (x : Nat), .int .i64 (-17)] w fun e w' => e = .returned (.int .u32 (rr x 17 : Nat)) ∧ w = w' := by
  have h1 : bits BinOp.and IntKind.u64 (IntKind.u64.wrap (-17)) 31 = 15 := by kernel_rfl
  have HC := Lib.hid (cast_rr x 17 32768 131072 (by decide) (by decide) hx)
  go_enter Tryd.func52, Tryd.ntmps52
  go_wp2_with fail
  go_ret
  exact ⟨ret_eq (congrArg (Value.int .u32) HC.out), rfl⟩
set_option maxRecDepth 100000 in
theorem rot18 (x : Nat) (hx : x < 4294967296) (w : World) : Calls Tryd.prog 52 #[.int .u32 (x : Nat), .int .i64 (-18)] w fun e w' => e = .returned (.int .u32 (rr x 18 : Nat)) ∧ w = w' := by
  have h1 : bits BinOp.and IntKind.u64 (IntKind.u64.wrap (-18)) 31 = 14 := by kernel_rfl
  have HC := Lib.hid (cast_rr x 18 16384 262144 (by decide) (by decide) hx)
  go_enter Tryd.func52, Tryd.ntmps52
  go_wp2_with fail
  go_ret
  exact ⟨ret_eq (congrArg (Value.int .u32) HC.out), rfl⟩
set_option maxRecDepth 100000 in
theorem rot19 (x : Nat) (hx : x < 4294967296) (w : World) : Calls Tryd.prog 52 #[.int .u32 (x : Nat), .int .i64 (-19)] w fun e w' => e = .returned (.int .u32 (rr x 19 : Nat)) ∧ w = w' := by
  have h1 : bits BinOp.and IntKind.u64 (IntKind.u64.wrap (-19)) 31 = 13 := by kernel_rfl
  have HC := Lib.hid (cast_rr x 19 8192 524288 (by decide) (by decide) hx)
  go_enter Tryd.func52, Tryd.ntmps52
  go_wp2_with fail
  go_ret
  exact ⟨ret_eq (congrArg (Value.int .u32) HC.out), rfl⟩
set_option maxRecDepth 100000 in
theorem rot22 (x : Nat) (hx : x < 4294967296) (w : World) : Calls Tryd.prog 52 #[.int .u32 (x : Nat), .int .i64 (-22)] w fun e w' => e = .returned (.int .u32 (rr x 22 : Nat)) ∧ w = w' := by
  have h1 : bits BinOp.and IntKind.u64 (IntKind.u64.wrap (-22)) 31 = 10 := by kernel_rfl
  have HC := Lib.hid (cast_rr x 22 1024 4194304 (by decide) (by decide) hx)
  go_enter Tryd.func52, Tryd.ntmps52
  go_wp2_with fail
  go_ret
  exact ⟨ret_eq (congrArg (Value.int .u32) HC.out), rfl⟩
set_option maxRecDepth 100000 in
theorem rot25 (x : Nat) (hx : x < 4294967296) (w : World) : Calls Tryd.prog 52 #[.int .u32 (x : Nat), .int .i64 (-25)] w fun e w' => e = .returned (.int .u32 (rr x 25 : Nat)) ∧ w = w' := by
  have h1 : bits BinOp.and IntKind.u64 (IntKind.u64.wrap (-25)) 31 = 7 := by kernel_rfl
  have HC := Lib.hid (cast_rr x 25 128 33554432 (by decide) (by decide) hx)
  go_enter Tryd.func52, Tryd.ntmps52
  go_wp2_with fail
  go_ret
  exact ⟨ret_eq (congrArg (Value.int .u32) HC.out), rfl⟩

/-- The places by which words are rotated. -/
def Pl (n : Nat) : Prop := n = 2 ∨ n = 6 ∨ n = 7 ∨ n = 11 ∨ n = 13 ∨ n = 17 ∨ n = 18 ∨ n = 19 ∨ n = 22 ∨ n = 25
theorem pl_le {n : Nat} (h : Pl n) : 1 ≤ n ∧ n ≤ 31 := by unfold Pl at h; omega
theorem rot_any (x n : Nat) (hx : x < 4294967296) (hn : Pl n) (w : World) : Calls Tryd.prog 52 #[.int .u32 (x : Nat), .int .i64 (-(n : Nat))] w fun e w' => e = .returned (.int .u32 (rr x n : Nat)) ∧ w = w' := by
  rcases hn with rfl | rfl | rfl | rfl | rfl | rfl | rfl | rfl | rfl | rfl
  · exact rot2 x hx w
  · exact rot6 x hx w
  · exact rot7 x hx w
  · exact rot11 x hx w
  · exact rot13 x hx w
  · exact rot17 x hx w
  · exact rot18 x hx w
  · exact rot19 x hx w
  · exact rot22 x hx w
  · exact rot25 x hx w

set_option maxRecDepth 100000 in
theorem ch_any (x y z : Nat) (hx : x < 4294967296) (hy : y < 4294967296) (hz : z < 4294967296) (w : World) : Calls Tryd.prog 43 #[.int .u32 (x : Nat), .int .u32 (y : Nat), .int .u32 (z : Nat)] w fun e w' => e = .returned (.int .u32 (chx x y z : Nat)) ∧ w = w' := by
  have hs := u32_signed
  have HC := Lib.hid (show bits BinOp.xor IntKind.u32 (bits BinOp.and IntKind.u32 (x : Int) (y : Int)) (bits BinOp.and IntKind.u32 (bits BinOp.xor IntKind.u32 IntKind.u32.max (x : Int)) (z : Int)) = ((chx x y z : Nat) : Int) by
    rw [u32_max, show (4294967295 : Int) = ((4294967295 : Nat) : Int) from rfl, bits_xor32 _ _ (by omega) hx, bits_and32 _ _ hx hy, bits_and32 _ _ (xor_lt _ _ (by omega) hx) hz, bits_xor32 _ _ (and_lt _ _ hy) (and_lt _ _ hz), xor_max x hx]
    rfl)
  go_enter Tryd.func43, Tryd.ntmps43
  go_wp2_with fail
  go_ret
  exact ⟨ret_eq (congrArg (Value.int .u32) HC.out), rfl⟩
set_option maxRecDepth 100000 in
theorem maj_any (x y z : Nat) (hx : x < 4294967296) (hy : y < 4294967296) (hz : z < 4294967296) (w : World) : Calls Tryd.prog 44 #[.int .u32 (x : Nat), .int .u32 (y : Nat), .int .u32 (z : Nat)] w fun e w' => e = .returned (.int .u32 (majx x y z : Nat)) ∧ w = w' := by
  have HC := Lib.hid (show bits BinOp.xor IntKind.u32 (bits BinOp.xor IntKind.u32 (bits BinOp.and IntKind.u32 (x : Int) (y : Int)) (bits BinOp.and IntKind.u32 (x : Int) (z : Int))) (bits BinOp.and IntKind.u32 (y : Int) (z : Int)) = ((majx x y z : Nat) : Int) by
    rw [bits_and32 _ _ hx hy, bits_and32 _ _ hx hz, bits_and32 _ _ hy hz, bits_xor32 _ _ (and_lt _ _ hy) (and_lt _ _ hz), bits_xor32 _ _ (xor_lt _ _ (and_lt _ _ hy) (and_lt _ _ hz)) (and_lt _ _ hz)]
    rfl)
  go_enter Tryd.func44, Tryd.ntmps44
  go_wp2_with fail
  go_ret
  exact ⟨ret_eq (congrArg (Value.int .u32) HC.out), rfl⟩

/-- What lies there for a function that joins rotations: the box of its places. -/
def Rots (g : Nat) (ns : List Nat) (w : World) : Prop := (∃ b c, rowN w g = some #[.slice (some ⟨b, 0, none⟩) ns.length c] ∧ rowN w b = some (arr .i64 ns)) ∧ (∀ n ∈ ns, Pl n) ∧ ns.length ≤ 8
theorem Rots.kept {g : Nat} {ns : List Nat} {w w' : World} (h : Rots g ns w) (hb : Below w.heap.size w w') : Rots g ns w' := by
  obtain ⟨⟨b, c, h1, h2⟩, h3⟩ := h
  exact ⟨⟨b, c, keptW hb h1, keptW hb h2⟩, h3⟩
theorem Rots.lt {g : Nat} {ns : List Nat} {w : World} (h : Rots g ns w) : g < w.heap.size := by
  obtain ⟨⟨b, c, h1, h2⟩, h3⟩ := h
  exact rowN_lt h1

set_option maxRecDepth 100000 in
theorem rots_any (x : Nat) (hx : x < 4294967296) (ns : List Nat) (g : Nat) (w : World) (h : Rots g ns w) : Calls Tryd.prog 51 #[.int .u32 (x : Nat), .pointer (some ⟨g, 0, none⟩)] w fun e w' => e = .returned (.int .u32 (xr x ns : Nat)) ∧ w = w' := by
  obtain ⟨⟨b, c, h1, h2⟩, hpl, hl⟩ := h
  obtain ⟨L, hL⟩ : ∃ L, ns.length = L := ⟨_, rfl⟩
  rw [hL] at h1 hl
  have HL := Lib.hid hL
  have c1 := (rowN_cell h1).1 0
  have HR := Lib.hid h2
  have HP := Lib.hid hpl
  clear hL h1 h2 hpl
  go_enter Tryd.func51, Tryd.ntmps51
  go_wp2_with fail
  go_loop [4, 9] (fun j i => ∃ k : Nat, k ≤ L ∧ i = .int .i64 (k : Nat) ∧ j = .int .u32 (xr x (ns.take k) : Nat)) (fun _ i => L - (intOf i).toNat)
  case atStart => exact ⟨0, by omega, rfl, rfl⟩
  case round =>
    obtain ⟨k, hk, rfl, rfl⟩ := hrel
    have hxl := xr_lt x hx (ns.take k)
    by_cases hlt : k < L
    · have hk2 : k < ns.length := by rw [HL.out]; exact hlt
      have hmem : ns.getD k 0 ∈ ns := by rw [List.getD, List.getElem?_eq_getElem hk2]; exact List.getElem_mem _
      have hc := cell_arr HR.out hk2
      have hn := HP.out _ hmem
      have HT := Lib.hid (show xr x (ns.take (k + 1)) = xr x (ns.take k) ^^^ rr x (ns.getD k 0) by
        rw [List.take_succ_eq_append_getElem hk2, xr_snoc, List.getD, List.getElem?_eq_getElem hk2]; rfl)
      obtain ⟨n, hnn⟩ : ∃ n, ns.getD k 0 = n := ⟨_, rfl⟩
      rw [hnn] at hc hn HT
      have hn2 := pl_le hn
      have HX := Lib.hid (bits_xor32 _ _ hxl (rr_lt x n hx))
      have HRO := Lib.hid (fun W => rot_any x n hx hn W)
      clear hnn hmem hk2 hn
      go_wp2_with fail
      refine (HRO.out _).mono ?_
      rintro e w1 ⟨rfl, rfl⟩
      go_wp2_with fail
      rw [HX.out]
      refine ⟨⟨k + 1, by omega, by go_num, by rw [HT.out]⟩, by simp [intOf]; omega⟩
    · obtain rfl : k = L := by omega
      go_wp2_with fail
      go_ret
      exact ⟨ret_eq (by rw [List.take_of_length_le (by rw [HL.out]; exact Nat.le_refl _)]; rfl), rfl⟩
end Go.Proofs.YtmlacbdonkfbdaaDoor
