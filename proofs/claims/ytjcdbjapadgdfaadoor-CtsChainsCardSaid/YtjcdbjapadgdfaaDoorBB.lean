/- AES: the reference's products of bytes. -/
import Derived.Test.YtjcdbjapadgdfaaDoorAG
import Derived.Test.YtjcdbjapadgdfaaDoorCX
namespace Go.Proofs.YtjcdbjapadgdfaaDoor
open Go.RowKit

attribute [local go_sem] Oper.semAt_some
theorem xt_hi : ∀ x, x < 256 → 128 ≤ x → (2 * x % 256) ^^^ 27 = xt x := by decide +kernel
theorem xt_lo : ∀ x, x < 128 → 2 * x = xt x := by decide +kernel
set_option maxRecDepth 100000 in
theorem twice_any (x : Nat) (hx : x < 256) (w : World) : Calls Tryd.prog 31 #[.int .u8 (x : Nat)] w fun e w' => e = .returned (.int .u8 (xt x : Nat)) ∧ w = w' := by
  by_cases h : x < 128
  · have h1 : ¬ (128 : Int) ≤ ((x : Nat) : Int) := by omega
    have h2 : ((x : Nat) : Int) * 2 = ((xt x : Nat) : Int) := by rw [← xt_lo x h]; omega
    obtain ⟨y, hy⟩ : ∃ y, xt x = y := ⟨_, rfl⟩
    rw [hy] at h2 ⊢
    clear hy
    go_enter Tryd.func31, Tryd.ntmps31
    go_wp2_with fail
    go_ret
    exact ⟨ret_eq (congrArg (Value.int .u8) (by first | exact h2 | rfl)), rfl⟩
  · have h1 : (128 : Int) ≤ ((x : Nat) : Int) := by omega
    have h2 : bits BinOp.xor IntKind.u8 (((x : Nat) : Int) * 2 % 256) 27 = ((xt x : Nat) : Int) := by
      rw [show ((x : Nat) : Int) * 2 % 256 = ((2 * x % 256 : Nat) : Int) by omega, show (27 : Int) = ((27 : Nat) : Int) from rfl, bits_xor8 _ _ (by omega) (by omega), xt_hi x hx (by omega)]
    obtain ⟨y, hy⟩ : ∃ y, xt x = y := ⟨_, rfl⟩
    rw [hy] at h2 ⊢
    clear hy
    go_enter Tryd.func31, Tryd.ntmps31
    go_wp2_with fail
    go_ret
    exact ⟨ret_eq (congrArg (Value.int .u8) (by first | exact h2 | rfl)), rfl⟩
/-- The product of two bytes, for a factor below 2^n. -/
def gm : Nat → Nat → Nat → Nat
  | 0, _, _ => 0
  | n + 1, a, b => (if a % 2 = 1 then b else 0) ^^^ gm n (a / 2) (xt b)
theorem gm_lt : ∀ (n a b : Nat), b < 256 → gm n a b < 256
  | 0, _, _, _ => by unfold gm; omega
  | n + 1, a, b, hb => by
    unfold gm
    exact xor8 (by split <;> omega) (gm_lt n (a / 2) (xt b) (xt_lt b hb))
theorem gm_zero : ∀ (n b : Nat), gm n 0 b = 0
  | 0, _ => rfl
  | n + 1, b => by unfold gm; rw [show 0 / 2 = 0 from rfl, gm_zero n, if_neg (by omega)]; rfl
def TmR (t : Nat) (w : World) (a b o : Value) (wr : World) : Prop :=
  ∃ n x y z : Nat, n ≤ 8 ∧ x < 2 ^ n ∧ y < 256 ∧ z < 256 ∧ a = .int .u8 (x : Nat) ∧ b = .int .u8 (y : Nat) ∧ o = .int .u8 (z : Nat) ∧ z ^^^ gm n x y = t ∧ w = wr
set_option maxRecDepth 100000 in
theorem times_any (a b : Nat) (ha : a < 256) (hb : b < 256) (w : World) : Calls Tryd.prog 46 #[.int .u8 (a : Nat), .int .u8 (b : Nat)] w fun e w' => e = .returned (.int .u8 (gm 8 a b : Nat)) ∧ w = w' := by
  have HI0 := Lib.hid (show TmR (gm 8 a b) w (.int .u8 (a : Nat)) (.int .u8 (b : Nat)) (.int .u8 0) w from ⟨8, a, b, 0, by omega, ha, hb, by omega, rfl, rfl, rfl, by rw [Nat.zero_xor], rfl⟩)
  obtain ⟨t, ht⟩ : ∃ t, gm 8 a b = t := ⟨_, rfl⟩
  rw [ht] at HI0 ⊢
  clear ht
  go_enter Tryd.func46, Tryd.ntmps46
  go_wp2_with fail
  go_loopw [0, 1, 5] (fun a b o wr => TmR t w a b o wr) (fun a _ _ _ => (intOf a).toNat)
  case atStart => exact HI0.out
  case round =>
    obtain ⟨n, x, y, z, hn, hx, hy, hz, rfl, rfl, rfl, hT, rfl⟩ := hrel
    have HT := Lib.hid hT
    have HX := Lib.hid hx
    clear hT hx
    have hx256 : x < 256 := Nat.lt_of_lt_of_le HX.out (by have := Nat.pow_le_pow_right (show 0 < 2 by omega) hn; simpa using this)
    by_cases h0 : x = 0
    · subst h0
      have HZ := Lib.hid (show z = t by rw [← HT.out, gm_zero, Nat.xor_zero])
      clear HT HX
      go_wp2_with fail
      go_ret
      exact ⟨by rw [← HZ.out]; rfl, rfl⟩
    · obtain ⟨m, rfl⟩ : ∃ m, n = m + 1 := by
        cases n with
        | zero => exact absurd HX.out (by omega)
        | succ m => exact ⟨m, rfl⟩
      have hpos : (0 : Int) < ((x : Nat) : Int) := by omega
      have hX2 : x / 2 < 2 ^ m := by have := HX.out; rw [Nat.pow_succ] at this; omega
      have HX2 := Lib.hid hX2
      have HTW := Lib.hid (fun W => twice_any y hy W)
      have HYL := Lib.hid (xt_lt y hy)
      have hq : ((x : Nat) : Int) / 2 = ((x / 2 : Nat) : Int) := by omega
      have hq2 : ((x : Nat) : Int).tdiv 2 = ((x / 2 : Nat) : Int) := by rw [Int.tdiv_eq_ediv_of_nonneg (by omega)]; omega
      have HG := Lib.hid (show gm (m + 1) x y = (if x % 2 = 1 then y else 0) ^^^ gm m (x / 2) (xt y) from rfl)
      obtain ⟨xx, hxx⟩ : ∃ q, x / 2 = q := ⟨_, rfl⟩
      obtain ⟨yy, hyy⟩ : ∃ q, xt y = q := ⟨_, rfl⟩
      have hlt2 : xx < x := by omega
      rw [hxx] at HX2 hq hq2 HG
      rw [hyy] at HTW HYL HG
      clear hX2 hyy
      by_cases hodd : x % 2 = 1
      · have o1 : ((x : Nat) : Int) % 2 = 1 := by omega
        have o2 : ((x : Nat) : Int).tmod 2 = 1 := by rw [Int.tmod_eq_emod_of_nonneg (by omega)]; omega
        have hzy := bits_xor8 z y hz hy
        have HZL := Lib.hid (xor8 hz hy)
        have HT2 := Lib.hid (show (z ^^^ y) ^^^ gm m xx yy = t by rw [← HT.out, HG.out, if_pos hodd, Nat.xor_assoc])
        obtain ⟨zz, hzz⟩ : ∃ q, z ^^^ y = q := ⟨_, rfl⟩
        rw [hzz] at hzy HZL HT2
        clear hzz hxx
        go_wp2_with fail
        refine (HTW.out _).mono ?_
        rintro e w1 ⟨rfl, rfl⟩
        go_wp2_with fail
        exact ⟨⟨m, xx, yy, zz, by omega, HX2.out, HYL.out, HZL.out, (by first | rfl | rw [hq]), rfl, (by first | rfl | rw [hzy]), HT2.out, (by first | rfl | trivial)⟩, by simp [intOf]; omega⟩
      · have o1 : ((x : Nat) : Int) % 2 = 0 := by omega
        have o2 : ((x : Nat) : Int).tmod 2 = 0 := by rw [Int.tmod_eq_emod_of_nonneg (by omega)]; omega
        have HT2 := Lib.hid (show z ^^^ gm m xx yy = t by rw [← HT.out, HG.out, if_neg hodd, Nat.zero_xor])
        clear hxx
        go_wp2_with fail
        refine (HTW.out _).mono ?_
        rintro e w1 ⟨rfl, rfl⟩
        go_wp2_with fail
        exact ⟨⟨m, xx, yy, z, by omega, HX2.out, HYL.out, hz, (by first | rfl | rw [hq]), rfl, rfl, HT2.out, (by first | rfl | trivial)⟩, by simp [intOf]; omega⟩
end Go.Proofs.YtjcdbjapadgdfaaDoor
