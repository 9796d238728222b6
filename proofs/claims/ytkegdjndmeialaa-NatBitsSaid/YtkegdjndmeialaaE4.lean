/- The two shifts. -/
import Derived.Test.YtkegdjndmeialaaE3
import Derived.Test.YtkegdjndmeialaaC1
namespace Go.Proofs.Ytkegdjndmeialaa
open Go.RowKit Go.Shelf

theorem testBit_fold {v : Nat} (n : Int) (j : Nat) : ∀ (pre : List (Bit v)) (a : Nat), (∀ x ∈ pre, 0 ≤ ((x.1 : Nat) : Int) + n) →
    ((pre.foldl (fun a x => a ||| 2 ^ (((x.1 : Nat) : Int) + n).toNat) a).testBit j = true ↔ (a.testBit j = true ∨ ∃ x ∈ pre, ((x.1 : Nat) : Int) + n = j)) := by
  intro pre
  induction pre with
  | nil => intro a _; simp
  | cons y ys ih =>
    intro a h
    have hy := h y (by simp)
    rw [List.foldl_cons, ih _ (fun x hx => h x (by simp [hx])), Nat.testBit_or, Nat.testBit_two_pow, Bool.or_eq_true, decide_eq_true_eq]
    have e : ((((y.1 : Nat) : Int) + n).toNat = j) ↔ (((y.1 : Nat) : Int) + n = j) := by omega
    rw [e]
    constructor
    · rintro ((h1 | h1) | ⟨x, hx, h1⟩)
      · exact .inl h1
      · exact .inr ⟨y, by simp, h1⟩
      · exact .inr ⟨x, by simp [hx], h1⟩
    · rintro (h1 | ⟨x, hx, h1⟩)
      · exact .inl (.inl h1)
      · rcases List.mem_cons.1 hx with e | hx
        · exact .inl (.inr (e ▸ h1))
        · exact .inr ⟨x, hx, h1⟩

theorem orSh_eq {v r : Nat} (n : Int) (pre : List (Bit v)) (hp : ∀ x ∈ pre, 0 ≤ ((x.1 : Nat) : Int) + n) (hm : ∀ x ∈ pre, v.testBit x.1 = true)
    (ha : ∀ y : Bit v, v.testBit y.1 = true → 0 ≤ ((y.1 : Nat) : Int) + n → y ∈ pre)
    (hr : ∀ j, r.testBit j = true ↔ ∃ y, v.testBit y = true ∧ (y : Int) + n = j) : orSh n pre = r := by
  apply Nat.eq_of_testBit_eq
  intro j
  rw [Bool.eq_iff_iff, hr, orSh, testBit_fold n j pre 0 hp]
  constructor
  · rintro (h | ⟨x, hx, h⟩)
    · simp at h
    · exact ⟨x.1, hm x hx, h⟩
  · rintro ⟨y, hy, h⟩
    exact .inr ⟨⟨y, two_pow_dlen hy⟩, ha ⟨y, two_pow_dlen hy⟩ hy (by show 0 ≤ (y : Int) + n; omega), h⟩

theorem left_bits (v k j : Nat) : (v * 2 ^ k).testBit j = true ↔ ∃ y, v.testBit y = true ∧ (y : Int) + (k : Int) = j := by
  rw [← Nat.shiftLeft_eq, Nat.testBit_shiftLeft]
  simp only [Bool.and_eq_true, decide_eq_true_eq]
  constructor
  · rintro ⟨h1, h2⟩
    exact ⟨j - k, h2, by omega⟩
  · rintro ⟨y, h1, h2⟩
    have : y = j - k := by omega
    exact ⟨by omega, this ▸ h1⟩

theorem right_bits (v k j : Nat) : (v / 2 ^ k).testBit j = true ↔ ∃ y, v.testBit y = true ∧ (y : Int) + -(k : Int) = j := by
  rw [← Nat.shiftRight_eq_div_pow, Nat.testBit_shiftRight]
  constructor
  · intro h
    exact ⟨k + j, h, by omega⟩
  · rintro ⟨y, h1, h2⟩
    have : y = k + j := by omega
    exact this ▸ h1

theorem moved_any (v r : Nat) (n : Int) (hv : v < P64 ^ 16) (hn0 : -9223372036854775808 ≤ n) (hn1 : (dlen 2 v : Int) + n ≤ 1024) (hn2 : n ≤ 1024)
    (hr : ∀ j, r.testBit j = true ↔ ∃ y, v.testBit y = true ∧ (y : Int) + n = j) (w : World) :
    Calls Try.prog 68 #[.agg (natA v), .int .i64 n] w fun e w' => e = .returned (.agg (natA r)) ∧ Below w.heap.size w w' := by
  refine (callsIn_wide (n := 3)).1 (moved_in 3 (Nat.le_refl _) v r n hv hn0 hn1 hn2 (fun xs h hp => ?_) (fun pre x h hx hp => ?_) w)
  · exact orSh_eq n xs hp (fun x hx => (h.mem x hx).1) (fun y hy _ => h.all y hy (Nat.zero_le _)) hr
  · refine orSh_eq n pre hp (fun y hy => (h.mem y (by simp [hy])).1) (fun y hy hp' => ?_) hr
    have h1 := h.all y hy (by omega)
    rcases List.mem_append.1 h1 with h1 | h1
    · exact h1
    · simp at h1; subst h1; omega

theorem moved_left (v k : Nat) (hv : v < P64 ^ 16) (h : dlen 2 v + k ≤ 1024) (w : World) :
    Calls Try.prog 68 #[.agg (natA v), .int .i64 (k : Nat)] w fun e w' => e = .returned (.agg (natA (v * 2 ^ k))) ∧ Below w.heap.size w w' :=
  moved_any v _ k hv (by omega) (by omega) (by omega) (left_bits v k) w

theorem moved_right (v k : Nat) (hv : v < P64 ^ 16) (h : k ≤ 9223372036854775807) (w : World) :
    Calls Try.prog 68 #[.agg (natA v), .int .i64 (-(k : Int))] w fun e w' => e = .returned (.agg (natA (v / 2 ^ k))) ∧ Below w.heap.size w w' :=
  moved_any v _ (-(k : Int)) hv (by omega) (by have := dlen2_le hv; omega) (by omega) (right_bits v k) w

set_option maxRecDepth 100000 in
theorem shiftLeft_neg (v : Nat) (n : Int) (hn : n < 0) (w : World) : Calls Try.prog 42 #[.agg (natA v), .int .i64 n] w fun e w' =>
    e = .returned (.tuple #[.agg (natA 0), .int .i64 2]) ∧ Below w.heap.size w w' := by
  go_enter Try.func42, Try.ntmps42
  go_wp2_with fail
  exact ret_nat_tmp _ (natA 0) rfl rfl rfl (by simp [rowN_setRow, rowN_alloc]) (natA_size _) ⟨rfl, below_setRow' (((Below.refl _ _).alloc (Nat.le_refl _) _).alloc (by simp) _) (by simp <;> omega) _⟩


theorem p64_16_pos : 0 < P64 ^ 16 := Nat.pow_pos P64_pos

theorem natEq_zero : natEq 0 0 = true := by rw [natEq_iff p64_16_pos p64_16_pos]; rfl
theorem natEq_pos {v : Nat} (hv : v < P64 ^ 16) (h : v ≠ 0) : natEq v 0 = false := by rw [natEq_iff hv p64_16_pos]; simpa using h

set_option maxRecDepth 100000 in
theorem shiftLeft_zero (n : Int) (hn : 0 ≤ n) (w : World) : Calls Try.prog 42 #[.agg (natA 0), .int .i64 n] w fun e w' =>
    e = .returned (.tuple #[.agg (natA 0), .int .i64 0]) ∧ Below w.heap.size w w' := by
  have HZ := Lib.hid natEq_zero
  go_enter Try.func42, Try.ntmps42
  go_wp2_with fail
  refine (isZero_any 0 _).mono ?_
  rintro e w1 ⟨rfl, hb⟩
  rw [HZ.out]
  have hR : rowN w1 (w.heap.size + 1) = some (natA 0) := by
    rw [brow hb _ (by simp)]; simp only [rowN_alloc, World.size_alloc, if_true] <;> (repeat rw [if_neg (by omega)])
  have HB := Lib.hid ((((Below.refl _ w).alloc (Nat.le_refl _) _).alloc (by simp) _).trans (hb.mono (by simp <;> omega)))
  clear hb
  go_wp2_with fail
  exact ret_nat_tmp _ (natA 0) rfl rfl rfl (by simp [rowN_setRow, hR]) (natA_size _) ⟨rfl, below_setRow' HB.out (by omega) _⟩

set_option maxRecDepth 100000 in
theorem shiftLeft_full (v : Nat) (n : Int) (hv : v < P64 ^ 16) (h0 : v ≠ 0) (hn : 0 ≤ n) (hn1 : n ≤ 9223372036854775807) (h : 1024 < (dlen 2 v : Int) + n) (w : World) : Calls Try.prog 42 #[.agg (natA v), .int .i64 n] w fun e w' =>
    e = .returned (.tuple #[.agg (natA 0), .int .i64 7]) ∧ Below w.heap.size w w' := by
  have HZ := Lib.hid (natEq_pos hv h0)
  have HV := Lib.hid hv
  clear hv h0
  have hL := dlen2_le HV.out
  generalize hD : dlen 2 v = D at *
  have HD := Lib.hid hD
  clear hD
  go_enter Try.func42, Try.ntmps42
  go_wp2_with fail
  refine (isZero_any v _).mono ?_
  rintro e w1 ⟨rfl, hb⟩
  rw [HZ.out]
  have hA : rowN w1 w.heap.size = some (natA v) := by
    rw [brow hb _ (by simp <;> omega)]; simp only [rowN_alloc, World.size_alloc, if_true] <;> (repeat rw [if_neg (by omega)])
  have hR : rowN w1 (w.heap.size + 1) = some (natA 0) := by
    rw [brow hb _ (by simp)]; simp only [rowN_alloc, World.size_alloc, if_true] <;> (repeat rw [if_neg (by omega)])
  have HB := Lib.hid ((((Below.refl _ w).alloc (Nat.le_refl _) _).alloc (by simp) _).trans (hb.mono (by simp <;> omega)))
  have hlt := rowN_lt hR
  have HR := Lib.hid hR
  clear hb hR
  go_wp2_with fail
  refine (bitLen_any v HV.out _).mono ?_
  rintro e w2 ⟨rfl, hb⟩
  rw [HD.out]
  have hR : rowN w2 (w.heap.size + 1) = some (natA 0) := by rw [brow hb _ hlt]; exact HR.out
  have HB2 := Lib.hid (HB.out.trans (hb.mono (by omega)))
  clear hb
  go_wp2_with fail
  exact ret_nat_tmp _ (natA 0) rfl rfl rfl (by simp [rowN_setRow, hR]) (natA_size _) ⟨rfl, below_setRow' HB2.out (by omega) _⟩

set_option maxRecDepth 100000 in
theorem shiftLeft_ok (v k : Nat) (hv : v < P64 ^ 16) (h0 : v ≠ 0) (h : dlen 2 v + k ≤ 1024) (w : World) : Calls Try.prog 42 #[.agg (natA v), .int .i64 (k : Nat)] w fun e w' =>
    e = .returned (.tuple #[.agg (natA (v * 2 ^ k)), .int .i64 0]) ∧ Below w.heap.size w w' := by
  have HZ := Lib.hid (natEq_pos hv h0)
  have HV := Lib.hid hv
  have HM := Lib.hid (moved_left v k hv h)
  clear hv h0
  generalize v * 2 ^ k = r at *
  generalize hD : dlen 2 v = D at *
  have HD := Lib.hid hD
  clear hD
  go_enter Try.func42, Try.ntmps42
  go_wp2_with fail
  refine (isZero_any v _).mono ?_
  rintro e w1 ⟨rfl, hb⟩
  rw [HZ.out]
  have hA : rowN w1 w.heap.size = some (natA v) := by
    rw [brow hb _ (by simp <;> omega)]; simp only [rowN_alloc, World.size_alloc, if_true] <;> (repeat rw [if_neg (by omega)])
  have hR : rowN w1 (w.heap.size + 1) = some (natA 0) := by
    rw [brow hb _ (by simp)]; simp only [rowN_alloc, World.size_alloc, if_true] <;> (repeat rw [if_neg (by omega)])
  have HB := Lib.hid ((((Below.refl _ w).alloc (Nat.le_refl _) _).alloc (by simp) _).trans (hb.mono (by simp <;> omega)))
  have hlt := rowN_lt hR
  have HR := Lib.hid hR
  have HA := Lib.hid hA
  clear hb hR
  go_wp2_with fail
  refine (bitLen_any v HV.out _).mono ?_
  rintro e w2 ⟨rfl, hb⟩
  rw [HD.out]
  have hR2 : rowN w2 (w.heap.size + 1) = some (natA 0) := by rw [brow hb _ hlt]; exact HR.out
  have hA2 : rowN w2 w.heap.size = some (natA v) := by rw [brow hb _ (by omega)]; exact HA.out
  have HB2 := Lib.hid (HB.out.trans (hb.mono (by omega)))
  have hlt2 := rowN_lt hR2
  have HR2 := Lib.hid hR2
  clear hb hA hR2
  go_wp2_with fail
  refine (HM.out _).mono ?_
  rintro e w3 ⟨rfl, hb⟩
  have hR3 : rowN w3 (w.heap.size + 1) = some (natA 0) := by rw [brow hb _ hlt2]; exact HR2.out
  have HB3 := Lib.hid (HB2.out.trans (hb.mono (by omega)))
  clear hb
  go_wp2_with fail
  exact ret_nat_tmp _ (natA r) rfl rfl rfl (by simp [rowN_setRow, hR3]) (natA_size _) ⟨rfl, below_setRow' HB3.out (by omega) _⟩

set_option maxRecDepth 100000 in
theorem shiftRight_neg (v : Nat) (n : Int) (hn : n < 0) (w : World) : Calls Try.prog 43 #[.agg (natA v), .int .i64 n] w fun e w' =>
    e = .returned (.tuple #[.agg (natA 0), .int .i64 2]) ∧ Below w.heap.size w w' := by
  go_enter Try.func43, Try.ntmps43
  go_wp2_with fail
  exact ret_nat_tmp _ (natA 0) rfl rfl rfl (by simp [rowN_setRow, rowN_alloc]) (natA_size _) ⟨rfl, below_setRow' (((Below.refl _ _).alloc (Nat.le_refl _) _).alloc (by simp) _) (by simp <;> omega) _⟩

set_option maxRecDepth 100000 in
theorem shiftRight_ok (v k : Nat) (hv : v < P64 ^ 16) (h : k ≤ 9223372036854775807) (w : World) : Calls Try.prog 43 #[.agg (natA v), .int .i64 (k : Nat)] w fun e w' =>
    e = .returned (.tuple #[.agg (natA (v / 2 ^ k)), .int .i64 0]) ∧ Below w.heap.size w w' := by
  have HM := Lib.hid (moved_right v k hv h)
  clear hv
  generalize v / 2 ^ k = r at *
  go_enter Try.func43, Try.ntmps43
  go_wp2_with fail
  refine (HM.out _).mono ?_
  rintro e w3 ⟨rfl, hb⟩
  have hR3 : rowN w3 (w.heap.size + 1) = some (natA 0) := by
    rw [brow hb _ (by simp)]; simp only [rowN_alloc, World.size_alloc, if_true] <;> (repeat rw [if_neg (by omega)])
  have HB3 := Lib.hid ((((Below.refl _ w).alloc (Nat.le_refl _) _).alloc (by simp) _).trans (hb.mono (by simp <;> omega)))
  clear hb
  go_wp2_with fail
  exact ret_nat_tmp _ (natA r) rfl rfl rfl (by simp [rowN_setRow, hR3]) (natA_size _) ⟨rfl, below_setRow' HB3.out (by omega) _⟩
end Go.Proofs.Ytkegdjndmeialaa
