/- NatShifts, walked. -/
import Derived.Test.YtkegdjndmeialaaT0
import Derived.Test.YtkegdjndmeialaaR9
import Derived.Test.YtkegdjndmeialaaQ6
namespace Go.Proofs.Ytkegdjndmeialaa
open Go.RowKit

theorem rdivide_ref (v u m : Nat) (s t : Value) (w : World) (hs : DigN v m s w) (ht : RefN u t w) (hm : m ≤ 100000) (hn : dlen 65536 u ≤ 100000) (hu : 0 < u) :
    Calls Try.prog 41 #[s, t] w fun e w' => ∃ q r, e = .returned (.tuple #[q, r]) ∧ RefN (v / u) q w' ∧ RefN (v % u) r w' ∧ Below w.heap.size w w' := by
  obtain ⟨h1, h2⟩ := dlen_le_of (B := 65536) (by omega) (show u ≠ 0 by omega)
  exact rdivide_any v u m _ s t w hs ht hm hn h1 h2
theorem p64_65536 : P64 ^ 16 = (65536 : Nat) ^ 64 := by rw [P64_16, p16]
theorem pow16_le (m k : Nat) (h : k ≤ 16 * m) : 2 ^ k ≤ 65536 ^ m := by
  rw [show (65536 : Nat) = 2 ^ 16 by decide, ← Nat.pow_mul]
  exact Nat.pow_le_pow_right (by omega) h
theorem dlen_shift {v k : Nat} (hv : v < P64 ^ 16) (hk : k ≤ 1024) : dlen 65536 (v * 2 ^ k) ≤ 129 := by
  rw [p64_65536] at hv
  refine dlen_le (by omega) ?_
  have h1 : 2 ^ k ≤ 65536 ^ 64 := pow16_le 64 k (by omega)
  rw [show (129 : Nat) = 64 + 65 by omega, Nat.pow_add]
  have h2 : (65536 : Nat) ^ 64 ≤ 65536 ^ 65 := Nat.pow_le_pow_right (by omega) (by omega)
  exact Nat.mul_lt_mul_of_lt_of_le hv (Nat.le_trans h1 h2) (Nat.pow_pos (by omega))
theorem ref_shape {v : Nat} {t : Value} {W : World} (h : RefN v t W) : ∃ a c, t = .slice a (dlen 65536 v) c := by
  obtain ⟨_, a, c, h, _⟩ := h
  exact ⟨a, c, h⟩
theorem dlen2_shift {v k : Nat} (h0 : v ≠ 0) : dlen 2 (v * 2 ^ k) = dlen 2 v + k := by
  obtain ⟨h1, h2⟩ := dlen_le_of (B := 2) (by omega) h0
  have h3 := lt_dlen (show 2 ≤ 2 by omega) v
  generalize dlen 2 v = d at *
  refine dlen_eq (by omega) ?_ (.inr ?_)
  · rw [Nat.pow_add]; exact Nat.mul_lt_mul_of_pos_right h3 (Nat.two_pow_pos k)
  · rw [show d + k - 1 = d - 1 + k by omega, Nat.pow_add]; exact Nat.mul_le_mul_right _ h2
theorem right_zero {v k : Nat} (hv : v < P64 ^ 16) (hk : 1024 < k) : v / 2 ^ k = 0 := by
  have h1 := (decide_eq_decide.1 (dlen_1024 (v := v))).1 hv
  have h2 := lt_dlen (show 2 ≤ 2 by omega) v
  exact Nat.div_eq_of_lt (Nat.lt_of_lt_of_le h2 (Nat.pow_le_pow_right (by omega) (by omega)))
theorem fits_iff (x : Nat) : x < P64 ^ 16 ↔ dlen 2 x ≤ 1024 := decide_eq_decide.1 (dlen_1024 (v := x))
theorem fits_shift {v k : Nat} (h : v * 2 ^ k < P64 ^ 16) (h0 : v ≠ 0) : dlen 2 v + k ≤ 1024 := by
  rw [fits_iff, dlen2_shift h0] at h; exact h
theorem full_shift {v k : Nat} (h : ¬ v * 2 ^ k < P64 ^ 16) : v ≠ 0 ∧ 1024 < dlen 2 v + k := by
  have h0 : v ≠ 0 := by
    rintro rfl
    exact h (by rw [Nat.zero_mul]; exact Nat.pow_pos P64_pos)
  rw [fits_iff, dlen2_shift h0] at h
  exact ⟨h0, by omega⟩

set_option maxRecDepth 100000 in
theorem shifts_long (n : Nat) (a : Option Addr) (c : Nat) (k : Int) (w : World) (h : 128 < n) :
    Calls Try.prog 9 #[.slice a n c, .int .i64 k] w fun e w' => e = .returned (.bool true) ∧ Below w.heap.size w w' := by
  go_enter Try.func9, Try.ntmps9
  go_wp2_with fail
  refine (known_any _).mono ?_
  rintro e wK ⟨rfl, hb⟩
  have HBK := Lib.hid hb
  clear hb
  go_wp2_with fail
  go_ret
  exact ⟨rfl, HBK.out⟩

set_option maxRecDepth 100000 in
set_option maxHeartbeats 1000000 in
theorem shifts_neg (zs : List Nat) (a : Option Addr) (c : Nat) (w : World) (hz : BytesAt zs (.slice a zs.length c) w) (h1 : zs.length ≤ 128) (v : Nat) (ev : valBE 256 zs = v) (k : Int) (hk : k < 0) :
    Calls Try.prog 9 #[.slice a zs.length c, .int .i64 k] w fun e w' => e = .returned (.bool true) ∧ Below w.heap.size w w' := by
  have hv : v < P64 ^ 16 := by rw [← ev]; exact short_fits0 hz.1 h1
  have HSL := Lib.hid (shiftLeft_neg v k hk)
  have HSR := Lib.hid (shiftRight_neg v k hk)
  have HM := Lib.hid (fun W hW => made_fits zs (.slice a zs.length c) W hW (by omega) (by rw [ev]; exact hv))
  rw [ev] at HM
  have HY := Lib.hid hz
  have HV := Lib.hid hv
  obtain ⟨n, hn⟩ : ∃ n, zs.length = n := ⟨_, rfl⟩
  rw [hn] at HY HM h1 ⊢
  clear hn hz ev hv
  go_enter Try.func9, Try.ntmps9
  go_wp2_with fail
  refine (HM.out _ HY.out).mono ?_
  rintro e w1 ⟨tv, rfl, ht, hb⟩
  obtain ⟨at1, ct1, rfl⟩ := ref_shape ht
  have HT1 := Lib.hid (ht.kept (bel_st0 w1 v))
  have HB1 := Lib.hid (hb.trans ((bel_st0 w1 v).mono hb.size))
  obtain ⟨L, hL⟩ : ∃ L, dlen 65536 v = L := ⟨_, rfl⟩
  rw [hL] at HT1 ⊢
  have hLL : L ≤ 64 := by rw [← hL]; exact dlen16 HV.out
  have HLL := Lib.hid hL
  clear ht hb hL
  go_wp2_with fail
  refine (HSL.out _).mono ?_
  rintro e w2 ⟨rfl, hb⟩
  obtain ⟨hV2, hk, hB⟩ := stored hb
  have HV2 := Lib.hid hV2
  have HT2 := Lib.hid (HT1.out.kept hb)
  have HB2 := Lib.hid (HB1.out.trans (hb.mono HB1.out.size))
  have lV := rowN_lt hV2
  clear hb hk hB hV2
  obtain ⟨b1, hb1⟩ : ∃ b1, w1.heap.size = b1 := ⟨_, rfl⟩
  rw [hb1] at HV2 lV ⊢
  clear hb1 HT1 HB1
  have hV3 := row_st0_other w2 0 _ _ HV2.out
  go_wp2_with fail
  refine (HSR.out _).mono ?_
  rintro e w3 ⟨rfl, hb⟩
  obtain ⟨hL3, hk, hB⟩ := stored hb
  have HT3 := Lib.hid ((HT2.out.kept (bel_st0 w2 0)).kept hb)
  have HB3 := Lib.hid (HB2.out.trans (hB.mono HB2.out.size))
  have hL4 := row_st0_other w3 0 _ _ hL3
  have hR4 := row_st0 w3 0
  have HT4 := Lib.hid (HT3.out.kept (bel_st0 w3 0))
  have HB4 := Lib.hid (HB3.out.trans ((bel_st0 w3 0).mono HB3.out.size))
  have lL3 := rowN_lt hL3
  obtain ⟨b2, hb2⟩ : ∃ b2, w2.heap.size = b2 := ⟨_, rfl⟩
  rw [hb2] at hL4 hL3 lL3 ⊢
  clear hb hk hB hV3 hb2 HT2 HB2 HT3 HB3 HV2 lV
  have HL4 := Lib.hid hL4
  have HR4 := Lib.hid hR4
  clear hL3
  go_wp2_with fail
  clear hL4 hR4
  obtain ⟨W4, hW4⟩ : ∃ W4, (w3.alloc (.cells (natA 0) 28)).setRow w3.heap.size (natA 0) = W4 := ⟨_, rfl⟩
  rw [hW4] at HL4 HR4 HT4 HB4 ⊢
  obtain ⟨b3, hb3⟩ : ∃ b3, w3.heap.size = b3 := ⟨_, rfl⟩
  rw [hb3] at HR4 lL3 ⊢
  have hL5 := HL4.out
  have hR5 := HR4.out
  clear hW4 hb3
  refine (isZero0 _).mono ?_
  rintro e w5 ⟨rfl, hb⟩
  have hR6 := kept hb _ _ hR5
  have HB5 := Lib.hid (HB4.out.trans (hb.mono HB4.out.size))
  clear hb
  go_wp2_with fail
  refine (isZero0 _).mono ?_
  rintro e w6 ⟨rfl, hb⟩
  have HB6 := Lib.hid (HB5.out.trans (hb.mono HB5.out.size))
  clear hb
  go_wp2_with fail
  refine (known_any _).mono ?_
  rintro e wK ⟨rfl, hb⟩
  have HBK := Lib.hid (HB6.out.trans (hb.mono HB6.out.size))
  clear hb
  go_wp2_with fail
  go_ret
  exact ⟨rfl, HBK.out⟩

set_option maxRecDepth 100000 in
set_option maxHeartbeats 1000000 in
theorem shifts_zero_big (zs : List Nat) (a : Option Addr) (c : Nat) (w : World) (hz : BytesAt zs (.slice a zs.length c) w) (h1 : zs.length ≤ 128) (v : Nat) (ev : valBE 256 zs = v) (h0 : v = 0) (k : Nat) (hk : 1024 < k) (hk2 : k ≤ 9223372036854775807) :
    Calls Try.prog 9 #[.slice a zs.length c, .int .i64 (k : Nat)] w fun e w' => e = .returned (.bool true) ∧ Below w.heap.size w w' := by
  have hv : v < P64 ^ 16 := by rw [← ev]; exact short_fits0 hz.1 h1
  have HSL := Lib.hid (show ∀ w, Calls Try.prog 42 #[.agg (natA v), .int .i64 (k : Nat)] w fun e w' => e = .returned (.tuple #[.agg (natA 0), .int .i64 0]) ∧ Below w.heap.size w w' from by rw [h0]; exact shiftLeft_zero (k : Nat) (by omega))
  have HSR := Lib.hid (shiftRight_ok v k hv (by omega))
  have hF0 : (0 : Nat) < P64 ^ 16 := Nat.pow_pos P64_pos
  have HF := Lib.hid hF0
  have hrz := right_zero hv hk
  rw [hrz] at HSR
  have H0 := Lib.hid h0
  have HSH := Lib.hid (fun (m : Nat) (hm : m ≤ 64) (s : Value) (W : World) (hs : DigN v m s W) => (by
    obtain ⟨N, hN⟩ : ∃ N, N = 1024 := ⟨_, rfl⟩
    have h := rshift_any v m N s W hs (by omega) (by omega)
    rw [h0, Nat.zero_mul, show ((N : Nat) : Int) = 1024 by omega] at h
    exact h : Calls Try.prog 44 #[s, .int .i64 1024] W fun e w' => ∃ t, e = .returned t ∧ RefN 0 t w' ∧ Below W.heap.size W w'))
  have hmin : min (k : Int) 1024 = 1024 := by omega
  have HMIN := Lib.hid hmin
  clear hF0 hrz h0 hmin
  have HM := Lib.hid (fun W hW => made_fits zs (.slice a zs.length c) W hW (by omega) (by rw [ev]; exact hv))
  rw [ev] at HM
  have HY := Lib.hid hz
  have HV := Lib.hid hv
  obtain ⟨n, hn⟩ : ∃ n, zs.length = n := ⟨_, rfl⟩
  rw [hn] at HY HM h1 ⊢
  clear hn hz ev hv
  go_enter Try.func9, Try.ntmps9
  go_wp2_with fail
  refine (HM.out _ HY.out).mono ?_
  rintro e w1 ⟨tv, rfl, ht, hb⟩
  obtain ⟨at1, ct1, rfl⟩ := ref_shape ht
  have HT1 := Lib.hid (ht.kept (bel_st0 w1 v))
  have HB1 := Lib.hid (hb.trans ((bel_st0 w1 v).mono hb.size))
  obtain ⟨L, hL⟩ : ∃ L, dlen 65536 v = L := ⟨_, rfl⟩
  rw [hL] at HT1 ⊢
  have hLL : L ≤ 64 := by rw [← hL]; exact dlen16 HV.out
  have HLL := Lib.hid hL
  have hLz : ¬ 0 < L := by have := HLL.out; rw [H0.out, dlen_zero] at this; omega
  clear ht hb hL
  go_wp2_with fail
  refine (HSL.out _).mono ?_
  rintro e w2 ⟨rfl, hb⟩
  obtain ⟨hV2, hk, hB⟩ := stored hb
  have HV2 := Lib.hid hV2
  have HT2 := Lib.hid (HT1.out.kept hb)
  have HB2 := Lib.hid (HB1.out.trans (hb.mono HB1.out.size))
  have lV := rowN_lt hV2
  clear hb hk hB hV2
  obtain ⟨b1, hb1⟩ : ∃ b1, w1.heap.size = b1 := ⟨_, rfl⟩
  rw [hb1] at HV2 lV ⊢
  clear hb1 HT1 HB1
  have hV3 := row_st0_other w2 0 _ _ HV2.out
  go_wp2_with fail
  refine (HSR.out _).mono ?_
  rintro e w3 ⟨rfl, hb⟩
  obtain ⟨hL3, hk, hB⟩ := stored hb
  have HT3 := Lib.hid ((HT2.out.kept (bel_st0 w2 0)).kept hb)
  have HB3 := Lib.hid (HB2.out.trans (hB.mono HB2.out.size))
  have hL4 := row_st0_other w3 0 _ _ hL3
  have hR4 := row_st0 w3 0
  have HT4 := Lib.hid (HT3.out.kept (bel_st0 w3 0))
  have HB4 := Lib.hid (HB3.out.trans ((bel_st0 w3 0).mono HB3.out.size))
  have lL3 := rowN_lt hL3
  obtain ⟨b2, hb2⟩ : ∃ b2, w2.heap.size = b2 := ⟨_, rfl⟩
  rw [hb2] at hL4 hL3 lL3 ⊢
  clear hb hk hB hV3 hb2 HT2 HB2 HT3 HB3 HV2 lV
  have HL4 := Lib.hid hL4
  have HR4 := Lib.hid hR4
  clear hL3
  go_wp2_with fail
  clear hL4 hR4
  obtain ⟨W4, hW4⟩ : ∃ W4, (w3.alloc (.cells (natA 0) 28)).setRow w3.heap.size (natA 0) = W4 := ⟨_, rfl⟩
  rw [hW4] at HL4 HR4 HT4 HB4 ⊢
  obtain ⟨b3, hb3⟩ : ∃ b3, w3.heap.size = b3 := ⟨_, rfl⟩
  rw [hb3] at HR4 lL3 ⊢
  have hL5 := HL4.out
  have hR5 := HR4.out
  clear hW4 hb3
  have hmin := HMIN.out
  have hLd : rowN W4.drew b2 = some (natA 0) := by rw [rowN_drew]; exact hL5
  have hRd : rowN W4.drew b3 = some (natA 0) := by rw [rowN_drew]; exact hR5
  have HTd := Lib.hid (HT4.out.kept (Below.refl _ W4).drew)
  have HBd := Lib.hid HB4.out.drew
  clear hL5 hR5
  go_region_held3 (fun W => rowN W b2 = some (natA 0) ∧ rowN W b3 = some (natA 0) ∧ Below w.heap.size w W) (first | exact ⟨hL8, hR8, HB8.out⟩ | exact ⟨hL7, hR7, HB7.out⟩ | exact ⟨hLd, hRd, HBd.out⟩) (first
    | (go_at_call 44; refine (HSH.out _ hLL _ _ HTd.out).mono ?_; rintro e w7 ⟨ts, rfl, ht, hb⟩; have HTs := Lib.hid ht; have hL7 := kept hb _ _ hLd; have hR7 := kept hb _ _ hRd; have HT7 := Lib.hid (HTd.out.kept hb); have HB7 := Lib.hid (HBd.out.trans (hb.mono HBd.out.size)); clear ht hb)
    | (go_at_call 16; refine (same_eq 0 HF.out ts _ HTs.out).mono ?_; rintro e w8 ⟨rfl, hb⟩; have hL8 := kept hb _ _ hL7; have hR8 := kept hb _ _ hR7; have HT8 := Lib.hid (HT7.out.kept hb); have HB8 := Lib.hid (HB7.out.trans (hb.mono HB7.out.size)); clear hb))
  clear hLd hRd hL7 hR7 hL8
  go_wp2_with fail
  refine (isZero0 _).mono ?_
  rintro e w9 ⟨rfl, hb⟩
  have HB9 := Lib.hid (HB8.out.trans (hb.mono HB8.out.size))
  clear hb
  go_wp2_with fail
  refine (known_any _).mono ?_
  rintro e wK ⟨rfl, hb⟩
  have HBK := Lib.hid (HB9.out.trans (hb.mono HB9.out.size))
  clear hb
  go_wp2_with fail
  go_ret
  exact ⟨rfl, HBK.out⟩

set_option maxRecDepth 100000 in
set_option maxHeartbeats 1000000 in
theorem shifts_zero_few (zs : List Nat) (a : Option Addr) (c : Nat) (w : World) (hz : BytesAt zs (.slice a zs.length c) w) (h1 : zs.length ≤ 128) (v : Nat) (ev : valBE 256 zs = v) (h0 : v = 0) (k : Nat) (hk : k ≤ 1024) :
    Calls Try.prog 9 #[.slice a zs.length c, .int .i64 (k : Nat)] w fun e w' => e = .returned (.bool true) ∧ Below w.heap.size w w' := by
  have hv : v < P64 ^ 16 := by rw [← ev]; exact short_fits0 hz.1 h1
  have HSL := Lib.hid (show ∀ w, Calls Try.prog 42 #[.agg (natA v), .int .i64 (k : Nat)] w fun e w' => e = .returned (.tuple #[.agg (natA 0), .int .i64 0]) ∧ Below w.heap.size w w' from by rw [h0]; exact shiftLeft_zero (k : Nat) (by omega))
  have HSR := Lib.hid (shiftRight_ok v k hv (by omega))
  have hF0 : (0 : Nat) < P64 ^ 16 := Nat.pow_pos P64_pos
  have HF := Lib.hid hF0
  have hdp := dlen_shift (v := 1) (Nat.one_lt_pow (by omega) (show 1 < P64 by rw [P64_eq]; omega)) (show k ≤ 1024 by omega)
  have HSH1 := Lib.hid (fun (t : Value) (W : World) (hs : RefN 1 t W) => rshift_any 1 _ k t W hs (show dlen 65536 1 ≤ 1000000 from Nat.le_trans (dlen_le (n := 1) (by omega) (by omega)) (by omega)) (by omega))
  have HDIV := Lib.hid (fun (m : Nat) (hm : m ≤ 64) (s t : Value) (W : World) (hs : DigN v m s W) (ht : RefN (1 * 2 ^ k) t W) => rdivide_ref v (1 * 2 ^ k) m s t W hs ht (by omega) (by omega) (by rw [Nat.one_mul]; exact Nat.two_pow_pos k))
  rw [Nat.one_mul] at HSH1 HDIV
  have HFR := Lib.hid (Nat.lt_of_le_of_lt (Nat.div_le_self v (2 ^ k)) hv)
  have H0 := Lib.hid h0
  have HSH := Lib.hid (fun (m : Nat) (hm : m ≤ 64) (s : Value) (W : World) (hs : DigN v m s W) => (by
    have h := rshift_any v m k s W hs (by omega) (by omega)
    rw [show v * 2 ^ k = 0 by rw [h0, Nat.zero_mul]] at h
    exact h : Calls Try.prog 44 #[s, .int .i64 (k : Nat)] W fun e w' => ∃ t, e = .returned t ∧ RefN 0 t w' ∧ Below W.heap.size W w'))
  have hmin : min (k : Int) 1024 = (k : Int) := by omega
  have HMIN := Lib.hid hmin
  clear hF0 h0 hmin hdp
  have HM := Lib.hid (fun W hW => made_fits zs (.slice a zs.length c) W hW (by omega) (by rw [ev]; exact hv))
  rw [ev] at HM
  have HY := Lib.hid hz
  have HV := Lib.hid hv
  obtain ⟨n, hn⟩ : ∃ n, zs.length = n := ⟨_, rfl⟩
  rw [hn] at HY HM h1 ⊢
  clear hn hz ev hv
  go_enter Try.func9, Try.ntmps9
  go_wp2_with fail
  refine (HM.out _ HY.out).mono ?_
  rintro e w1 ⟨tv, rfl, ht, hb⟩
  obtain ⟨at1, ct1, rfl⟩ := ref_shape ht
  have HT1 := Lib.hid (ht.kept (bel_st0 w1 v))
  have HB1 := Lib.hid (hb.trans ((bel_st0 w1 v).mono hb.size))
  obtain ⟨L, hL⟩ : ∃ L, dlen 65536 v = L := ⟨_, rfl⟩
  rw [hL] at HT1 ⊢
  have hLL : L ≤ 64 := by rw [← hL]; exact dlen16 HV.out
  have HLL := Lib.hid hL
  have hLz : ¬ 0 < L := by have := HLL.out; rw [H0.out, dlen_zero] at this; omega
  clear ht hb hL
  go_wp2_with fail
  refine (HSL.out _).mono ?_
  rintro e w2 ⟨rfl, hb⟩
  obtain ⟨hV2, hk, hB⟩ := stored hb
  have HV2 := Lib.hid hV2
  have HT2 := Lib.hid (HT1.out.kept hb)
  have HB2 := Lib.hid (HB1.out.trans (hb.mono HB1.out.size))
  have lV := rowN_lt hV2
  clear hb hk hB hV2
  obtain ⟨b1, hb1⟩ : ∃ b1, w1.heap.size = b1 := ⟨_, rfl⟩
  rw [hb1] at HV2 lV ⊢
  clear hb1 HT1 HB1
  have hV3 := row_st0_other w2 0 _ _ HV2.out
  go_wp2_with fail
  refine (HSR.out _).mono ?_
  rintro e w3 ⟨rfl, hb⟩
  obtain ⟨hL3, hk, hB⟩ := stored hb
  have HT3 := Lib.hid ((HT2.out.kept (bel_st0 w2 0)).kept hb)
  have HB3 := Lib.hid (HB2.out.trans (hB.mono HB2.out.size))
  have hL4 := row_st0_other w3 (v / 2 ^ k) _ _ hL3
  have hR4 := row_st0 w3 (v / 2 ^ k)
  have HT4 := Lib.hid (HT3.out.kept (bel_st0 w3 (v / 2 ^ k)))
  have HB4 := Lib.hid (HB3.out.trans ((bel_st0 w3 (v / 2 ^ k)).mono HB3.out.size))
  have lL3 := rowN_lt hL3
  obtain ⟨b2, hb2⟩ : ∃ b2, w2.heap.size = b2 := ⟨_, rfl⟩
  rw [hb2] at hL4 hL3 lL3 ⊢
  clear hb hk hB hV3 hb2 HT2 HB2 HT3 HB3 HV2 lV
  have HL4 := Lib.hid hL4
  have HR4 := Lib.hid hR4
  clear hL3
  go_wp2_with fail
  clear hL4 hR4
  obtain ⟨W4, hW4⟩ : ∃ W4, (w3.alloc (.cells (natA 0) 28)).setRow w3.heap.size (natA (v / 2 ^ k)) = W4 := ⟨_, rfl⟩
  rw [hW4] at HL4 HR4 HT4 HB4 ⊢
  obtain ⟨b3, hb3⟩ : ∃ b3, w3.heap.size = b3 := ⟨_, rfl⟩
  rw [hb3] at HR4 lL3 ⊢
  have hL5 := HL4.out
  have hR5 := HR4.out
  clear hW4 hb3
  have hmin := HMIN.out
  have hLd : rowN W4.drew b2 = some (natA 0) := by rw [rowN_drew]; exact hL5
  have hRd : rowN W4.drew b3 = some (natA (v / 2 ^ k)) := by rw [rowN_drew]; exact hR5
  have HTd := Lib.hid (HT4.out.kept (Below.refl _ W4).drew)
  have HBd := Lib.hid HB4.out.drew
  clear hL5 hR5
  go_region_held3 (fun W => rowN W b2 = some (natA 0) ∧ rowN W b3 = some (natA (v / 2 ^ k)) ∧ Below w.heap.size w W) (first | exact ⟨hL8, hR8, HB8.out⟩ | exact ⟨hL7, hR7, HB7.out⟩ | exact ⟨hLd, hRd, HBd.out⟩) (first
    | (go_at_call 44; refine (HSH.out _ hLL _ _ HTd.out).mono ?_; rintro e w7 ⟨ts, rfl, ht, hb⟩; have HTs := Lib.hid ht; have hL7 := kept hb _ _ hLd; have hR7 := kept hb _ _ hRd; have HT7 := Lib.hid (HTd.out.kept hb); have HB7 := Lib.hid (HBd.out.trans (hb.mono HBd.out.size)); clear ht hb)
    | (go_at_call 16; refine (same_eq 0 HF.out ts _ HTs.out).mono ?_; rintro e w8 ⟨rfl, hb⟩; have hL8 := kept hb _ _ hL7; have hR8 := kept hb _ _ hR7; have HT8 := Lib.hid (HT7.out.kept hb); have HB8 := Lib.hid (HB7.out.trans (hb.mono HB7.out.size)); clear hb))
  clear hLd hRd hL7 hR7 hL8
  go_wp2_with fail
  refine (rof_any 1 (by omega) _).mono ?_
  rintro e wa ⟨t1, rfl, ht, hb⟩
  have HT1 := Lib.hid ht
  have hRa := kept hb _ _ hR8
  have HTa := Lib.hid (HT8.out.kept hb)
  have HBa := Lib.hid (HB8.out.trans (hb.mono HB8.out.size))
  clear ht hb hR8
  go_wp2_with fail
  refine (HSH1.out _ _ HT1.out).mono ?_
  rintro e wb ⟨t2, rfl, ht, hb⟩
  have HT2 := Lib.hid ht
  have hRb := kept hb _ _ hRa
  have HTb := Lib.hid (HTa.out.kept hb)
  have HBb := Lib.hid (HBa.out.trans (hb.mono HBa.out.size))
  clear ht hb hRa
  go_wp2_with fail
  refine (HDIV.out _ hLL _ _ _ HTb.out HT2.out).mono ?_
  rintro e wc ⟨q, r, rfl, hq, hr, hb⟩
  have HQ := Lib.hid hq
  have hRc := kept hb _ _ hRb
  have HBc := Lib.hid (HBb.out.trans (hb.mono HBb.out.size))
  clear hq hr hb hRb
  go_wp2_with fail
  refine (same_eq (v / 2 ^ k) HFR.out q _ HQ.out).mono ?_
  rintro e wd ⟨rfl, hb⟩
  have HBe := Lib.hid (HBc.out.trans (hb.mono HBc.out.size))
  clear hb
  go_wp2_with fail
  refine (known_any _).mono ?_
  rintro e wK ⟨rfl, hb⟩
  have HBK := Lib.hid (HBe.out.trans (hb.mono HBe.out.size))
  clear hb
  go_wp2_with fail
  go_ret
  exact ⟨rfl, HBK.out⟩

set_option maxRecDepth 100000 in
set_option maxHeartbeats 1000000 in
theorem shifts_pos_big (zs : List Nat) (a : Option Addr) (c : Nat) (w : World) (hz : BytesAt zs (.slice a zs.length c) w) (h1 : zs.length ≤ 128) (v : Nat) (ev : valBE 256 zs = v) (h0 : v ≠ 0) (k : Nat) (hk : 1024 < k) (hk2 : k ≤ 9223372036854775807) :
    Calls Try.prog 9 #[.slice a zs.length c, .int .i64 (k : Nat)] w fun e w' => e = .returned (.bool true) ∧ Below w.heap.size w w' := by
  have hv : v < P64 ^ 16 := by rw [← ev]; exact short_fits0 hz.1 h1
  have HSL := Lib.hid (shiftLeft_full v (k : Nat) hv h0 (by omega) (by omega) (by omega))
  have HSR := Lib.hid (shiftRight_ok v k hv (by omega))
  have hrz := right_zero hv hk
  rw [hrz] at HSR
  have H0 := Lib.hid h0
  clear h0 hrz
  have HM := Lib.hid (fun W hW => made_fits zs (.slice a zs.length c) W hW (by omega) (by rw [ev]; exact hv))
  rw [ev] at HM
  have HY := Lib.hid hz
  have HV := Lib.hid hv
  obtain ⟨n, hn⟩ : ∃ n, zs.length = n := ⟨_, rfl⟩
  rw [hn] at HY HM h1 ⊢
  clear hn hz ev hv
  go_enter Try.func9, Try.ntmps9
  go_wp2_with fail
  refine (HM.out _ HY.out).mono ?_
  rintro e w1 ⟨tv, rfl, ht, hb⟩
  obtain ⟨at1, ct1, rfl⟩ := ref_shape ht
  have HT1 := Lib.hid (ht.kept (bel_st0 w1 v))
  have HB1 := Lib.hid (hb.trans ((bel_st0 w1 v).mono hb.size))
  obtain ⟨L, hL⟩ : ∃ L, dlen 65536 v = L := ⟨_, rfl⟩
  rw [hL] at HT1 ⊢
  have hLL : L ≤ 64 := by rw [← hL]; exact dlen16 HV.out
  have HLL := Lib.hid hL
  have hLp : 0 < L := by rw [← hL]; exact (dlen_le_of (by omega) H0.out).1
  clear ht hb hL
  go_wp2_with fail
  refine (HSL.out _).mono ?_
  rintro e w2 ⟨rfl, hb⟩
  obtain ⟨hV2, hk, hB⟩ := stored hb
  have HV2 := Lib.hid hV2
  have HT2 := Lib.hid (HT1.out.kept hb)
  have HB2 := Lib.hid (HB1.out.trans (hb.mono HB1.out.size))
  have lV := rowN_lt hV2
  clear hb hk hB hV2
  obtain ⟨b1, hb1⟩ : ∃ b1, w1.heap.size = b1 := ⟨_, rfl⟩
  rw [hb1] at HV2 lV ⊢
  clear hb1 HT1 HB1
  have hV3 := row_st0_other w2 0 _ _ HV2.out
  go_wp2_with fail
  refine (HSR.out _).mono ?_
  rintro e w3 ⟨rfl, hb⟩
  obtain ⟨hL3, hk, hB⟩ := stored hb
  have HT3 := Lib.hid ((HT2.out.kept (bel_st0 w2 0)).kept hb)
  have HB3 := Lib.hid (HB2.out.trans (hB.mono HB2.out.size))
  have hL4 := row_st0_other w3 0 _ _ hL3
  have hR4 := row_st0 w3 0
  have HT4 := Lib.hid (HT3.out.kept (bel_st0 w3 0))
  have HB4 := Lib.hid (HB3.out.trans ((bel_st0 w3 0).mono HB3.out.size))
  have lL3 := rowN_lt hL3
  obtain ⟨b2, hb2⟩ : ∃ b2, w2.heap.size = b2 := ⟨_, rfl⟩
  rw [hb2] at hL4 hL3 lL3 ⊢
  clear hb hk hB hV3 hb2 HT2 HB2 HT3 HB3 HV2 lV
  have HL4 := Lib.hid hL4
  have HR4 := Lib.hid hR4
  clear hL3
  go_wp2_with fail
  clear hL4 hR4
  obtain ⟨W4, hW4⟩ : ∃ W4, (w3.alloc (.cells (natA 0) 28)).setRow w3.heap.size (natA 0) = W4 := ⟨_, rfl⟩
  rw [hW4] at HL4 HR4 HT4 HB4 ⊢
  obtain ⟨b3, hb3⟩ : ∃ b3, w3.heap.size = b3 := ⟨_, rfl⟩
  rw [hb3] at HR4 lL3 ⊢
  have hL5 := HL4.out
  have hR5 := HR4.out
  clear hW4 hb3
  refine (isZero0 _).mono ?_
  rintro e w8 ⟨rfl, hb⟩
  have hR8 := kept hb _ _ hR5
  have HT8 := Lib.hid (HT4.out.kept hb)
  have HB8 := Lib.hid (HB4.out.trans (hb.mono HB4.out.size))
  clear hb hR5 hL5
  go_wp2_with fail
  refine (isZero0 _).mono ?_
  rintro e w9 ⟨rfl, hb⟩
  have HB9 := Lib.hid (HB8.out.trans (hb.mono HB8.out.size))
  clear hb
  go_wp2_with fail
  refine (known_any _).mono ?_
  rintro e wK ⟨rfl, hb⟩
  have HBK := Lib.hid (HB9.out.trans (hb.mono HB9.out.size))
  clear hb
  go_wp2_with fail
  go_ret
  exact ⟨rfl, HBK.out⟩

set_option maxRecDepth 100000 in
set_option maxHeartbeats 1000000 in
theorem shifts_pos_fit (zs : List Nat) (a : Option Addr) (c : Nat) (w : World) (hz : BytesAt zs (.slice a zs.length c) w) (h1 : zs.length ≤ 128) (v : Nat) (ev : valBE 256 zs = v) (h0 : v ≠ 0) (k : Nat) (hk : k ≤ 1024) (hf : v * 2 ^ k < P64 ^ 16) :
    Calls Try.prog 9 #[.slice a zs.length c, .int .i64 (k : Nat)] w fun e w' => e = .returned (.bool true) ∧ Below w.heap.size w w' := by
  have hv : v < P64 ^ 16 := by rw [← ev]; exact short_fits0 hz.1 h1
  have HSL := Lib.hid (shiftLeft_ok v k hv h0 (fits_shift hf h0))
  have HSR := Lib.hid (shiftRight_ok v k hv (by omega))
  have hdp := dlen_shift (v := 1) (Nat.one_lt_pow (by omega) (show 1 < P64 by rw [P64_eq]; omega)) (show k ≤ 1024 by omega)
  have HSH1 := Lib.hid (fun (t : Value) (W : World) (hs : RefN 1 t W) => rshift_any 1 _ k t W hs (show dlen 65536 1 ≤ 1000000 from Nat.le_trans (dlen_le (n := 1) (by omega) (by omega)) (by omega)) (by omega))
  have HDIV := Lib.hid (fun (m : Nat) (hm : m ≤ 64) (s t : Value) (W : World) (hs : DigN v m s W) (ht : RefN (1 * 2 ^ k) t W) => rdivide_ref v (1 * 2 ^ k) m s t W hs ht (by omega) (by omega) (by rw [Nat.one_mul]; exact Nat.two_pow_pos k))
  rw [Nat.one_mul] at HSH1 HDIV
  have HFR := Lib.hid (Nat.lt_of_le_of_lt (Nat.div_le_self v (2 ^ k)) hv)
  have HSH := Lib.hid (fun (m : Nat) (hm : m ≤ 64) (s : Value) (W : World) (hs : DigN v m s W) => rshift_any v m k s W hs (by omega) (by omega))
  have HDS := Lib.hid (dlen_shift hv hk)
  have HF := Lib.hid hf
  have hmin : min (k : Int) 1024 = (k : Int) := by omega
  have HMIN := Lib.hid hmin
  have H0 := Lib.hid h0
  clear hmin h0 hf hdp
  have HM := Lib.hid (fun W hW => made_fits zs (.slice a zs.length c) W hW (by omega) (by rw [ev]; exact hv))
  rw [ev] at HM
  have HY := Lib.hid hz
  have HV := Lib.hid hv
  obtain ⟨n, hn⟩ : ∃ n, zs.length = n := ⟨_, rfl⟩
  rw [hn] at HY HM h1 ⊢
  clear hn hz ev hv
  go_enter Try.func9, Try.ntmps9
  go_wp2_with fail
  refine (HM.out _ HY.out).mono ?_
  rintro e w1 ⟨tv, rfl, ht, hb⟩
  obtain ⟨at1, ct1, rfl⟩ := ref_shape ht
  have HT1 := Lib.hid (ht.kept (bel_st0 w1 v))
  have HB1 := Lib.hid (hb.trans ((bel_st0 w1 v).mono hb.size))
  obtain ⟨L, hL⟩ : ∃ L, dlen 65536 v = L := ⟨_, rfl⟩
  rw [hL] at HT1 ⊢
  have hLL : L ≤ 64 := by rw [← hL]; exact dlen16 HV.out
  have HLL := Lib.hid hL
  have hLp : 0 < L := by rw [← hL]; exact (dlen_le_of (by omega) H0.out).1
  clear ht hb hL
  go_wp2_with fail
  refine (HSL.out _).mono ?_
  rintro e w2 ⟨rfl, hb⟩
  obtain ⟨hV2, hk, hB⟩ := stored hb
  have HV2 := Lib.hid hV2
  have HT2 := Lib.hid (HT1.out.kept hb)
  have HB2 := Lib.hid (HB1.out.trans (hb.mono HB1.out.size))
  have lV := rowN_lt hV2
  clear hb hk hB hV2
  obtain ⟨b1, hb1⟩ : ∃ b1, w1.heap.size = b1 := ⟨_, rfl⟩
  rw [hb1] at HV2 lV ⊢
  clear hb1 HT1 HB1
  have hV3 := row_st0_other w2 (v * 2 ^ k) _ _ HV2.out
  go_wp2_with fail
  refine (HSR.out _).mono ?_
  rintro e w3 ⟨rfl, hb⟩
  obtain ⟨hL3, hk, hB⟩ := stored hb
  have HT3 := Lib.hid ((HT2.out.kept (bel_st0 w2 (v * 2 ^ k))).kept hb)
  have HB3 := Lib.hid (HB2.out.trans (hB.mono HB2.out.size))
  have hL4 := row_st0_other w3 (v / 2 ^ k) _ _ hL3
  have hR4 := row_st0 w3 (v / 2 ^ k)
  have HT4 := Lib.hid (HT3.out.kept (bel_st0 w3 (v / 2 ^ k)))
  have HB4 := Lib.hid (HB3.out.trans ((bel_st0 w3 (v / 2 ^ k)).mono HB3.out.size))
  have lL3 := rowN_lt hL3
  obtain ⟨b2, hb2⟩ : ∃ b2, w2.heap.size = b2 := ⟨_, rfl⟩
  rw [hb2] at hL4 hL3 lL3 ⊢
  clear hb hk hB hV3 hb2 HT2 HB2 HT3 HB3 HV2 lV
  have HL4 := Lib.hid hL4
  have HR4 := Lib.hid hR4
  clear hL3
  go_wp2_with fail
  clear hL4 hR4
  obtain ⟨W4, hW4⟩ : ∃ W4, (w3.alloc (.cells (natA 0) 28)).setRow w3.heap.size (natA (v / 2 ^ k)) = W4 := ⟨_, rfl⟩
  rw [hW4] at HL4 HR4 HT4 HB4 ⊢
  obtain ⟨b3, hb3⟩ : ∃ b3, w3.heap.size = b3 := ⟨_, rfl⟩
  rw [hb3] at HR4 lL3 ⊢
  have hL5 := HL4.out
  have hR5 := HR4.out
  clear hW4 hb3
  refine (HSH.out _ hLL _ _ HT4.out).mono ?_
  rintro e w5 ⟨t5, rfl, ht, hb⟩
  have HT5 := Lib.hid ht
  have hL6 := kept hb _ _ hL5
  have hR6 := kept hb _ _ hR5
  have HT6 := Lib.hid (HT4.out.kept hb)
  have HB6 := Lib.hid (HB4.out.trans (hb.mono HB4.out.size))
  clear ht hb hL5 hR5 HL4 HR4
  go_wp2_with fail
  refine (fits_true (v * 2 ^ k) _ t5 _ HT5.out (by have := HDS.out; omega) HF.out).mono ?_
  rintro e w6 ⟨rfl, hw⟩
  subst hw
  go_wp2_with fail
  have hmin := HMIN.out
  have hLd : rowN w6.drew b2 = some (natA (v * 2 ^ k)) := by rw [rowN_drew]; exact hL6
  have hRd : rowN w6.drew b3 = some (natA (v / 2 ^ k)) := by rw [rowN_drew]; exact hR6
  have HTd := Lib.hid (HT6.out.kept (Below.refl _ w6).drew)
  have HBd := Lib.hid HB6.out.drew
  clear hL6 hR6
  go_region_held3 (fun W => rowN W b2 = some (natA (v * 2 ^ k)) ∧ rowN W b3 = some (natA (v / 2 ^ k)) ∧ Below w.heap.size w W) (first | exact ⟨hL8, hR8, HB8.out⟩ | exact ⟨hL7, hR7, HB7.out⟩ | exact ⟨hLd, hRd, HBd.out⟩) (first
    | (go_at_call 44; refine (HSH.out _ hLL _ _ HTd.out).mono ?_; rintro e w7 ⟨ts, rfl, ht, hb⟩; have HTs := Lib.hid ht; have hL7 := kept hb _ _ hLd; have hR7 := kept hb _ _ hRd; have HT7 := Lib.hid (HTd.out.kept hb); have HB7 := Lib.hid (HBd.out.trans (hb.mono HBd.out.size)); clear ht hb)
    | (go_at_call 16; refine (same_eq (v * 2 ^ k) HF.out ts _ HTs.out).mono ?_; rintro e w8 ⟨rfl, hb⟩; have hL8 := kept hb _ _ hL7; have hR8 := kept hb _ _ hR7; have HT8 := Lib.hid (HT7.out.kept hb); have HB8 := Lib.hid (HB7.out.trans (hb.mono HB7.out.size)); clear hb))
  clear hLd hRd hL7 hR7 hL8
  go_wp2_with fail
  refine (rof_any 1 (by omega) _).mono ?_
  rintro e wa ⟨t1, rfl, ht, hb⟩
  have HT1 := Lib.hid ht
  have hRa := kept hb _ _ hR8
  have HTa := Lib.hid (HT8.out.kept hb)
  have HBa := Lib.hid (HB8.out.trans (hb.mono HB8.out.size))
  clear ht hb hR8
  go_wp2_with fail
  refine (HSH1.out _ _ HT1.out).mono ?_
  rintro e wb ⟨t2, rfl, ht, hb⟩
  have HT2 := Lib.hid ht
  have hRb := kept hb _ _ hRa
  have HTb := Lib.hid (HTa.out.kept hb)
  have HBb := Lib.hid (HBa.out.trans (hb.mono HBa.out.size))
  clear ht hb hRa
  go_wp2_with fail
  refine (HDIV.out _ hLL _ _ _ HTb.out HT2.out).mono ?_
  rintro e wc ⟨q, r, rfl, hq, hr, hb⟩
  have HQ := Lib.hid hq
  have hRc := kept hb _ _ hRb
  have HBc := Lib.hid (HBb.out.trans (hb.mono HBb.out.size))
  clear hq hr hb hRb
  go_wp2_with fail
  refine (same_eq (v / 2 ^ k) HFR.out q _ HQ.out).mono ?_
  rintro e wd ⟨rfl, hb⟩
  have HBe := Lib.hid (HBc.out.trans (hb.mono HBc.out.size))
  clear hb
  go_wp2_with fail
  refine (known_any _).mono ?_
  rintro e wK ⟨rfl, hb⟩
  have HBK := Lib.hid (HBe.out.trans (hb.mono HBe.out.size))
  clear hb
  go_wp2_with fail
  go_ret
  exact ⟨rfl, HBK.out⟩

set_option maxRecDepth 100000 in
set_option maxHeartbeats 1000000 in
theorem shifts_pos_full (zs : List Nat) (a : Option Addr) (c : Nat) (w : World) (hz : BytesAt zs (.slice a zs.length c) w) (h1 : zs.length ≤ 128) (v : Nat) (ev : valBE 256 zs = v) (k : Nat) (hk : k ≤ 1024) (hf : ¬ v * 2 ^ k < P64 ^ 16) :
    Calls Try.prog 9 #[.slice a zs.length c, .int .i64 (k : Nat)] w fun e w' => e = .returned (.bool true) ∧ Below w.heap.size w w' := by
  have hv : v < P64 ^ 16 := by rw [← ev]; exact short_fits0 hz.1 h1
  have HSL := Lib.hid (shiftLeft_full v (k : Nat) hv (full_shift hf).1 (by omega) (by omega) (by have := (full_shift hf).2; omega))
  have HSR := Lib.hid (shiftRight_ok v k hv (by omega))
  have hdp := dlen_shift (v := 1) (Nat.one_lt_pow (by omega) (show 1 < P64 by rw [P64_eq]; omega)) (show k ≤ 1024 by omega)
  have HSH1 := Lib.hid (fun (t : Value) (W : World) (hs : RefN 1 t W) => rshift_any 1 _ k t W hs (show dlen 65536 1 ≤ 1000000 from Nat.le_trans (dlen_le (n := 1) (by omega) (by omega)) (by omega)) (by omega))
  have HDIV := Lib.hid (fun (m : Nat) (hm : m ≤ 64) (s t : Value) (W : World) (hs : DigN v m s W) (ht : RefN (1 * 2 ^ k) t W) => rdivide_ref v (1 * 2 ^ k) m s t W hs ht (by omega) (by omega) (by rw [Nat.one_mul]; exact Nat.two_pow_pos k))
  rw [Nat.one_mul] at HSH1 HDIV
  have HFR := Lib.hid (Nat.lt_of_le_of_lt (Nat.div_le_self v (2 ^ k)) hv)
  have HSH := Lib.hid (fun (m : Nat) (hm : m ≤ 64) (s : Value) (W : World) (hs : DigN v m s W) => rshift_any v m k s W hs (by omega) (by omega))
  have HDS := Lib.hid (dlen_shift hv hk)
  have HF := Lib.hid hf
  have H0 := Lib.hid (full_shift hf).1
  clear hf hdp
  have HM := Lib.hid (fun W hW => made_fits zs (.slice a zs.length c) W hW (by omega) (by rw [ev]; exact hv))
  rw [ev] at HM
  have HY := Lib.hid hz
  have HV := Lib.hid hv
  obtain ⟨n, hn⟩ : ∃ n, zs.length = n := ⟨_, rfl⟩
  rw [hn] at HY HM h1 ⊢
  clear hn hz ev hv
  go_enter Try.func9, Try.ntmps9
  go_wp2_with fail
  refine (HM.out _ HY.out).mono ?_
  rintro e w1 ⟨tv, rfl, ht, hb⟩
  obtain ⟨at1, ct1, rfl⟩ := ref_shape ht
  have HT1 := Lib.hid (ht.kept (bel_st0 w1 v))
  have HB1 := Lib.hid (hb.trans ((bel_st0 w1 v).mono hb.size))
  obtain ⟨L, hL⟩ : ∃ L, dlen 65536 v = L := ⟨_, rfl⟩
  rw [hL] at HT1 ⊢
  have hLL : L ≤ 64 := by rw [← hL]; exact dlen16 HV.out
  have HLL := Lib.hid hL
  have hLp : 0 < L := by rw [← hL]; exact (dlen_le_of (by omega) H0.out).1
  clear ht hb hL
  go_wp2_with fail
  refine (HSL.out _).mono ?_
  rintro e w2 ⟨rfl, hb⟩
  obtain ⟨hV2, hk, hB⟩ := stored hb
  have HV2 := Lib.hid hV2
  have HT2 := Lib.hid (HT1.out.kept hb)
  have HB2 := Lib.hid (HB1.out.trans (hb.mono HB1.out.size))
  have lV := rowN_lt hV2
  clear hb hk hB hV2
  obtain ⟨b1, hb1⟩ : ∃ b1, w1.heap.size = b1 := ⟨_, rfl⟩
  rw [hb1] at HV2 lV ⊢
  clear hb1 HT1 HB1
  have hV3 := row_st0_other w2 0 _ _ HV2.out
  go_wp2_with fail
  refine (HSR.out _).mono ?_
  rintro e w3 ⟨rfl, hb⟩
  obtain ⟨hL3, hk, hB⟩ := stored hb
  have HT3 := Lib.hid ((HT2.out.kept (bel_st0 w2 0)).kept hb)
  have HB3 := Lib.hid (HB2.out.trans (hB.mono HB2.out.size))
  have hL4 := row_st0_other w3 (v / 2 ^ k) _ _ hL3
  have hR4 := row_st0 w3 (v / 2 ^ k)
  have HT4 := Lib.hid (HT3.out.kept (bel_st0 w3 (v / 2 ^ k)))
  have HB4 := Lib.hid (HB3.out.trans ((bel_st0 w3 (v / 2 ^ k)).mono HB3.out.size))
  have lL3 := rowN_lt hL3
  obtain ⟨b2, hb2⟩ : ∃ b2, w2.heap.size = b2 := ⟨_, rfl⟩
  rw [hb2] at hL4 hL3 lL3 ⊢
  clear hb hk hB hV3 hb2 HT2 HB2 HT3 HB3 HV2 lV
  have HL4 := Lib.hid hL4
  have HR4 := Lib.hid hR4
  clear hL3
  go_wp2_with fail
  clear hL4 hR4
  obtain ⟨W4, hW4⟩ : ∃ W4, (w3.alloc (.cells (natA 0) 28)).setRow w3.heap.size (natA (v / 2 ^ k)) = W4 := ⟨_, rfl⟩
  rw [hW4] at HL4 HR4 HT4 HB4 ⊢
  obtain ⟨b3, hb3⟩ : ∃ b3, w3.heap.size = b3 := ⟨_, rfl⟩
  rw [hb3] at HR4 lL3 ⊢
  have hL5 := HL4.out
  have hR5 := HR4.out
  clear hW4 hb3
  refine (HSH.out _ hLL _ _ HT4.out).mono ?_
  rintro e w5 ⟨t5, rfl, ht, hb⟩
  have HT5 := Lib.hid ht
  have hL6 := kept hb _ _ hL5
  have hR6 := kept hb _ _ hR5
  have HT6 := Lib.hid (HT4.out.kept hb)
  have HB6 := Lib.hid (HB4.out.trans (hb.mono HB4.out.size))
  clear ht hb hL5 hR5 HL4 HR4
  go_wp2_with fail
  refine (fits_false (v * 2 ^ k) _ t5 _ HT5.out (by have := HDS.out; omega) HF.out).mono ?_
  rintro e w6 ⟨rfl, hw⟩
  subst hw
  go_wp2_with fail
  refine (isZero0 _).mono ?_
  rintro e w8 ⟨rfl, hb⟩
  have hR8 := kept hb _ _ hR6
  have HT8 := Lib.hid (HT6.out.kept hb)
  have HB8 := Lib.hid (HB6.out.trans (hb.mono HB6.out.size))
  clear hb hR6 hL6
  go_wp2_with fail
  refine (rof_any 1 (by omega) _).mono ?_
  rintro e wa ⟨t1, rfl, ht, hb⟩
  have HT1 := Lib.hid ht
  have hRa := kept hb _ _ hR8
  have HTa := Lib.hid (HT8.out.kept hb)
  have HBa := Lib.hid (HB8.out.trans (hb.mono HB8.out.size))
  clear ht hb hR8
  go_wp2_with fail
  refine (HSH1.out _ _ HT1.out).mono ?_
  rintro e wb ⟨t2, rfl, ht, hb⟩
  have HT2 := Lib.hid ht
  have hRb := kept hb _ _ hRa
  have HTb := Lib.hid (HTa.out.kept hb)
  have HBb := Lib.hid (HBa.out.trans (hb.mono HBa.out.size))
  clear ht hb hRa
  go_wp2_with fail
  refine (HDIV.out _ hLL _ _ _ HTb.out HT2.out).mono ?_
  rintro e wc ⟨q, r, rfl, hq, hr, hb⟩
  have HQ := Lib.hid hq
  have hRc := kept hb _ _ hRb
  have HBc := Lib.hid (HBb.out.trans (hb.mono HBb.out.size))
  clear hq hr hb hRb
  go_wp2_with fail
  refine (same_eq (v / 2 ^ k) HFR.out q _ HQ.out).mono ?_
  rintro e wd ⟨rfl, hb⟩
  have HBe := Lib.hid (HBc.out.trans (hb.mono HBc.out.size))
  clear hb
  go_wp2_with fail
  refine (known_any _).mono ?_
  rintro e wK ⟨rfl, hb⟩
  have HBK := Lib.hid (HBe.out.trans (hb.mono HBe.out.size))
  clear hb
  go_wp2_with fail
  go_ret
  exact ⟨rfl, HBK.out⟩

theorem shifts_all (zs : List Nat) (a : Option Addr) (c : Nat) (k : Int) (w : World) (hz : BytesAt zs (.slice a zs.length c) w) (hk : k ≤ 9223372036854775807) :
    Calls Try.prog 9 #[.slice a zs.length c, .int .i64 k] w fun e w' => e = .returned (.bool true) ∧ Below w.heap.size w w' := by
  by_cases h1 : 128 < zs.length
  · exact shifts_long _ a c k w h1
  · by_cases hn : k < 0
    · exact shifts_neg zs a c w hz (by omega) _ rfl k hn
    · obtain ⟨j, rfl⟩ : ∃ j : Nat, k = ((j : Nat) : Int) := ⟨k.toNat, by omega⟩
      by_cases hb : 1024 < j
      · by_cases h0 : valBE 256 zs = 0
        · exact shifts_zero_big zs a c w hz (by omega) _ rfl h0 j hb (by omega)
        · exact shifts_pos_big zs a c w hz (by omega) _ rfl h0 j hb (by omega)
      · by_cases h0 : valBE 256 zs = 0
        · exact shifts_zero_few zs a c w hz (by omega) _ rfl h0 j (by omega)
        · by_cases hf : valBE 256 zs * 2 ^ j < P64 ^ 16
          · exact shifts_pos_fit zs a c w hz (by omega) _ rfl h0 j (by omega) hf
          · exact shifts_pos_full zs a c w hz (by omega) _ rfl j (by omega) hf
end Go.Proofs.Ytkegdjndmeialaa
