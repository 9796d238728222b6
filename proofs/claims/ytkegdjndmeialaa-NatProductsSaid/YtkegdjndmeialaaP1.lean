/- NatProducts, walked. -/
import Derived.Test.YtkegdjndmeialaaT0
import Derived.Test.YtkegdjndmeialaaQ1
import Derived.Test.YtkegdjndmeialaaQ4
namespace Go.Proofs.Ytkegdjndmeialaa
open Go.RowKit

theorem dlen_mul {v u : Nat} (hv : v < P64 ^ 16) (hu : u < P64 ^ 16) : dlen 65536 (v * u) ≤ 128 := by
  have e : P64 ^ 16 = (65536 : Nat) ^ 64 := by rw [P64_16, p16]
  rw [e] at hv hu
  refine dlen_le (by omega) ?_
  rw [show (128 : Nat) = 64 + 64 by omega, Nat.pow_add]
  exact Nat.mul_lt_mul'' hv hu

set_option maxRecDepth 100000 in
theorem prods_long (n n' : Nat) (a a' : Option Addr) (c c' : Nat) (w : World) (h : 128 < n ∨ 128 < n') :
    Calls Try.prog 7 #[.slice a n c, .slice a' n' c'] w fun e w' => e = .returned (.bool true) ∧ Below w.heap.size w w' := by
  by_cases h1 : 128 < n
  · clear h
    go_enter Try.func7, Try.ntmps7
    go_wp2_with fail
    refine (known_any _).mono ?_
    rintro e wK ⟨rfl, hb⟩
    have HBK := Lib.hid hb
    clear hb
    go_wp2_with fail
    go_ret
    exact ⟨rfl, HBK.out⟩
  · have h2 : 128 < n' := by omega
    clear h
    go_enter Try.func7, Try.ntmps7
    go_wp2_with fail
    refine (known_any _).mono ?_
    rintro e wK ⟨rfl, hb⟩
    have HBK := Lib.hid hb
    clear hb
    go_wp2_with fail
    go_ret
    exact ⟨rfl, HBK.out⟩

set_option maxRecDepth 100000 in
set_option maxHeartbeats 1000000 in
theorem prods_fit (zs ys : List Nat) (a a' : Option Addr) (c c' : Nat) (w : World) (hz : BytesAt zs (.slice a zs.length c) w) (hy : BytesAt ys (.slice a' ys.length c') w) (h1 : zs.length ≤ 128) (h2 : ys.length ≤ 128)
    (v u : Nat) (ev : valBE 256 zs = v) (eu : valBE 256 ys = u) (hf : v * u < P64 ^ 16) :
    Calls Try.prog 7 #[.slice a zs.length c, .slice a' ys.length c'] w fun e w' => e = .returned (.bool true) ∧ Below w.heap.size w w' := by
  have hv : v < P64 ^ 16 := by rw [← ev]; exact short_fits0 hz.1 h1
  have hu : u < P64 ^ 16 := by rw [← eu]; exact short_fits0 hy.1 h2
  have HM0 := Lib.hid (fun W hW => made_fits zs (.slice a zs.length c) W hW (by omega) (by rw [ev]; exact hv))
  have HM1 := Lib.hid (fun W hW => made_fits ys (.slice a' ys.length c') W hW (by omega) (by rw [eu]; exact hu))
  rw [ev] at HM0
  rw [eu] at HM1
  have hdv := dlen16 hv
  have hdu := dlen16 hu
  have hds := dlen_mul hv hu
  have HRM := Lib.hid (fun (s t : Value) (W : World) (hs : RefN v s W) (ht : RefN u t W) => rmul_any v u _ _ s t W hs ht (by omega) (by omega))
  have HMUL := Lib.hid (mul_fits v u hv hu hf)
  obtain ⟨sm, hsm⟩ : ∃ sm, v * u = sm := ⟨_, rfl⟩
  rw [hsm] at HMUL HRM hf hds
  have HF := Lib.hid hf
  have HY0 := Lib.hid hz
  have HY1 := Lib.hid hy
  clear hsm hf hz hy ev eu hv hu
  obtain ⟨n, hn⟩ : ∃ n, zs.length = n := ⟨_, rfl⟩
  obtain ⟨n', hn'⟩ : ∃ n', ys.length = n' := ⟨_, rfl⟩
  rw [hn] at HY0 HM0 h1 ⊢
  rw [hn'] at HY1 HM1 h2 ⊢
  clear hn hn'
  go_enter Try.func7, Try.ntmps7
  go_wp2_with fail
  refine (HM0.out _ HY0.out).mono ?_
  rintro e w1 ⟨tv, rfl, ht, hb⟩
  have HTv1 := Lib.hid ht
  have HB1 := Lib.hid hb
  clear ht hb
  go_wp2_with fail
  refine (HM1.out _ (HY1.out.kept (HB1.out.trans ((bel_st0 w1 v).mono HB1.out.size)))).mono ?_
  rintro e w2 ⟨tu, rfl, ht, hb⟩
  obtain ⟨hV, hk, hB⟩ := stored hb
  have HTv2 := Lib.hid ((HTv1.out.kept (bel_st0 w1 v)).kept hb)
  have HTu2 := Lib.hid ht
  have HB2 := Lib.hid (HB1.out.trans (hB.mono HB1.out.size))
  have lV := rowN_lt hV
  clear ht hb hk hB HTv1 HB1
  generalize w1.heap.size = b1 at *
  go_wp2_with fail
  have HTv3 := Lib.hid (HTv2.out.kept (bel_st0 w2 u))
  have HTu3 := Lib.hid (HTu2.out.kept (bel_st0 w2 u))
  have HB3 := Lib.hid (HB2.out.trans ((bel_st0 w2 u).mono HB2.out.size))
  refine (HMUL.out _).mono ?_
  rintro e w4 ⟨rfl, hb⟩
  have HTv4 := Lib.hid (HTv3.out.kept hb)
  have HTu4 := Lib.hid (HTu3.out.kept hb)
  have HB4 := Lib.hid (HB3.out.trans (hb.mono HB3.out.size))
  clear hb hV lV HTv3 HTu3 HB3 HTv2 HTu2 HB2
  go_wp2_with fail
  refine (HRM.out tv tu _ (HTv4.out.kept (bel_st0 w4 sm)) (HTu4.out.kept (bel_st0 w4 sm))).mono ?_
  rintro e w5 ⟨ts, rfl, ht, hb⟩
  obtain ⟨hS5, hk, hB⟩ := stored hb
  have HTs5 := Lib.hid ht
  have HB5 := Lib.hid (HB4.out.trans (hB.mono HB4.out.size))
  have lS5 := rowN_lt hS5
  clear ht hb hk hB HTv4 HTu4 HB4
  generalize w4.heap.size = b4 at *
  go_wp2_with fail
  refine (fits_true sm _ ts _ HTs5.out (by omega) HF.out).mono ?_
  rintro e w6 ⟨rfl, hw⟩
  subst hw
  go_wp2_with fail
  refine (same_eq sm HF.out ts _ HTs5.out).mono ?_
  rintro e w7 ⟨rfl, hb⟩
  have HB7 := Lib.hid (HB5.out.trans (hb.mono HB5.out.size))
  clear hb
  go_wp2_with fail
  refine (known_any _).mono ?_
  rintro e wK ⟨rfl, hb⟩
  have HBK := Lib.hid (HB7.out.trans (hb.mono HB7.out.size))
  clear hb
  go_wp2_with fail
  go_ret
  exact ⟨rfl, HBK.out⟩

set_option maxRecDepth 100000 in
set_option maxHeartbeats 1000000 in
theorem prods_full (zs ys : List Nat) (a a' : Option Addr) (c c' : Nat) (w : World) (hz : BytesAt zs (.slice a zs.length c) w) (hy : BytesAt ys (.slice a' ys.length c') w) (h1 : zs.length ≤ 128) (h2 : ys.length ≤ 128)
    (v u : Nat) (ev : valBE 256 zs = v) (eu : valBE 256 ys = u) (hf : ¬ v * u < P64 ^ 16) :
    Calls Try.prog 7 #[.slice a zs.length c, .slice a' ys.length c'] w fun e w' => e = .returned (.bool true) ∧ Below w.heap.size w w' := by
  have hv : v < P64 ^ 16 := by rw [← ev]; exact short_fits0 hz.1 h1
  have hu : u < P64 ^ 16 := by rw [← eu]; exact short_fits0 hy.1 h2
  have HM0 := Lib.hid (fun W hW => made_fits zs (.slice a zs.length c) W hW (by omega) (by rw [ev]; exact hv))
  have HM1 := Lib.hid (fun W hW => made_fits ys (.slice a' ys.length c') W hW (by omega) (by rw [eu]; exact hu))
  rw [ev] at HM0
  rw [eu] at HM1
  have hdv := dlen16 hv
  have hdu := dlen16 hu
  have hds := dlen_mul hv hu
  have HRM := Lib.hid (fun (s t : Value) (W : World) (hs : RefN v s W) (ht : RefN u t W) => rmul_any v u _ _ s t W hs ht (by omega) (by omega))
  have HMUL := Lib.hid (mul_full v u hv hu hf)
  obtain ⟨sm, hsm⟩ : ∃ sm, v * u = sm := ⟨_, rfl⟩
  rw [hsm] at HRM hf hds
  have HF := Lib.hid hf
  have HY0 := Lib.hid hz
  have HY1 := Lib.hid hy
  clear hsm hf hz hy ev eu hv hu
  obtain ⟨n, hn⟩ : ∃ n, zs.length = n := ⟨_, rfl⟩
  obtain ⟨n', hn'⟩ : ∃ n', ys.length = n' := ⟨_, rfl⟩
  rw [hn] at HY0 HM0 h1 ⊢
  rw [hn'] at HY1 HM1 h2 ⊢
  clear hn hn'
  go_enter Try.func7, Try.ntmps7
  go_wp2_with fail
  refine (HM0.out _ HY0.out).mono ?_
  rintro e w1 ⟨tv, rfl, ht, hb⟩
  have HTv1 := Lib.hid ht
  have HB1 := Lib.hid hb
  clear ht hb
  go_wp2_with fail
  refine (HM1.out _ (HY1.out.kept (HB1.out.trans ((bel_st0 w1 v).mono HB1.out.size)))).mono ?_
  rintro e w2 ⟨tu, rfl, ht, hb⟩
  obtain ⟨hV, hk, hB⟩ := stored hb
  have HTv2 := Lib.hid ((HTv1.out.kept (bel_st0 w1 v)).kept hb)
  have HTu2 := Lib.hid ht
  have HB2 := Lib.hid (HB1.out.trans (hB.mono HB1.out.size))
  have lV := rowN_lt hV
  clear ht hb hk hB HTv1 HB1
  generalize w1.heap.size = b1 at *
  go_wp2_with fail
  have HTv3 := Lib.hid (HTv2.out.kept (bel_st0 w2 u))
  have HTu3 := Lib.hid (HTu2.out.kept (bel_st0 w2 u))
  have HB3 := Lib.hid (HB2.out.trans ((bel_st0 w2 u).mono HB2.out.size))
  refine (HMUL.out _).mono ?_
  rintro e w4 ⟨rfl, hb⟩
  have HTv4 := Lib.hid (HTv3.out.kept hb)
  have HTu4 := Lib.hid (HTu3.out.kept hb)
  have HB4 := Lib.hid (HB3.out.trans (hb.mono HB3.out.size))
  clear hb hV lV HTv3 HTu3 HB3 HTv2 HTu2 HB2
  go_wp2_with fail
  refine (HRM.out tv tu _ (HTv4.out.kept (bel_st0 w4 0)) (HTu4.out.kept (bel_st0 w4 0))).mono ?_
  rintro e w5 ⟨ts, rfl, ht, hb⟩
  obtain ⟨hS5, hk, hB⟩ := stored hb
  have HTs5 := Lib.hid ht
  have HB5 := Lib.hid (HB4.out.trans (hB.mono HB4.out.size))
  have lS5 := rowN_lt hS5
  clear ht hb hk hB HTv4 HTu4 HB4
  generalize w4.heap.size = b4 at *
  go_wp2_with fail
  refine (fits_false sm _ ts _ HTs5.out (by omega) HF.out).mono ?_
  rintro e w6 ⟨rfl, hw⟩
  subst hw
  go_wp2_with fail
  refine (isZero0 _).mono ?_
  rintro e w7 ⟨rfl, hb⟩
  have HB7 := Lib.hid (HB5.out.trans (hb.mono HB5.out.size))
  clear hb
  go_wp2_with fail
  refine (known_any _).mono ?_
  rintro e wK ⟨rfl, hb⟩
  have HBK := Lib.hid (HB7.out.trans (hb.mono HB7.out.size))
  clear hb
  go_wp2_with fail
  go_ret
  exact ⟨rfl, HBK.out⟩

theorem prods_all (zs ys : List Nat) (a a' : Option Addr) (c c' : Nat) (w : World) (hz : BytesAt zs (.slice a zs.length c) w) (hy : BytesAt ys (.slice a' ys.length c') w) :
    Calls Try.prog 7 #[.slice a zs.length c, .slice a' ys.length c'] w fun e w' => e = .returned (.bool true) ∧ Below w.heap.size w w' := by
  by_cases hl : 128 < zs.length ∨ 128 < ys.length
  · exact prods_long _ _ a a' c c' w hl
  · by_cases hf : valBE 256 zs * valBE 256 ys < P64 ^ 16
    · exact prods_fit zs ys a a' c c' w hz hy (by omega) (by omega) _ _ rfl rfl hf
    · exact prods_full zs ys a a' c c' w hz hy (by omega) (by omega) _ _ rfl rfl hf
end Go.Proofs.Ytkegdjndmeialaa
