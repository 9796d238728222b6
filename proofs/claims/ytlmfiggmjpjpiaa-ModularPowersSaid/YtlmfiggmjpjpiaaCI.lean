/- ModularPowers, walked. -/
import Derived.Test.YtlmfiggmjpjpiaaCG
namespace Go.Proofs.Ytlmfiggmjpjpiaa
open Go.RowKit

set_option maxRecDepth 100000 in
theorem mpow_long1 (n n' n2 : Nat) (a a' a2 : Option Addr) (c c' c2 : Nat) (w : World) (h1 : 128 < n) :
    Calls Try.prog 5 #[.slice a n c, .slice a' n' c', .slice a2 n2 c2] w fun e w' => e = .returned (.bool true) ∧ Below w.heap.size w w' := by
  go_enter Try.func5, Try.ntmps5
  go_wp2_with fail
  refine (known_any _).mono ?_
  rintro e wK ⟨rfl, hb⟩
  have HBK := Lib.hid hb
  clear hb
  go_wp2_with fail
  go_ret
  exact ⟨rfl, HBK.out⟩

set_option maxRecDepth 100000 in
theorem mpow_long2 (n n' n2 : Nat) (a a' a2 : Option Addr) (c c' c2 : Nat) (w : World) (h1 : n ≤ 128) (h2 : 24 < n') :
    Calls Try.prog 5 #[.slice a n c, .slice a' n' c', .slice a2 n2 c2] w fun e w' => e = .returned (.bool true) ∧ Below w.heap.size w w' := by
  go_enter Try.func5, Try.ntmps5
  go_wp2_with fail
  refine (known_any _).mono ?_
  rintro e wK ⟨rfl, hb⟩
  have HBK := Lib.hid hb
  clear hb
  go_wp2_with fail
  go_ret
  exact ⟨rfl, HBK.out⟩

set_option maxRecDepth 100000 in
theorem mpow_long3 (n n' n2 : Nat) (a a' a2 : Option Addr) (c c' c2 : Nat) (w : World) (h1 : n ≤ 128) (h2 : n' ≤ 24) (h3 : 128 < n2) :
    Calls Try.prog 5 #[.slice a n c, .slice a' n' c', .slice a2 n2 c2] w fun e w' => e = .returned (.bool true) ∧ Below w.heap.size w w' := by
  go_enter Try.func5, Try.ntmps5
  go_wp2_with fail
  refine (known_any _).mono ?_
  rintro e wK ⟨rfl, hb⟩
  have HBK := Lib.hid hb
  clear hb
  go_wp2_with fail
  go_ret
  exact ⟨rfl, HBK.out⟩

set_option maxRecDepth 100000 in
theorem mpow_long4 (n n' n2 : Nat) (a a' a2 : Option Addr) (c c' c2 : Nat) (w : World) (h1 : n ≤ 128) (h2 : n' ≤ 24) (h3 : n2 ≤ 128) (h4 : 24 < n) (h5 : 2 < n') :
    Calls Try.prog 5 #[.slice a n c, .slice a' n' c', .slice a2 n2 c2] w fun e w' => e = .returned (.bool true) ∧ Below w.heap.size w w' := by
  have f0 : decide ((128 : Int) < ((n : Nat) : Int)) = false := by simp; omega
  have f1 : decide ((24 : Int) < ((n' : Nat) : Int)) = false := by simp; omega
  have f2 : decide ((128 : Int) < ((n2 : Nat) : Int)) = false := by simp; omega
  have f3 : decide ((24 : Int) < ((n : Nat) : Int)) = true := by simp; omega
  have f4 : decide ((2 : Int) < ((n' : Nat) : Int)) = true := by simp; omega
  go_enter Try.func5, Try.ntmps5
  go_wp2_with fail
  refine (known_any _).mono ?_
  rintro e wK ⟨rfl, hb⟩
  have HBK := Lib.hid hb
  clear hb
  go_wp2_with fail
  go_ret
  exact ⟨rfl, HBK.out⟩

set_option maxRecDepth 100000 in
theorem mpow_long5 (n n' n2 : Nat) (a a' a2 : Option Addr) (c c' c2 : Nat) (w : World) (h1 : n ≤ 24) (h2 : n' ≤ 24) (h3 : n2 ≤ 128) (h4 : 24 < n2) (h5 : 2 < n') :
    Calls Try.prog 5 #[.slice a n c, .slice a' n' c', .slice a2 n2 c2] w fun e w' => e = .returned (.bool true) ∧ Below w.heap.size w w' := by
  have f0 : decide ((128 : Int) < ((n : Nat) : Int)) = false := by simp; omega
  have f1 : decide ((24 : Int) < ((n' : Nat) : Int)) = false := by simp; omega
  have f2 : decide ((128 : Int) < ((n2 : Nat) : Int)) = false := by simp; omega
  have f3 : decide ((24 : Int) < ((n : Nat) : Int)) = false := by simp; omega
  have f4 : decide ((24 : Int) < ((n2 : Nat) : Int)) = true := by simp; omega
  have f5 : decide ((2 : Int) < ((n' : Nat) : Int)) = true := by simp; omega
  go_enter Try.func5, Try.ntmps5
  go_wp2_with fail
  refine (known_any _).mono ?_
  rintro e wK ⟨rfl, hb⟩
  have HBK := Lib.hid hb
  clear hb
  go_wp2_with fail
  go_ret
  exact ⟨rfl, HBK.out⟩

set_option maxRecDepth 100000 in
set_option maxHeartbeats 1000000 in
theorem mpow_zeroA (zs ys xs : List Nat) (a a' a2 : Option Addr) (c c' c2 : Nat) (w : World) (hz : BytesAt zs (.slice a zs.length c) w) (hy : BytesAt ys (.slice a' ys.length c') w) (hx : BytesAt xs (.slice a2 xs.length c2) w) (h1 : zs.length ≤ 128) (h2 : ys.length ≤ 24) (h3 : xs.length ≤ 128)
    (v u m : Nat) (ev : valBE 256 zs = v) (eu : valBE 256 ys = u) (em : valBE 256 xs = m) (k1 : zs.length ≤ 24) (k2 : xs.length ≤ 24) (h0 : m = 0) :
    Calls Try.prog 5 #[.slice a zs.length c, .slice a' ys.length c', .slice a2 xs.length c2] w fun e w' => e = .returned (.bool true) ∧ Below w.heap.size w w' := by
  have hv : v < P64 ^ 16 := by rw [← ev]; exact short_fits0 hz.1 h1
  have hu : u < P64 ^ 16 := by rw [← eu]; exact short_fits0 hy.1 (by omega)
  have hm : m < P64 ^ 16 := by rw [← em]; exact short_fits0 hx.1 h3
  have HM0 := Lib.hid (fun W hW => made_any zs (.slice a zs.length c) W hW (by omega))
  have HM1 := Lib.hid (fun W hW => made_any ys (.slice a' ys.length c') W hW (by omega))
  have HM2 := Lib.hid (fun W hW => made_any xs (.slice a2 xs.length c2) W hW (by omega))
  rw [fb_val (by rw [ev]; exact hv), ev] at HM0
  rw [fb_val (by rw [eu]; exact hu), eu] at HM1
  rw [fb_val (by rw [em]; exact hm), em] at HM2
  have HF0 := Lib.hid (fun W hW => from_any zs (.slice a zs.length c) W hW (by omega))
  have HF1 := Lib.hid (fun W hW => from_any ys (.slice a' ys.length c') W hW (by omega))
  have HF2 := Lib.hid (fun W hW => from_any xs (.slice a2 xs.length c2) W hW (by omega))
  rw [ev] at HF0
  rw [eu] at HF1
  rw [em] at HF2
  have HY0 := Lib.hid hz
  have HY1 := Lib.hid hy
  have HY2 := Lib.hid hx
  subst h0
  have HMUL := Lib.hid (fun W => mod_exp_zero v u W)
  have hz0 : natEq 0 0 = true := by rw [natEq_iff hm hm]; rfl
  clear hz hy hx ev eu em hv hu hm
  obtain ⟨r, hr⟩ : ∃ r : Nat, r = 0 := ⟨_, rfl⟩
  rw [← hr] at hz0
  obtain ⟨n, hn⟩ : ∃ n, zs.length = n := ⟨_, rfl⟩
  obtain ⟨n', hn'⟩ : ∃ n', ys.length = n' := ⟨_, rfl⟩
  obtain ⟨n2, hn2⟩ : ∃ n2, xs.length = n2 := ⟨_, rfl⟩
  rw [hn] at HY0 HM0 HF0 h1 ⊢
  rw [hn'] at HY1 HM1 HF1 h2 ⊢
  rw [hn2] at HY2 HM2 HF2 h3 ⊢
  rw [hn] at k1
  rw [hn2] at k2
  clear hn hn' hn2
  have f0 : decide ((128 : Int) < ((n : Nat) : Int)) = false := by simp; omega
  have f1 : decide ((24 : Int) < ((n' : Nat) : Int)) = false := by simp; omega
  have f2 : decide ((128 : Int) < ((n2 : Nat) : Int)) = false := by simp; omega
  have f3 : decide ((24 : Int) < ((n : Nat) : Int)) = false := by simp; omega
  have f4 : decide ((24 : Int) < ((n2 : Nat) : Int)) = false := by simp; omega
  go_enter Try.func5, Try.ntmps5
  go_wp2_with fail
  refine (HM0.out _ HY0.out).mono ?_
  rintro e w1 ⟨rfl, hb⟩
  have HB1 := Lib.hid hb
  clear hb
  go_wp2_with fail
  refine (HM1.out _ (HY1.out.kept HB1.out)).mono ?_
  rintro e w2 ⟨rfl, hb⟩
  have HB2 := Lib.hid (HB1.out.trans (hb.mono HB1.out.size))
  clear hb
  go_wp2_with fail
  refine (HM2.out _ (HY2.out.kept HB2.out)).mono ?_
  rintro e w3 ⟨rfl, hb⟩
  have HB3 := Lib.hid (HB2.out.trans (hb.mono HB2.out.size))
  clear hb HB1 HB2
  go_wp2_with fail
  refine (HMUL.out _).mono ?_
  rintro e w4 ⟨rfl, hb⟩
  have HB4 := Lib.hid (HB3.out.trans (hb.mono HB3.out.size))
  clear hb HB3
  go_wp2_with fail
  refine (HF2.out _ (HY2.out.kept (HB4.out.trans ((bel_st0 w4 0).mono HB4.out.size)))).mono ?_
  rintro e w5 ⟨tm, rfl, ht, hb⟩
  obtain ⟨hR, hk, hBel⟩ := stored hb
  have HT5 := Lib.hid ht
  have HB5 := Lib.hid (HB4.out.trans (hBel.mono HB4.out.size))
  have lR := rowN_lt hR
  clear ht hb hk hBel HB4
  generalize w4.heap.size = b7 at *
  obtain ⟨ta, tc, rfl⟩ := refN_nil HT5.out
  go_wp2_with fail
  refine (isZero_any 0 _).mono ?_
  rintro e w6 ⟨rfl, hb⟩
  have HB6 := Lib.hid (HB5.out.trans (hb.mono HB5.out.size))
  rw [hr] at hz0
  rw [hz0]
  clear hb
  go_wp2_with fail
  refine (known_any _).mono ?_
  rintro e wK ⟨rfl, hb⟩
  have HBK := Lib.hid (HB6.out.trans (hb.mono HB6.out.size))
  clear hb
  go_wp2_with fail
  go_ret
  exact ⟨rfl, HBK.out⟩

set_option maxRecDepth 100000 in
set_option maxHeartbeats 1000000 in
theorem mpow_posA (zs ys xs : List Nat) (a a' a2 : Option Addr) (c c' c2 : Nat) (w : World) (hz : BytesAt zs (.slice a zs.length c) w) (hy : BytesAt ys (.slice a' ys.length c') w) (hx : BytesAt xs (.slice a2 xs.length c2) w) (h1 : zs.length ≤ 128) (h2 : ys.length ≤ 24) (h3 : xs.length ≤ 128)
    (v u m : Nat) (ev : valBE 256 zs = v) (eu : valBE 256 ys = u) (em : valBE 256 xs = m) (k1 : zs.length ≤ 24) (k2 : xs.length ≤ 24) (h0 : 0 < m) :
    Calls Try.prog 5 #[.slice a zs.length c, .slice a' ys.length c', .slice a2 xs.length c2] w fun e w' => e = .returned (.bool true) ∧ Below w.heap.size w w' := by
  have hv : v < P64 ^ 16 := by rw [← ev]; exact short_fits0 hz.1 h1
  have hu : u < P64 ^ 16 := by rw [← eu]; exact short_fits0 hy.1 (by omega)
  have hm : m < P64 ^ 16 := by rw [← em]; exact short_fits0 hx.1 h3
  have HM0 := Lib.hid (fun W hW => made_any zs (.slice a zs.length c) W hW (by omega))
  have HM1 := Lib.hid (fun W hW => made_any ys (.slice a' ys.length c') W hW (by omega))
  have HM2 := Lib.hid (fun W hW => made_any xs (.slice a2 xs.length c2) W hW (by omega))
  rw [fb_val (by rw [ev]; exact hv), ev] at HM0
  rw [fb_val (by rw [eu]; exact hu), eu] at HM1
  rw [fb_val (by rw [em]; exact hm), em] at HM2
  have HF0 := Lib.hid (fun W hW => from_any zs (.slice a zs.length c) W hW (by omega))
  have HF1 := Lib.hid (fun W hW => from_any ys (.slice a' ys.length c') W hW (by omega))
  have HF2 := Lib.hid (fun W hW => from_any xs (.slice a2 xs.length c2) W hW (by omega))
  rw [ev] at HF0
  rw [eu] at HF1
  rw [em] at HF2
  have HY0 := Lib.hid hz
  have HY1 := Lib.hid hy
  have HY2 := Lib.hid hx
  have HMUL := Lib.hid (fun W => (by have h := mod_exp_pos m v u hm h0 hv hu W; rw [pm_eq] at h; exact h : Calls Try.prog 23 #[.agg (natA v), .agg (natA u), .agg (natA m)] W fun e w' => e = .returned (.tuple #[.agg (natA (v ^ u % m)), .int .i64 0]) ∧ Below W.heap.size W w'))
  have HRM := Lib.hid (fun s t z W (hs : RefN v s W) (ht : RefN u t W) (hz : RefN m z W) => rmexp_any v u m s t z W hs ht hz hv hu hm h0)
  have hrm : v ^ u % m < P64 ^ 16 := Nat.lt_trans (Nat.mod_lt _ h0) hm
  have HSA := Lib.hid (fun s W (hs : RefN (v ^ u % m) s W) => same_eq (v ^ u % m) hrm s W hs)
  have H0 := Lib.hid h0
  clear hz hy hx ev eu em hv hu hm h0 hrm
  generalize v ^ u % m = r at *
  obtain ⟨n, hn⟩ : ∃ n, zs.length = n := ⟨_, rfl⟩
  obtain ⟨n', hn'⟩ : ∃ n', ys.length = n' := ⟨_, rfl⟩
  obtain ⟨n2, hn2⟩ : ∃ n2, xs.length = n2 := ⟨_, rfl⟩
  rw [hn] at HY0 HM0 HF0 h1 ⊢
  rw [hn'] at HY1 HM1 HF1 h2 ⊢
  rw [hn2] at HY2 HM2 HF2 h3 ⊢
  rw [hn] at k1
  rw [hn2] at k2
  clear hn hn' hn2
  have f0 : decide ((128 : Int) < ((n : Nat) : Int)) = false := by simp; omega
  have f1 : decide ((24 : Int) < ((n' : Nat) : Int)) = false := by simp; omega
  have f2 : decide ((128 : Int) < ((n2 : Nat) : Int)) = false := by simp; omega
  have f3 : decide ((24 : Int) < ((n : Nat) : Int)) = false := by simp; omega
  have f4 : decide ((24 : Int) < ((n2 : Nat) : Int)) = false := by simp; omega
  go_enter Try.func5, Try.ntmps5
  go_wp2_with fail
  refine (HM0.out _ HY0.out).mono ?_
  rintro e w1 ⟨rfl, hb⟩
  have HB1 := Lib.hid hb
  clear hb
  go_wp2_with fail
  refine (HM1.out _ (HY1.out.kept HB1.out)).mono ?_
  rintro e w2 ⟨rfl, hb⟩
  have HB2 := Lib.hid (HB1.out.trans (hb.mono HB1.out.size))
  clear hb
  go_wp2_with fail
  refine (HM2.out _ (HY2.out.kept HB2.out)).mono ?_
  rintro e w3 ⟨rfl, hb⟩
  have HB3 := Lib.hid (HB2.out.trans (hb.mono HB2.out.size))
  clear hb HB1 HB2
  go_wp2_with fail
  refine (HMUL.out _).mono ?_
  rintro e w4 ⟨rfl, hb⟩
  have HB4 := Lib.hid (HB3.out.trans (hb.mono HB3.out.size))
  clear hb HB3
  go_wp2_with fail
  refine (HF2.out _ (HY2.out.kept (HB4.out.trans ((bel_st0 w4 r).mono HB4.out.size)))).mono ?_
  rintro e w5 ⟨tm, rfl, ht, hb⟩
  obtain ⟨hR, hk, hBel⟩ := stored hb
  have HT5 := Lib.hid ht
  have HB5 := Lib.hid (HB4.out.trans (hBel.mono HB4.out.size))
  have lR := rowN_lt hR
  clear ht hb hk hBel HB4
  generalize w4.heap.size = b7 at *
  obtain ⟨ta, tc, L, hL, rfl⟩ := refN_pos H0.out HT5.out
  go_wp2_with fail
  have d7 : rowN w5.drew b7 = some (natA r) := by rw [rowN_drew]; exact hR
  have HDT := Lib.hid (HT5.out.kept (Below.refl _ w5).drew)
  have HD := Lib.hid HB5.out.drew
  clear hR HB5 HT5
  go_region_held3 (fun W => rowN W b7 = some (natA r)) (first | exact d7) (first
    | (go_at_call_of 15 (Value.slice a n c); refine (HF0.out _ (HY0.out.kept HD.out)).mono ?_; rintro e x1 ⟨t0, rfl, ht0, hb⟩; have HT0 := Lib.hid ht0; replace HDT := Lib.hid (HDT.out.kept hb); replace d7 := kept hb _ _ d7; replace HD := Lib.hid (HD.out.trans (hb.mono HD.out.size)); clear hb ht0)
    | (go_at_call_of 15 (Value.slice a' n' c'); refine (HF1.out _ (HY1.out.kept HD.out)).mono ?_; rintro e x2 ⟨t1, rfl, ht1, hb⟩; have HT1 := Lib.hid ht1; replace HT0 := Lib.hid (DigN.kept HT0.out hb); replace HDT := Lib.hid (HDT.out.kept hb); replace d7 := kept hb _ _ d7; replace HD := Lib.hid (HD.out.trans (hb.mono HD.out.size)); clear hb ht1)
    | (go_at_call 24; refine (HRM.out _ _ _ _ HT0.out HT1.out HDT.out).mono ?_; rintro e x3 ⟨t2, rfl, ht2, hb⟩; have HT2 := Lib.hid ht2; replace d7 := kept hb _ _ d7; replace HD := Lib.hid (HD.out.trans (hb.mono HD.out.size)); clear hb ht2)
    | (go_at_call 17; refine (HSA.out _ _ HT2.out).mono ?_; rintro e x4 ⟨rfl, hb⟩; replace d7 := kept hb _ _ d7; replace HD := Lib.hid (HD.out.trans (hb.mono HD.out.size)); clear hb)
    | (go_at_call 10; refine (known_any _).mono ?_; rintro e x5 ⟨rfl, hb⟩; replace d7 := kept hb _ _ d7; replace HD := Lib.hid (HD.out.trans (hb.mono HD.out.size)); clear hb))
  all_goals
    go_wp2_with fail
    go_ret
    exact ⟨rfl, HD.out⟩

set_option maxRecDepth 100000 in
set_option maxHeartbeats 1000000 in
theorem mpow_zeroB (zs ys xs : List Nat) (a a' a2 : Option Addr) (c c' c2 : Nat) (w : World) (hz : BytesAt zs (.slice a zs.length c) w) (hy : BytesAt ys (.slice a' ys.length c') w) (hx : BytesAt xs (.slice a2 xs.length c2) w) (h1 : zs.length ≤ 128) (h2 : ys.length ≤ 24) (h3 : xs.length ≤ 128)
    (v u m : Nat) (ev : valBE 256 zs = v) (eu : valBE 256 ys = u) (em : valBE 256 xs = m) (k1 : 24 < zs.length) (k2 : ys.length ≤ 2) (h0 : m = 0) :
    Calls Try.prog 5 #[.slice a zs.length c, .slice a' ys.length c', .slice a2 xs.length c2] w fun e w' => e = .returned (.bool true) ∧ Below w.heap.size w w' := by
  have hv : v < P64 ^ 16 := by rw [← ev]; exact short_fits0 hz.1 h1
  have hu : u < P64 ^ 16 := by rw [← eu]; exact short_fits0 hy.1 (by omega)
  have hm : m < P64 ^ 16 := by rw [← em]; exact short_fits0 hx.1 h3
  have HM0 := Lib.hid (fun W hW => made_any zs (.slice a zs.length c) W hW (by omega))
  have HM1 := Lib.hid (fun W hW => made_any ys (.slice a' ys.length c') W hW (by omega))
  have HM2 := Lib.hid (fun W hW => made_any xs (.slice a2 xs.length c2) W hW (by omega))
  rw [fb_val (by rw [ev]; exact hv), ev] at HM0
  rw [fb_val (by rw [eu]; exact hu), eu] at HM1
  rw [fb_val (by rw [em]; exact hm), em] at HM2
  have HF0 := Lib.hid (fun W hW => from_any zs (.slice a zs.length c) W hW (by omega))
  have HF1 := Lib.hid (fun W hW => from_any ys (.slice a' ys.length c') W hW (by omega))
  have HF2 := Lib.hid (fun W hW => from_any xs (.slice a2 xs.length c2) W hW (by omega))
  rw [ev] at HF0
  rw [eu] at HF1
  rw [em] at HF2
  have HY0 := Lib.hid hz
  have HY1 := Lib.hid hy
  have HY2 := Lib.hid hx
  subst h0
  have HMUL := Lib.hid (fun W => mod_exp_zero v u W)
  have hz0 : natEq 0 0 = true := by rw [natEq_iff hm hm]; rfl
  clear hz hy hx ev eu em hv hu hm
  obtain ⟨r, hr⟩ : ∃ r : Nat, r = 0 := ⟨_, rfl⟩
  rw [← hr] at hz0
  obtain ⟨n, hn⟩ : ∃ n, zs.length = n := ⟨_, rfl⟩
  obtain ⟨n', hn'⟩ : ∃ n', ys.length = n' := ⟨_, rfl⟩
  obtain ⟨n2, hn2⟩ : ∃ n2, xs.length = n2 := ⟨_, rfl⟩
  rw [hn] at HY0 HM0 HF0 h1 ⊢
  rw [hn'] at HY1 HM1 HF1 h2 ⊢
  rw [hn2] at HY2 HM2 HF2 h3 ⊢
  rw [hn] at k1
  rw [hn'] at k2
  clear hn hn' hn2
  have f0 : decide ((128 : Int) < ((n : Nat) : Int)) = false := by simp; omega
  have f1 : decide ((24 : Int) < ((n' : Nat) : Int)) = false := by simp; omega
  have f2 : decide ((128 : Int) < ((n2 : Nat) : Int)) = false := by simp; omega
  have f3 : decide ((24 : Int) < ((n : Nat) : Int)) = true := by simp; omega
  have f4 : decide ((2 : Int) < ((n' : Nat) : Int)) = false := by simp; omega
  go_enter Try.func5, Try.ntmps5
  go_wp2_with fail
  refine (HM0.out _ HY0.out).mono ?_
  rintro e w1 ⟨rfl, hb⟩
  have HB1 := Lib.hid hb
  clear hb
  go_wp2_with fail
  refine (HM1.out _ (HY1.out.kept HB1.out)).mono ?_
  rintro e w2 ⟨rfl, hb⟩
  have HB2 := Lib.hid (HB1.out.trans (hb.mono HB1.out.size))
  clear hb
  go_wp2_with fail
  refine (HM2.out _ (HY2.out.kept HB2.out)).mono ?_
  rintro e w3 ⟨rfl, hb⟩
  have HB3 := Lib.hid (HB2.out.trans (hb.mono HB2.out.size))
  clear hb HB1 HB2
  go_wp2_with fail
  refine (HMUL.out _).mono ?_
  rintro e w4 ⟨rfl, hb⟩
  have HB4 := Lib.hid (HB3.out.trans (hb.mono HB3.out.size))
  clear hb HB3
  go_wp2_with fail
  refine (HF2.out _ (HY2.out.kept (HB4.out.trans ((bel_st0 w4 0).mono HB4.out.size)))).mono ?_
  rintro e w5 ⟨tm, rfl, ht, hb⟩
  obtain ⟨hR, hk, hBel⟩ := stored hb
  have HT5 := Lib.hid ht
  have HB5 := Lib.hid (HB4.out.trans (hBel.mono HB4.out.size))
  have lR := rowN_lt hR
  clear ht hb hk hBel HB4
  generalize w4.heap.size = b7 at *
  obtain ⟨ta, tc, rfl⟩ := refN_nil HT5.out
  go_wp2_with fail
  refine (isZero_any 0 _).mono ?_
  rintro e w6 ⟨rfl, hb⟩
  have HB6 := Lib.hid (HB5.out.trans (hb.mono HB5.out.size))
  rw [hr] at hz0
  rw [hz0]
  clear hb
  go_wp2_with fail
  refine (known_any _).mono ?_
  rintro e wK ⟨rfl, hb⟩
  have HBK := Lib.hid (HB6.out.trans (hb.mono HB6.out.size))
  clear hb
  go_wp2_with fail
  go_ret
  exact ⟨rfl, HBK.out⟩

set_option maxRecDepth 100000 in
set_option maxHeartbeats 1000000 in
theorem mpow_posB (zs ys xs : List Nat) (a a' a2 : Option Addr) (c c' c2 : Nat) (w : World) (hz : BytesAt zs (.slice a zs.length c) w) (hy : BytesAt ys (.slice a' ys.length c') w) (hx : BytesAt xs (.slice a2 xs.length c2) w) (h1 : zs.length ≤ 128) (h2 : ys.length ≤ 24) (h3 : xs.length ≤ 128)
    (v u m : Nat) (ev : valBE 256 zs = v) (eu : valBE 256 ys = u) (em : valBE 256 xs = m) (k1 : 24 < zs.length) (k2 : ys.length ≤ 2) (h0 : 0 < m) :
    Calls Try.prog 5 #[.slice a zs.length c, .slice a' ys.length c', .slice a2 xs.length c2] w fun e w' => e = .returned (.bool true) ∧ Below w.heap.size w w' := by
  have hv : v < P64 ^ 16 := by rw [← ev]; exact short_fits0 hz.1 h1
  have hu : u < P64 ^ 16 := by rw [← eu]; exact short_fits0 hy.1 (by omega)
  have hm : m < P64 ^ 16 := by rw [← em]; exact short_fits0 hx.1 h3
  have HM0 := Lib.hid (fun W hW => made_any zs (.slice a zs.length c) W hW (by omega))
  have HM1 := Lib.hid (fun W hW => made_any ys (.slice a' ys.length c') W hW (by omega))
  have HM2 := Lib.hid (fun W hW => made_any xs (.slice a2 xs.length c2) W hW (by omega))
  rw [fb_val (by rw [ev]; exact hv), ev] at HM0
  rw [fb_val (by rw [eu]; exact hu), eu] at HM1
  rw [fb_val (by rw [em]; exact hm), em] at HM2
  have HF0 := Lib.hid (fun W hW => from_any zs (.slice a zs.length c) W hW (by omega))
  have HF1 := Lib.hid (fun W hW => from_any ys (.slice a' ys.length c') W hW (by omega))
  have HF2 := Lib.hid (fun W hW => from_any xs (.slice a2 xs.length c2) W hW (by omega))
  rw [ev] at HF0
  rw [eu] at HF1
  rw [em] at HF2
  have HY0 := Lib.hid hz
  have HY1 := Lib.hid hy
  have HY2 := Lib.hid hx
  have HMUL := Lib.hid (fun W => (by have h := mod_exp_pos m v u hm h0 hv hu W; rw [pm_eq] at h; exact h : Calls Try.prog 23 #[.agg (natA v), .agg (natA u), .agg (natA m)] W fun e w' => e = .returned (.tuple #[.agg (natA (v ^ u % m)), .int .i64 0]) ∧ Below W.heap.size W w'))
  have HRM := Lib.hid (fun s t z W (hs : RefN v s W) (ht : RefN u t W) (hz : RefN m z W) => rmexp_any v u m s t z W hs ht hz hv hu hm h0)
  have hrm : v ^ u % m < P64 ^ 16 := Nat.lt_trans (Nat.mod_lt _ h0) hm
  have HSA := Lib.hid (fun s W (hs : RefN (v ^ u % m) s W) => same_eq (v ^ u % m) hrm s W hs)
  have H0 := Lib.hid h0
  clear hz hy hx ev eu em hv hu hm h0 hrm
  generalize v ^ u % m = r at *
  obtain ⟨n, hn⟩ : ∃ n, zs.length = n := ⟨_, rfl⟩
  obtain ⟨n', hn'⟩ : ∃ n', ys.length = n' := ⟨_, rfl⟩
  obtain ⟨n2, hn2⟩ : ∃ n2, xs.length = n2 := ⟨_, rfl⟩
  rw [hn] at HY0 HM0 HF0 h1 ⊢
  rw [hn'] at HY1 HM1 HF1 h2 ⊢
  rw [hn2] at HY2 HM2 HF2 h3 ⊢
  rw [hn] at k1
  rw [hn'] at k2
  clear hn hn' hn2
  have f0 : decide ((128 : Int) < ((n : Nat) : Int)) = false := by simp; omega
  have f1 : decide ((24 : Int) < ((n' : Nat) : Int)) = false := by simp; omega
  have f2 : decide ((128 : Int) < ((n2 : Nat) : Int)) = false := by simp; omega
  have f3 : decide ((24 : Int) < ((n : Nat) : Int)) = true := by simp; omega
  have f4 : decide ((2 : Int) < ((n' : Nat) : Int)) = false := by simp; omega
  go_enter Try.func5, Try.ntmps5
  go_wp2_with fail
  refine (HM0.out _ HY0.out).mono ?_
  rintro e w1 ⟨rfl, hb⟩
  have HB1 := Lib.hid hb
  clear hb
  go_wp2_with fail
  refine (HM1.out _ (HY1.out.kept HB1.out)).mono ?_
  rintro e w2 ⟨rfl, hb⟩
  have HB2 := Lib.hid (HB1.out.trans (hb.mono HB1.out.size))
  clear hb
  go_wp2_with fail
  refine (HM2.out _ (HY2.out.kept HB2.out)).mono ?_
  rintro e w3 ⟨rfl, hb⟩
  have HB3 := Lib.hid (HB2.out.trans (hb.mono HB2.out.size))
  clear hb HB1 HB2
  go_wp2_with fail
  refine (HMUL.out _).mono ?_
  rintro e w4 ⟨rfl, hb⟩
  have HB4 := Lib.hid (HB3.out.trans (hb.mono HB3.out.size))
  clear hb HB3
  go_wp2_with fail
  refine (HF2.out _ (HY2.out.kept (HB4.out.trans ((bel_st0 w4 r).mono HB4.out.size)))).mono ?_
  rintro e w5 ⟨tm, rfl, ht, hb⟩
  obtain ⟨hR, hk, hBel⟩ := stored hb
  have HT5 := Lib.hid ht
  have HB5 := Lib.hid (HB4.out.trans (hBel.mono HB4.out.size))
  have lR := rowN_lt hR
  clear ht hb hk hBel HB4
  generalize w4.heap.size = b7 at *
  obtain ⟨ta, tc, L, hL, rfl⟩ := refN_pos H0.out HT5.out
  go_wp2_with fail
  have d7 : rowN w5.drew b7 = some (natA r) := by rw [rowN_drew]; exact hR
  have HDT := Lib.hid (HT5.out.kept (Below.refl _ w5).drew)
  have HD := Lib.hid HB5.out.drew
  clear hR HB5 HT5
  go_region_held3 (fun W => rowN W b7 = some (natA r)) (first | exact d7) (first
    | (go_at_call_of 15 (Value.slice a n c); refine (HF0.out _ (HY0.out.kept HD.out)).mono ?_; rintro e x1 ⟨t0, rfl, ht0, hb⟩; have HT0 := Lib.hid ht0; replace HDT := Lib.hid (HDT.out.kept hb); replace d7 := kept hb _ _ d7; replace HD := Lib.hid (HD.out.trans (hb.mono HD.out.size)); clear hb ht0)
    | (go_at_call_of 15 (Value.slice a' n' c'); refine (HF1.out _ (HY1.out.kept HD.out)).mono ?_; rintro e x2 ⟨t1, rfl, ht1, hb⟩; have HT1 := Lib.hid ht1; replace HT0 := Lib.hid (DigN.kept HT0.out hb); replace HDT := Lib.hid (HDT.out.kept hb); replace d7 := kept hb _ _ d7; replace HD := Lib.hid (HD.out.trans (hb.mono HD.out.size)); clear hb ht1)
    | (go_at_call 24; refine (HRM.out _ _ _ _ HT0.out HT1.out HDT.out).mono ?_; rintro e x3 ⟨t2, rfl, ht2, hb⟩; have HT2 := Lib.hid ht2; replace d7 := kept hb _ _ d7; replace HD := Lib.hid (HD.out.trans (hb.mono HD.out.size)); clear hb ht2)
    | (go_at_call 17; refine (HSA.out _ _ HT2.out).mono ?_; rintro e x4 ⟨rfl, hb⟩; replace d7 := kept hb _ _ d7; replace HD := Lib.hid (HD.out.trans (hb.mono HD.out.size)); clear hb)
    | (go_at_call 10; refine (known_any _).mono ?_; rintro e x5 ⟨rfl, hb⟩; replace d7 := kept hb _ _ d7; replace HD := Lib.hid (HD.out.trans (hb.mono HD.out.size)); clear hb))
  all_goals
    go_wp2_with fail
    go_ret
    exact ⟨rfl, HD.out⟩

set_option maxRecDepth 100000 in
set_option maxHeartbeats 1000000 in
theorem mpow_zeroC (zs ys xs : List Nat) (a a' a2 : Option Addr) (c c' c2 : Nat) (w : World) (hz : BytesAt zs (.slice a zs.length c) w) (hy : BytesAt ys (.slice a' ys.length c') w) (hx : BytesAt xs (.slice a2 xs.length c2) w) (h1 : zs.length ≤ 128) (h2 : ys.length ≤ 24) (h3 : xs.length ≤ 128)
    (v u m : Nat) (ev : valBE 256 zs = v) (eu : valBE 256 ys = u) (em : valBE 256 xs = m) (k1 : zs.length ≤ 24) (k2 : 24 < xs.length) (k3 : ys.length ≤ 2) (h0 : m = 0) :
    Calls Try.prog 5 #[.slice a zs.length c, .slice a' ys.length c', .slice a2 xs.length c2] w fun e w' => e = .returned (.bool true) ∧ Below w.heap.size w w' := by
  have hv : v < P64 ^ 16 := by rw [← ev]; exact short_fits0 hz.1 h1
  have hu : u < P64 ^ 16 := by rw [← eu]; exact short_fits0 hy.1 (by omega)
  have hm : m < P64 ^ 16 := by rw [← em]; exact short_fits0 hx.1 h3
  have HM0 := Lib.hid (fun W hW => made_any zs (.slice a zs.length c) W hW (by omega))
  have HM1 := Lib.hid (fun W hW => made_any ys (.slice a' ys.length c') W hW (by omega))
  have HM2 := Lib.hid (fun W hW => made_any xs (.slice a2 xs.length c2) W hW (by omega))
  rw [fb_val (by rw [ev]; exact hv), ev] at HM0
  rw [fb_val (by rw [eu]; exact hu), eu] at HM1
  rw [fb_val (by rw [em]; exact hm), em] at HM2
  have HF0 := Lib.hid (fun W hW => from_any zs (.slice a zs.length c) W hW (by omega))
  have HF1 := Lib.hid (fun W hW => from_any ys (.slice a' ys.length c') W hW (by omega))
  have HF2 := Lib.hid (fun W hW => from_any xs (.slice a2 xs.length c2) W hW (by omega))
  rw [ev] at HF0
  rw [eu] at HF1
  rw [em] at HF2
  have HY0 := Lib.hid hz
  have HY1 := Lib.hid hy
  have HY2 := Lib.hid hx
  subst h0
  have HMUL := Lib.hid (fun W => mod_exp_zero v u W)
  have hz0 : natEq 0 0 = true := by rw [natEq_iff hm hm]; rfl
  clear hz hy hx ev eu em hv hu hm
  obtain ⟨r, hr⟩ : ∃ r : Nat, r = 0 := ⟨_, rfl⟩
  rw [← hr] at hz0
  obtain ⟨n, hn⟩ : ∃ n, zs.length = n := ⟨_, rfl⟩
  obtain ⟨n', hn'⟩ : ∃ n', ys.length = n' := ⟨_, rfl⟩
  obtain ⟨n2, hn2⟩ : ∃ n2, xs.length = n2 := ⟨_, rfl⟩
  rw [hn] at HY0 HM0 HF0 h1 ⊢
  rw [hn'] at HY1 HM1 HF1 h2 ⊢
  rw [hn2] at HY2 HM2 HF2 h3 ⊢
  rw [hn] at k1
  rw [hn2] at k2
  rw [hn'] at k3
  clear hn hn' hn2
  have f0 : decide ((128 : Int) < ((n : Nat) : Int)) = false := by simp; omega
  have f1 : decide ((24 : Int) < ((n' : Nat) : Int)) = false := by simp; omega
  have f2 : decide ((128 : Int) < ((n2 : Nat) : Int)) = false := by simp; omega
  have f3 : decide ((24 : Int) < ((n : Nat) : Int)) = false := by simp; omega
  have f4 : decide ((24 : Int) < ((n2 : Nat) : Int)) = true := by simp; omega
  have f5 : decide ((2 : Int) < ((n' : Nat) : Int)) = false := by simp; omega
  go_enter Try.func5, Try.ntmps5
  go_wp2_with fail
  refine (HM0.out _ HY0.out).mono ?_
  rintro e w1 ⟨rfl, hb⟩
  have HB1 := Lib.hid hb
  clear hb
  go_wp2_with fail
  refine (HM1.out _ (HY1.out.kept HB1.out)).mono ?_
  rintro e w2 ⟨rfl, hb⟩
  have HB2 := Lib.hid (HB1.out.trans (hb.mono HB1.out.size))
  clear hb
  go_wp2_with fail
  refine (HM2.out _ (HY2.out.kept HB2.out)).mono ?_
  rintro e w3 ⟨rfl, hb⟩
  have HB3 := Lib.hid (HB2.out.trans (hb.mono HB2.out.size))
  clear hb HB1 HB2
  go_wp2_with fail
  refine (HMUL.out _).mono ?_
  rintro e w4 ⟨rfl, hb⟩
  have HB4 := Lib.hid (HB3.out.trans (hb.mono HB3.out.size))
  clear hb HB3
  go_wp2_with fail
  refine (HF2.out _ (HY2.out.kept (HB4.out.trans ((bel_st0 w4 0).mono HB4.out.size)))).mono ?_
  rintro e w5 ⟨tm, rfl, ht, hb⟩
  obtain ⟨hR, hk, hBel⟩ := stored hb
  have HT5 := Lib.hid ht
  have HB5 := Lib.hid (HB4.out.trans (hBel.mono HB4.out.size))
  have lR := rowN_lt hR
  clear ht hb hk hBel HB4
  generalize w4.heap.size = b7 at *
  obtain ⟨ta, tc, rfl⟩ := refN_nil HT5.out
  go_wp2_with fail
  refine (isZero_any 0 _).mono ?_
  rintro e w6 ⟨rfl, hb⟩
  have HB6 := Lib.hid (HB5.out.trans (hb.mono HB5.out.size))
  rw [hr] at hz0
  rw [hz0]
  clear hb
  go_wp2_with fail
  refine (known_any _).mono ?_
  rintro e wK ⟨rfl, hb⟩
  have HBK := Lib.hid (HB6.out.trans (hb.mono HB6.out.size))
  clear hb
  go_wp2_with fail
  go_ret
  exact ⟨rfl, HBK.out⟩

set_option maxRecDepth 100000 in
set_option maxHeartbeats 1000000 in
theorem mpow_posC (zs ys xs : List Nat) (a a' a2 : Option Addr) (c c' c2 : Nat) (w : World) (hz : BytesAt zs (.slice a zs.length c) w) (hy : BytesAt ys (.slice a' ys.length c') w) (hx : BytesAt xs (.slice a2 xs.length c2) w) (h1 : zs.length ≤ 128) (h2 : ys.length ≤ 24) (h3 : xs.length ≤ 128)
    (v u m : Nat) (ev : valBE 256 zs = v) (eu : valBE 256 ys = u) (em : valBE 256 xs = m) (k1 : zs.length ≤ 24) (k2 : 24 < xs.length) (k3 : ys.length ≤ 2) (h0 : 0 < m) :
    Calls Try.prog 5 #[.slice a zs.length c, .slice a' ys.length c', .slice a2 xs.length c2] w fun e w' => e = .returned (.bool true) ∧ Below w.heap.size w w' := by
  have hv : v < P64 ^ 16 := by rw [← ev]; exact short_fits0 hz.1 h1
  have hu : u < P64 ^ 16 := by rw [← eu]; exact short_fits0 hy.1 (by omega)
  have hm : m < P64 ^ 16 := by rw [← em]; exact short_fits0 hx.1 h3
  have HM0 := Lib.hid (fun W hW => made_any zs (.slice a zs.length c) W hW (by omega))
  have HM1 := Lib.hid (fun W hW => made_any ys (.slice a' ys.length c') W hW (by omega))
  have HM2 := Lib.hid (fun W hW => made_any xs (.slice a2 xs.length c2) W hW (by omega))
  rw [fb_val (by rw [ev]; exact hv), ev] at HM0
  rw [fb_val (by rw [eu]; exact hu), eu] at HM1
  rw [fb_val (by rw [em]; exact hm), em] at HM2
  have HF0 := Lib.hid (fun W hW => from_any zs (.slice a zs.length c) W hW (by omega))
  have HF1 := Lib.hid (fun W hW => from_any ys (.slice a' ys.length c') W hW (by omega))
  have HF2 := Lib.hid (fun W hW => from_any xs (.slice a2 xs.length c2) W hW (by omega))
  rw [ev] at HF0
  rw [eu] at HF1
  rw [em] at HF2
  have HY0 := Lib.hid hz
  have HY1 := Lib.hid hy
  have HY2 := Lib.hid hx
  have HMUL := Lib.hid (fun W => (by have h := mod_exp_pos m v u hm h0 hv hu W; rw [pm_eq] at h; exact h : Calls Try.prog 23 #[.agg (natA v), .agg (natA u), .agg (natA m)] W fun e w' => e = .returned (.tuple #[.agg (natA (v ^ u % m)), .int .i64 0]) ∧ Below W.heap.size W w'))
  have HRM := Lib.hid (fun s t z W (hs : RefN v s W) (ht : RefN u t W) (hz : RefN m z W) => rmexp_any v u m s t z W hs ht hz hv hu hm h0)
  have hrm : v ^ u % m < P64 ^ 16 := Nat.lt_trans (Nat.mod_lt _ h0) hm
  have HSA := Lib.hid (fun s W (hs : RefN (v ^ u % m) s W) => same_eq (v ^ u % m) hrm s W hs)
  have H0 := Lib.hid h0
  clear hz hy hx ev eu em hv hu hm h0 hrm
  generalize v ^ u % m = r at *
  obtain ⟨n, hn⟩ : ∃ n, zs.length = n := ⟨_, rfl⟩
  obtain ⟨n', hn'⟩ : ∃ n', ys.length = n' := ⟨_, rfl⟩
  obtain ⟨n2, hn2⟩ : ∃ n2, xs.length = n2 := ⟨_, rfl⟩
  rw [hn] at HY0 HM0 HF0 h1 ⊢
  rw [hn'] at HY1 HM1 HF1 h2 ⊢
  rw [hn2] at HY2 HM2 HF2 h3 ⊢
  rw [hn] at k1
  rw [hn2] at k2
  rw [hn'] at k3
  clear hn hn' hn2
  have f0 : decide ((128 : Int) < ((n : Nat) : Int)) = false := by simp; omega
  have f1 : decide ((24 : Int) < ((n' : Nat) : Int)) = false := by simp; omega
  have f2 : decide ((128 : Int) < ((n2 : Nat) : Int)) = false := by simp; omega
  have f3 : decide ((24 : Int) < ((n : Nat) : Int)) = false := by simp; omega
  have f4 : decide ((24 : Int) < ((n2 : Nat) : Int)) = true := by simp; omega
  have f5 : decide ((2 : Int) < ((n' : Nat) : Int)) = false := by simp; omega
  go_enter Try.func5, Try.ntmps5
  go_wp2_with fail
  refine (HM0.out _ HY0.out).mono ?_
  rintro e w1 ⟨rfl, hb⟩
  have HB1 := Lib.hid hb
  clear hb
  go_wp2_with fail
  refine (HM1.out _ (HY1.out.kept HB1.out)).mono ?_
  rintro e w2 ⟨rfl, hb⟩
  have HB2 := Lib.hid (HB1.out.trans (hb.mono HB1.out.size))
  clear hb
  go_wp2_with fail
  refine (HM2.out _ (HY2.out.kept HB2.out)).mono ?_
  rintro e w3 ⟨rfl, hb⟩
  have HB3 := Lib.hid (HB2.out.trans (hb.mono HB2.out.size))
  clear hb HB1 HB2
  go_wp2_with fail
  refine (HMUL.out _).mono ?_
  rintro e w4 ⟨rfl, hb⟩
  have HB4 := Lib.hid (HB3.out.trans (hb.mono HB3.out.size))
  clear hb HB3
  go_wp2_with fail
  refine (HF2.out _ (HY2.out.kept (HB4.out.trans ((bel_st0 w4 r).mono HB4.out.size)))).mono ?_
  rintro e w5 ⟨tm, rfl, ht, hb⟩
  obtain ⟨hR, hk, hBel⟩ := stored hb
  have HT5 := Lib.hid ht
  have HB5 := Lib.hid (HB4.out.trans (hBel.mono HB4.out.size))
  have lR := rowN_lt hR
  clear ht hb hk hBel HB4
  generalize w4.heap.size = b7 at *
  obtain ⟨ta, tc, L, hL, rfl⟩ := refN_pos H0.out HT5.out
  go_wp2_with fail
  have d7 : rowN w5.drew b7 = some (natA r) := by rw [rowN_drew]; exact hR
  have HDT := Lib.hid (HT5.out.kept (Below.refl _ w5).drew)
  have HD := Lib.hid HB5.out.drew
  clear hR HB5 HT5
  go_region_held3 (fun W => rowN W b7 = some (natA r)) (first | exact d7) (first
    | (go_at_call_of 15 (Value.slice a n c); refine (HF0.out _ (HY0.out.kept HD.out)).mono ?_; rintro e x1 ⟨t0, rfl, ht0, hb⟩; have HT0 := Lib.hid ht0; replace HDT := Lib.hid (HDT.out.kept hb); replace d7 := kept hb _ _ d7; replace HD := Lib.hid (HD.out.trans (hb.mono HD.out.size)); clear hb ht0)
    | (go_at_call_of 15 (Value.slice a' n' c'); refine (HF1.out _ (HY1.out.kept HD.out)).mono ?_; rintro e x2 ⟨t1, rfl, ht1, hb⟩; have HT1 := Lib.hid ht1; replace HT0 := Lib.hid (DigN.kept HT0.out hb); replace HDT := Lib.hid (HDT.out.kept hb); replace d7 := kept hb _ _ d7; replace HD := Lib.hid (HD.out.trans (hb.mono HD.out.size)); clear hb ht1)
    | (go_at_call 24; refine (HRM.out _ _ _ _ HT0.out HT1.out HDT.out).mono ?_; rintro e x3 ⟨t2, rfl, ht2, hb⟩; have HT2 := Lib.hid ht2; replace d7 := kept hb _ _ d7; replace HD := Lib.hid (HD.out.trans (hb.mono HD.out.size)); clear hb ht2)
    | (go_at_call 17; refine (HSA.out _ _ HT2.out).mono ?_; rintro e x4 ⟨rfl, hb⟩; replace d7 := kept hb _ _ d7; replace HD := Lib.hid (HD.out.trans (hb.mono HD.out.size)); clear hb)
    | (go_at_call 10; refine (known_any _).mono ?_; rintro e x5 ⟨rfl, hb⟩; replace d7 := kept hb _ _ d7; replace HD := Lib.hid (HD.out.trans (hb.mono HD.out.size)); clear hb))
  all_goals
    go_wp2_with fail
    go_ret
    exact ⟨rfl, HD.out⟩

theorem mpow_all (zs ys xs : List Nat) (a a' a2 : Option Addr) (c c' c2 : Nat) (w : World) (hz : BytesAt zs (.slice a zs.length c) w) (hy : BytesAt ys (.slice a' ys.length c') w) (hx : BytesAt xs (.slice a2 xs.length c2) w) :
    Calls Try.prog 5 #[.slice a zs.length c, .slice a' ys.length c', .slice a2 xs.length c2] w fun e w' => e = .returned (.bool true) ∧ Below w.heap.size w w' := by
  by_cases g1 : 128 < zs.length
  · exact mpow_long1 _ _ _ a a' a2 c c' c2 w g1
  by_cases g2 : 24 < ys.length
  · exact mpow_long2 _ _ _ a a' a2 c c' c2 w (by omega) g2
  by_cases g3 : 128 < xs.length
  · exact mpow_long3 _ _ _ a a' a2 c c' c2 w (by omega) (by omega) g3
  by_cases g4 : 24 < zs.length
  · by_cases g5 : 2 < ys.length
    · exact mpow_long4 _ _ _ a a' a2 c c' c2 w (by omega) (by omega) (by omega) g4 g5
    · by_cases h0 : valBE 256 xs = 0
      · exact mpow_zeroB zs ys xs a a' a2 c c' c2 w hz hy hx (by omega) (by omega) (by omega) _ _ _ rfl rfl rfl g4 (by omega) h0
      · exact mpow_posB zs ys xs a a' a2 c c' c2 w hz hy hx (by omega) (by omega) (by omega) _ _ _ rfl rfl rfl g4 (by omega) (by omega)
  by_cases g6 : 24 < xs.length
  · by_cases g5 : 2 < ys.length
    · exact mpow_long5 _ _ _ a a' a2 c c' c2 w (by omega) (by omega) (by omega) g6 g5
    · by_cases h0 : valBE 256 xs = 0
      · exact mpow_zeroC zs ys xs a a' a2 c c' c2 w hz hy hx (by omega) (by omega) (by omega) _ _ _ rfl rfl rfl (by omega) g6 (by omega) h0
      · exact mpow_posC zs ys xs a a' a2 c c' c2 w hz hy hx (by omega) (by omega) (by omega) _ _ _ rfl rfl rfl (by omega) g6 (by omega) (by omega)
  by_cases h0 : valBE 256 xs = 0
  · exact mpow_zeroA zs ys xs a a' a2 c c' c2 w hz hy hx (by omega) (by omega) (by omega) _ _ _ rfl rfl rfl (by omega) (by omega) h0
  · exact mpow_posA zs ys xs a a' a2 c c' c2 w hz hy hx (by omega) (by omega) (by omega) _ _ _ rfl rfl rfl (by omega) (by omega) (by omega)
end Go.Proofs.Ytlmfiggmjpjpiaa
