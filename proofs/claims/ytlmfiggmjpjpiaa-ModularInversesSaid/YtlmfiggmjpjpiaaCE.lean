/- ModularProducts, walked. -/
import Derived.Test.YtlmfiggmjpjpiaaCD
import Derived.Test.YtlmfiggmjpjpiaaT0
namespace Go.Proofs.Ytlmfiggmjpjpiaa
open Go.RowKit

theorem fb_val {zs : List Nat} (h : valBE 256 zs < P64 ^ 16) : fbV zs = valBE 256 zs := (info_fb_fits h).1
theorem refN_nil {t : Value} {W : World} (h : RefN 0 t W) : ∃ a c, t = .slice a (0 : Nat) c := by
  obtain ⟨_, a, c, e, _⟩ := h
  exact ⟨a, c, e⟩
theorem refN_pos {v : Nat} {t : Value} {W : World} (h0 : 0 < v) (h : RefN v t W) : ∃ a c L, 0 < L ∧ t = .slice a (L : Nat) c := by
  obtain ⟨_, a, c, e, _⟩ := h
  exact ⟨a, c, dlen 65536 v, (dlen_le_of (by omega) (by omega)).1, e⟩
theorem sm16 {v : Nat} (h : v < P64 ^ 16) : Sm v := Nat.le_trans (dlen16 h) (by omega)
theorem sm16_mul {v u : Nat} (hv : v < P64 ^ 16) (hu : u < P64 ^ 16) : Sm (v * u) := by
  rw [p64_65536] at hv hu
  refine Nat.le_trans (dlen_le (n := 128) (by omega) ?_) (by omega)
  rw [show (128 : Nat) = 64 + 64 by omega, Nat.pow_add]
  exact Nat.mul_lt_mul'' hv hu

set_option maxRecDepth 100000 in
theorem mprods_long (n n' n2 : Nat) (a a' a2 : Option Addr) (c c' c2 : Nat) (w : World) (h : 128 < n ∨ 128 < n' ∨ 128 < n2) :
    Calls Try.prog 4 #[.slice a n c, .slice a' n' c', .slice a2 n2 c2] w fun e w' => e = .returned (.bool true) ∧ Below w.heap.size w w' := by
  by_cases h1 : 128 < n
  · clear h
    go_enter Try.func4, Try.ntmps4
    go_wp2_with fail
    refine (known_any _).mono ?_
    rintro e wK ⟨rfl, hb⟩
    have HBK := Lib.hid hb
    clear hb
    go_wp2_with fail
    go_ret
    exact ⟨rfl, HBK.out⟩
  · by_cases h2 : 128 < n'
    · clear h
      go_enter Try.func4, Try.ntmps4
      go_wp2_with fail
      refine (known_any _).mono ?_
      rintro e wK ⟨rfl, hb⟩
      have HBK := Lib.hid hb
      clear hb
      go_wp2_with fail
      go_ret
      exact ⟨rfl, HBK.out⟩
    · have h3 : 128 < n2 := by omega
      clear h
      go_enter Try.func4, Try.ntmps4
      go_wp2_with fail
      refine (known_any _).mono ?_
      rintro e wK ⟨rfl, hb⟩
      have HBK := Lib.hid hb
      clear hb
      go_wp2_with fail
      go_ret
      exact ⟨rfl, HBK.out⟩

set_option maxRecDepth 100000 in
set_option maxHeartbeats 1000000 in
theorem mprods_zero (zs ys xs : List Nat) (a a' a2 : Option Addr) (c c' c2 : Nat) (w : World) (hz : BytesAt zs (.slice a zs.length c) w) (hy : BytesAt ys (.slice a' ys.length c') w) (hx : BytesAt xs (.slice a2 xs.length c2) w) (h1 : zs.length ≤ 128) (h2 : ys.length ≤ 128) (h3 : xs.length ≤ 128)
    (v u m : Nat) (ev : valBE 256 zs = v) (eu : valBE 256 ys = u) (em : valBE 256 xs = m) (h0 : m = 0) :
    Calls Try.prog 4 #[.slice a zs.length c, .slice a' ys.length c', .slice a2 xs.length c2] w fun e w' => e = .returned (.bool true) ∧ Below w.heap.size w w' := by
  have hv : v < P64 ^ 16 := by rw [← ev]; exact short_fits0 hz.1 h1
  have hu : u < P64 ^ 16 := by rw [← eu]; exact short_fits0 hy.1 h2
  have hm : m < P64 ^ 16 := by rw [← em]; exact short_fits0 hx.1 h3
  have HM0 := Lib.hid (fun W hW => made_any zs (.slice a zs.length c) W hW (by omega))
  have HM1 := Lib.hid (fun W hW => made_any ys (.slice a' ys.length c') W hW (by omega))
  have HM2 := Lib.hid (fun W hW => made_any xs (.slice a2 xs.length c2) W hW (by omega))
  rw [fb_val (by rw [ev]; exact hv), ev] at HM0
  rw [fb_val (by rw [eu]; exact hu), eu] at HM1
  rw [fb_val (by rw [em]; exact hm), em] at HM2
  have HF0 := Lib.hid (fun W hW => from_any zs (.slice a zs.length c) W hW (by omega))
  have HF1 := Lib.hid (fun W hW => from_any ys (.slice a' ys.length c') W hW (by omega))
  have HF2 := Lib.hid (fun W hW => from_any xs (.slice a2 xs.length c2) W hW (by omega))
  rw [ev] at HF0
  rw [eu] at HF1
  rw [em] at HF2
  have HY0 := Lib.hid hz
  have HY1 := Lib.hid hy
  have HY2 := Lib.hid hx
  subst h0
  have HMUL := Lib.hid (fun W => mod_mul_zero v u W)
  have hz0 : natEq 0 0 = true := by rw [natEq_iff hm hm]; rfl
  clear hz hy hx ev eu em hv hu hm
  obtain ⟨r, hr⟩ : ∃ r : Nat, r = 0 := ⟨_, rfl⟩
  rw [← hr] at hz0
  obtain ⟨n, hn⟩ : ∃ n, zs.length = n := ⟨_, rfl⟩
  obtain ⟨n', hn'⟩ : ∃ n', ys.length = n' := ⟨_, rfl⟩
  obtain ⟨n2, hn2⟩ : ∃ n2, xs.length = n2 := ⟨_, rfl⟩
  rw [hn] at HY0 HM0 HF0 h1 ⊢
  rw [hn'] at HY1 HM1 HF1 h2 ⊢
  rw [hn2] at HY2 HM2 HF2 h3 ⊢
  clear hn hn' hn2
  go_enter Try.func4, Try.ntmps4
  go_wp2_with fail
  refine (HM0.out _ HY0.out).mono ?_
  rintro e w1 ⟨rfl, hb⟩
  have HB1 := Lib.hid hb
  clear hb
  go_wp2_with fail
  refine (HM1.out _ (HY1.out.kept HB1.out)).mono ?_
  rintro e w2 ⟨rfl, hb⟩
  have HB2 := Lib.hid (HB1.out.trans (hb.mono HB1.out.size))
  clear hb
  go_wp2_with fail
  refine (HM2.out _ (HY2.out.kept HB2.out)).mono ?_
  rintro e w3 ⟨rfl, hb⟩
  have HB3 := Lib.hid (HB2.out.trans (hb.mono HB2.out.size))
  clear hb HB1 HB2
  go_wp2_with fail
  refine (HMUL.out _).mono ?_
  rintro e w4 ⟨rfl, hb⟩
  have HB4 := Lib.hid (HB3.out.trans (hb.mono HB3.out.size))
  clear hb HB3
  go_wp2_with fail
  refine (HF2.out _ (HY2.out.kept (HB4.out.trans ((bel_st0 w4 0).mono HB4.out.size)))).mono ?_
  rintro e w5 ⟨tm, rfl, ht, hb⟩
  obtain ⟨hR, hk, hBel⟩ := stored hb
  have HT5 := Lib.hid ht
  have HB5 := Lib.hid (HB4.out.trans (hBel.mono HB4.out.size))
  have lR := rowN_lt hR
  clear ht hb hk hBel HB4
  generalize w4.heap.size = b7 at *
  obtain ⟨ta, tc, rfl⟩ := refN_nil HT5.out
  go_wp2_with fail
  refine (isZero_any 0 _).mono ?_
  rintro e w6 ⟨rfl, hb⟩
  have HB6 := Lib.hid (HB5.out.trans (hb.mono HB5.out.size))
  rw [hr] at hz0
  rw [hz0]
  clear hb
  go_wp2_with fail
  refine (known_any _).mono ?_
  rintro e wK ⟨rfl, hb⟩
  have HBK := Lib.hid (HB6.out.trans (hb.mono HB6.out.size))
  clear hb
  go_wp2_with fail
  go_ret
  exact ⟨rfl, HBK.out⟩

set_option maxRecDepth 100000 in
set_option maxHeartbeats 1000000 in
theorem mprods_pos (zs ys xs : List Nat) (a a' a2 : Option Addr) (c c' c2 : Nat) (w : World) (hz : BytesAt zs (.slice a zs.length c) w) (hy : BytesAt ys (.slice a' ys.length c') w) (hx : BytesAt xs (.slice a2 xs.length c2) w) (h1 : zs.length ≤ 128) (h2 : ys.length ≤ 128) (h3 : xs.length ≤ 128)
    (v u m : Nat) (ev : valBE 256 zs = v) (eu : valBE 256 ys = u) (em : valBE 256 xs = m) (h0 : 0 < m) :
    Calls Try.prog 4 #[.slice a zs.length c, .slice a' ys.length c', .slice a2 xs.length c2] w fun e w' => e = .returned (.bool true) ∧ Below w.heap.size w w' := by
  have hv : v < P64 ^ 16 := by rw [← ev]; exact short_fits0 hz.1 h1
  have hu : u < P64 ^ 16 := by rw [← eu]; exact short_fits0 hy.1 h2
  have hm : m < P64 ^ 16 := by rw [← em]; exact short_fits0 hx.1 h3
  have HM0 := Lib.hid (fun W hW => made_any zs (.slice a zs.length c) W hW (by omega))
  have HM1 := Lib.hid (fun W hW => made_any ys (.slice a' ys.length c') W hW (by omega))
  have HM2 := Lib.hid (fun W hW => made_any xs (.slice a2 xs.length c2) W hW (by omega))
  rw [fb_val (by rw [ev]; exact hv), ev] at HM0
  rw [fb_val (by rw [eu]; exact hu), eu] at HM1
  rw [fb_val (by rw [em]; exact hm), em] at HM2
  have HF0 := Lib.hid (fun W hW => from_any zs (.slice a zs.length c) W hW (by omega))
  have HF1 := Lib.hid (fun W hW => from_any ys (.slice a' ys.length c') W hW (by omega))
  have HF2 := Lib.hid (fun W hW => from_any xs (.slice a2 xs.length c2) W hW (by omega))
  rw [ev] at HF0
  rw [eu] at HF1
  rw [em] at HF2
  have HY0 := Lib.hid hz
  have HY1 := Lib.hid hy
  have HY2 := Lib.hid hx
  have HMUL := Lib.hid (fun W => mod_mul_pos m v u (v * u % m) hm h0 hv hu (by rw [tm_mod, tm_eq]) W)
  have HRM := Lib.hid (fun s t z W (hs : RefN v s W) (ht : RefN u t W) (hz : RefN m z W) => rmmul_any v u m s t z W hs ht hz (sm16 hv) (sm16 hu) h0 (sm16 hm) (sm16_mul hv hu))
  have hrm : v * u % m < P64 ^ 16 := Nat.lt_trans (Nat.mod_lt _ h0) hm
  have HSA := Lib.hid (fun s W (hs : RefN (v * u % m) s W) => same_eq (v * u % m) hrm s W hs)
  have H0 := Lib.hid h0
  clear hz hy hx ev eu em hv hu hm h0 hrm
  generalize v * u % m = r at *
  obtain ⟨n, hn⟩ : ∃ n, zs.length = n := ⟨_, rfl⟩
  obtain ⟨n', hn'⟩ : ∃ n', ys.length = n' := ⟨_, rfl⟩
  obtain ⟨n2, hn2⟩ : ∃ n2, xs.length = n2 := ⟨_, rfl⟩
  rw [hn] at HY0 HM0 HF0 h1 ⊢
  rw [hn'] at HY1 HM1 HF1 h2 ⊢
  rw [hn2] at HY2 HM2 HF2 h3 ⊢
  clear hn hn' hn2
  go_enter Try.func4, Try.ntmps4
  go_wp2_with fail
  refine (HM0.out _ HY0.out).mono ?_
  rintro e w1 ⟨rfl, hb⟩
  have HB1 := Lib.hid hb
  clear hb
  go_wp2_with fail
  refine (HM1.out _ (HY1.out.kept HB1.out)).mono ?_
  rintro e w2 ⟨rfl, hb⟩
  have HB2 := Lib.hid (HB1.out.trans (hb.mono HB1.out.size))
  clear hb
  go_wp2_with fail
  refine (HM2.out _ (HY2.out.kept HB2.out)).mono ?_
  rintro e w3 ⟨rfl, hb⟩
  have HB3 := Lib.hid (HB2.out.trans (hb.mono HB2.out.size))
  clear hb HB1 HB2
  go_wp2_with fail
  refine (HMUL.out _).mono ?_
  rintro e w4 ⟨rfl, hb⟩
  have HB4 := Lib.hid (HB3.out.trans (hb.mono HB3.out.size))
  clear hb HB3
  go_wp2_with fail
  refine (HF2.out _ (HY2.out.kept (HB4.out.trans ((bel_st0 w4 r).mono HB4.out.size)))).mono ?_
  rintro e w5 ⟨tm, rfl, ht, hb⟩
  obtain ⟨hR, hk, hBel⟩ := stored hb
  have HT5 := Lib.hid ht
  have HB5 := Lib.hid (HB4.out.trans (hBel.mono HB4.out.size))
  have lR := rowN_lt hR
  clear ht hb hk hBel HB4
  generalize w4.heap.size = b7 at *
  obtain ⟨ta, tc, L, hL, rfl⟩ := refN_pos H0.out HT5.out
  go_wp2_with fail
  have d7 : rowN w5.drew b7 = some (natA r) := by rw [rowN_drew]; exact hR
  have HDT := Lib.hid (HT5.out.kept (Below.refl _ w5).drew)
  have HD := Lib.hid HB5.out.drew
  clear hR HB5 HT5
  go_region_held3 (fun W => rowN W b7 = some (natA r)) (first | exact d7) (first
    | (go_at_call_of 15 (Value.slice a n c); refine (HF0.out _ (HY0.out.kept HD.out)).mono ?_; rintro e x1 ⟨t0, rfl, ht0, hb⟩; have HT0 := Lib.hid ht0; replace HDT := Lib.hid (HDT.out.kept hb); replace d7 := kept hb _ _ d7; replace HD := Lib.hid (HD.out.trans (hb.mono HD.out.size)); clear hb ht0)
    | (go_at_call_of 15 (Value.slice a' n' c'); refine (HF1.out _ (HY1.out.kept HD.out)).mono ?_; rintro e x2 ⟨t1, rfl, ht1, hb⟩; have HT1 := Lib.hid ht1; replace HT0 := Lib.hid (DigN.kept HT0.out hb); replace HDT := Lib.hid (HDT.out.kept hb); replace d7 := kept hb _ _ d7; replace HD := Lib.hid (HD.out.trans (hb.mono HD.out.size)); clear hb ht1)
    | (go_at_call 22; refine (HRM.out _ _ _ _ HT0.out HT1.out HDT.out).mono ?_; rintro e x3 ⟨t2, rfl, ht2, hb⟩; have HT2 := Lib.hid ht2; replace d7 := kept hb _ _ d7; replace HD := Lib.hid (HD.out.trans (hb.mono HD.out.size)); clear hb ht2)
    | (go_at_call 17; refine (HSA.out _ _ HT2.out).mono ?_; rintro e x4 ⟨rfl, hb⟩; replace d7 := kept hb _ _ d7; replace HD := Lib.hid (HD.out.trans (hb.mono HD.out.size)); clear hb)
    | (go_at_call 10; refine (known_any _).mono ?_; rintro e x5 ⟨rfl, hb⟩; replace d7 := kept hb _ _ d7; replace HD := Lib.hid (HD.out.trans (hb.mono HD.out.size)); clear hb))
  all_goals
    go_wp2_with fail
    go_ret
    exact ⟨rfl, HD.out⟩

theorem mprods_all (zs ys xs : List Nat) (a a' a2 : Option Addr) (c c' c2 : Nat) (w : World) (hz : BytesAt zs (.slice a zs.length c) w) (hy : BytesAt ys (.slice a' ys.length c') w) (hx : BytesAt xs (.slice a2 xs.length c2) w) :
    Calls Try.prog 4 #[.slice a zs.length c, .slice a' ys.length c', .slice a2 xs.length c2] w fun e w' => e = .returned (.bool true) ∧ Below w.heap.size w w' := by
  by_cases h : 128 < zs.length ∨ 128 < ys.length ∨ 128 < xs.length
  · exact mprods_long _ _ _ a a' a2 c c' c2 w h
  · by_cases h0 : valBE 256 xs = 0
    · exact mprods_zero zs ys xs a a' a2 c c' c2 w hz hy hx (by omega) (by omega) (by omega) _ _ _ rfl rfl rfl h0
    · exact mprods_pos zs ys xs a a' a2 c c' c2 w hz hy hx (by omega) (by omega) (by omega) _ _ _ rfl rfl rfl (by omega)
end Go.Proofs.Ytlmfiggmjpjpiaa
