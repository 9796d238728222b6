/- ModularInverses, walked. -/
import Derived.Test.YtlmfiggmjpjpiaaCH
namespace Go.Proofs.Ytlmfiggmjpjpiaa
open Go.RowKit

set_option maxRecDepth 100000 in
theorem minv_long (n n2 : Nat) (a a2 : Option Addr) (c c2 : Nat) (w : World) (h : 24 < n ∨ 24 < n2) :
    Calls Try.prog 6 #[.slice a n c, .slice a2 n2 c2] w fun e w' => e = .returned (.bool true) ∧ Below w.heap.size w w' := by
  by_cases h1 : 24 < n
  · clear h
    go_enter Try.func6, Try.ntmps6
    go_wp2_with fail
    refine (known_any _).mono ?_
    rintro e wK ⟨rfl, hb⟩
    have HBK := Lib.hid hb
    clear hb
    go_wp2_with fail
    go_ret
    exact ⟨rfl, HBK.out⟩
  · have h2 : 24 < n2 := by omega
    clear h
    go_enter Try.func6, Try.ntmps6
    go_wp2_with fail
    refine (known_any _).mono ?_
    rintro e wK ⟨rfl, hb⟩
    have HBK := Lib.hid hb
    clear hb
    go_wp2_with fail
    go_ret
    exact ⟨rfl, HBK.out⟩

set_option maxRecDepth 100000 in
set_option maxHeartbeats 1000000 in
theorem minv_zero (zs xs : List Nat) (a a2 : Option Addr) (c c2 : Nat) (w : World) (hz : BytesAt zs (.slice a zs.length c) w) (hx : BytesAt xs (.slice a2 xs.length c2) w) (h1 : zs.length ≤ 24) (h3 : xs.length ≤ 24)
    (v m : Nat) (ev : valBE 256 zs = v) (em : valBE 256 xs = m) (h0 : m = 0) :
    Calls Try.prog 6 #[.slice a zs.length c, .slice a2 xs.length c2] w fun e w' => e = .returned (.bool true) ∧ Below w.heap.size w w' := by
  have hv : v < P64 ^ 16 := by rw [← ev]; exact short_fits0 hz.1 (by omega)
  have hm : m < P64 ^ 16 := by rw [← em]; exact short_fits0 hx.1 (by omega)
  have HM0 := Lib.hid (fun W hW => made_any zs (.slice a zs.length c) W hW (by omega))
  have HM2 := Lib.hid (fun W hW => made_any xs (.slice a2 xs.length c2) W hW (by omega))
  rw [fb_val (by rw [ev]; exact hv), ev] at HM0
  rw [fb_val (by rw [em]; exact hm), em] at HM2
  have HF0 := Lib.hid (fun W hW => from_any zs (.slice a zs.length c) W hW (by omega))
  have HF2 := Lib.hid (fun W hW => from_any xs (.slice a2 xs.length c2) W hW (by omega))
  rw [ev] at HF0
  rw [em] at HF2
  have HY0 := Lib.hid hz
  have HY2 := Lib.hid hx
  subst h0
  have HINV := Lib.hid (fun W => mod_inv_zero v W)
  have hz0 : natEq 0 0 = true := by rw [natEq_iff hm hm]; rfl
  clear hz hx ev em hv hm
  obtain ⟨n, hn⟩ : ∃ n, zs.length = n := ⟨_, rfl⟩
  obtain ⟨n2, hn2⟩ : ∃ n2, xs.length = n2 := ⟨_, rfl⟩
  rw [hn] at HY0 HM0 HF0 h1 ⊢
  rw [hn2] at HY2 HM2 HF2 h3 ⊢
  clear hn hn2
  go_enter Try.func6, Try.ntmps6
  go_wp2_with fail
  refine (HM0.out _ HY0.out).mono ?_
  rintro e w1 ⟨rfl, hb⟩
  have HB1 := Lib.hid hb
  clear hb
  go_wp2_with fail
  refine (HM2.out _ (HY2.out.kept HB1.out)).mono ?_
  rintro e w3 ⟨rfl, hb⟩
  have HB3 := Lib.hid (HB1.out.trans (hb.mono HB1.out.size))
  clear hb HB1
  go_wp2_with fail
  refine (HINV.out _).mono ?_
  rintro e w4 ⟨rfl, hb⟩
  have HB4 := Lib.hid (HB3.out.trans (hb.mono HB3.out.size))
  clear hb HB3
  go_wp2_with fail
  refine (HF2.out _ (HY2.out.kept (HB4.out.trans ((bel_st0 w4 0).mono HB4.out.size)))).mono ?_
  rintro e w5 ⟨tm, rfl, ht, hb⟩
  obtain ⟨hR, hk, hBel⟩ := stored hb
  have HT5 := Lib.hid ht
  have HB5 := Lib.hid (HB4.out.trans (hBel.mono HB4.out.size))
  have lR := rowN_lt hR
  clear ht hb hk hBel HB4
  generalize w4.heap.size = b7 at *
  obtain ⟨ta, tc, rfl⟩ := refN_nil HT5.out
  go_wp2_with fail
  refine (isZero_any 0 _).mono ?_
  rintro e w6 ⟨rfl, hb⟩
  have HB8 := Lib.hid (HB5.out.trans (hb.mono HB5.out.size))
  rw [hz0]
  clear hb
  go_wp2_with fail
  refine (known_any _).mono ?_
  rintro e wK ⟨rfl, hb⟩
  have HBK := Lib.hid (HB8.out.trans (hb.mono HB8.out.size))
  clear hb
  go_wp2_with fail
  go_ret
  exact ⟨rfl, HBK.out⟩

set_option maxRecDepth 100000 in
set_option maxHeartbeats 1000000 in
theorem minv_none (zs xs : List Nat) (a a2 : Option Addr) (c c2 : Nat) (w : World) (hz : BytesAt zs (.slice a zs.length c) w) (hx : BytesAt xs (.slice a2 xs.length c2) w) (h1 : zs.length ≤ 24) (h3 : xs.length ≤ 24)
    (v m : Nat) (ev : valBE 256 zs = v) (em : valBE 256 xs = m) (h0 : 0 < m) (hg : Nat.gcd m v ≠ 1) :
    Calls Try.prog 6 #[.slice a zs.length c, .slice a2 xs.length c2] w fun e w' => e = .returned (.bool true) ∧ Below w.heap.size w w' := by
  have hv : v < P64 ^ 16 := by rw [← ev]; exact short_fits0 hz.1 (by omega)
  have hm : m < P64 ^ 16 := by rw [← em]; exact short_fits0 hx.1 (by omega)
  have HM0 := Lib.hid (fun W hW => made_any zs (.slice a zs.length c) W hW (by omega))
  have HM2 := Lib.hid (fun W hW => made_any xs (.slice a2 xs.length c2) W hW (by omega))
  rw [fb_val (by rw [ev]; exact hv), ev] at HM0
  rw [fb_val (by rw [em]; exact hm), em] at HM2
  have HF0 := Lib.hid (fun W hW => from_any zs (.slice a zs.length c) W hW (by omega))
  have HF2 := Lib.hid (fun W hW => from_any xs (.slice a2 xs.length c2) W hW (by omega))
  rw [ev] at HF0
  rw [em] at HF2
  have HY0 := Lib.hid hz
  have HY2 := Lib.hid hx
  have HINV := Lib.hid (fun W => mod_inv_no m v hm h0 hv hg W)
  have hz0 : natEq 0 0 = true := by rw [natEq_iff (Nat.pow_pos P64_pos) (Nat.pow_pos P64_pos)]; rfl
  have HRI := Lib.hid (fun s z W (hs : RefN v s W) (hz : RefN m z W) => rminv_any m v s z W hs hz hv hm h0)
  have H0 := Lib.hid h0
  have HG := Lib.hid hg
  clear hz hx ev em hv hm h0 hg
  obtain ⟨n, hn⟩ : ∃ n, zs.length = n := ⟨_, rfl⟩
  obtain ⟨n2, hn2⟩ : ∃ n2, xs.length = n2 := ⟨_, rfl⟩
  rw [hn] at HY0 HM0 HF0 h1 ⊢
  rw [hn2] at HY2 HM2 HF2 h3 ⊢
  clear hn hn2
  go_enter Try.func6, Try.ntmps6
  go_wp2_with fail
  refine (HM0.out _ HY0.out).mono ?_
  rintro e w1 ⟨rfl, hb⟩
  have HB1 := Lib.hid hb
  clear hb
  go_wp2_with fail
  refine (HM2.out _ (HY2.out.kept HB1.out)).mono ?_
  rintro e w3 ⟨rfl, hb⟩
  have HB3 := Lib.hid (HB1.out.trans (hb.mono HB1.out.size))
  clear hb HB1
  go_wp2_with fail
  refine (HINV.out _).mono ?_
  rintro e w4 ⟨rfl, hb⟩
  have HB4 := Lib.hid (HB3.out.trans (hb.mono HB3.out.size))
  clear hb HB3
  go_wp2_with fail
  refine (HF2.out _ (HY2.out.kept (HB4.out.trans ((bel_st0 w4 0).mono HB4.out.size)))).mono ?_
  rintro e w5 ⟨tm, rfl, ht, hb⟩
  obtain ⟨hR, hk, hBel⟩ := stored hb
  have HT5 := Lib.hid ht
  have HB5 := Lib.hid (HB4.out.trans (hBel.mono HB4.out.size))
  have lR := rowN_lt hR
  clear ht hb hk hBel HB4
  generalize w4.heap.size = b7 at *
  obtain ⟨ta, tc, L, hL, rfl⟩ := refN_pos H0.out HT5.out
  go_wp2_with fail
  refine (HF0.out _ (HY0.out.kept HB5.out)).mono ?_
  rintro e w6 ⟨t0, rfl, ht, hb⟩
  have hR6 := kept hb _ _ hR
  have lR6 := rowN_lt hR6
  have HT0 := Lib.hid ht
  have HTm := Lib.hid (HT5.out.kept hb)
  have HB6 := Lib.hid (HB5.out.trans (hb.mono HB5.out.size))
  clear ht hb hR lR HB5 HT5
  go_wp2_with fail
  refine (HRI.out _ _ _ HT0.out HTm.out).mono ?_
  rintro e w7 ⟨⟨hg1, _⟩ | ⟨_, rfl⟩, hb⟩
  · exact absurd hg1 HG.out
  have hR7 := kept hb _ _ hR6
  have lR7 := rowN_lt hR7
  have HB7 := Lib.hid (HB6.out.trans (hb.mono HB6.out.size))
  clear hb hR6 lR6 HB6
  go_wp2_with fail
  refine (isZero_any 0 _).mono ?_
  rintro e w8 ⟨rfl, hb⟩
  have HB8 := Lib.hid (HB7.out.trans (hb.mono HB7.out.size))
  rw [hz0]
  clear hb
  go_wp2_with fail
  refine (known_any _).mono ?_
  rintro e wK ⟨rfl, hb⟩
  have HBK := Lib.hid (HB8.out.trans (hb.mono HB8.out.size))
  clear hb
  go_wp2_with fail
  go_ret
  exact ⟨rfl, HBK.out⟩

set_option maxRecDepth 100000 in
set_option maxHeartbeats 1000000 in
theorem minv_one (zs xs : List Nat) (a a2 : Option Addr) (c c2 : Nat) (w : World) (hz : BytesAt zs (.slice a zs.length c) w) (hx : BytesAt xs (.slice a2 xs.length c2) w) (h1 : zs.length ≤ 24) (h3 : xs.length ≤ 24)
    (v m : Nat) (ev : valBE 256 zs = v) (em : valBE 256 xs = m) (h0 : 0 < m) (r : Nat) (hr : r < m) (hrm : r * v % m = 1 % m) :
    Calls Try.prog 6 #[.slice a zs.length c, .slice a2 xs.length c2] w fun e w' => e = .returned (.bool true) ∧ Below w.heap.size w w' := by
  have hv : v < P64 ^ 16 := by rw [← ev]; exact short_fits0 hz.1 (by omega)
  have hm : m < P64 ^ 16 := by rw [← em]; exact short_fits0 hx.1 (by omega)
  have HM0 := Lib.hid (fun W hW => made_any zs (.slice a zs.length c) W hW (by omega))
  have HM2 := Lib.hid (fun W hW => made_any xs (.slice a2 xs.length c2) W hW (by omega))
  rw [fb_val (by rw [ev]; exact hv), ev] at HM0
  rw [fb_val (by rw [em]; exact hm), em] at HM2
  have HF0 := Lib.hid (fun W hW => from_any zs (.slice a zs.length c) W hW (by omega))
  have HF2 := Lib.hid (fun W hW => from_any xs (.slice a2 xs.length c2) W hW (by omega))
  rw [ev] at HF0
  rw [em] at HF2
  have HY0 := Lib.hid hz
  have HY2 := Lib.hid hx
  have HINV := Lib.hid (fun W => mod_inv_is m v r hm hv hr hrm W)
  have HRI := Lib.hid (fun s z W (hs : RefN v s W) (hz : RefN m z W) => rminv_any m v s z W hs hz hv hm h0)
  have H0 := Lib.hid h0
  have HG := Lib.hid (inv_gcd hrm)
  have HU := Lib.hid (fun x (h1 : x < m) (h2 : x * v % m = 1 % m) => inv_one h1 hr h2 hrm)
  have HSA := Lib.hid (fun s W (hs : RefN r s W) => same_eq r (Nat.lt_trans hr hm) s W hs)
  clear hz hx ev em hv hm h0 hr hrm
  obtain ⟨n, hn⟩ : ∃ n, zs.length = n := ⟨_, rfl⟩
  obtain ⟨n2, hn2⟩ : ∃ n2, xs.length = n2 := ⟨_, rfl⟩
  rw [hn] at HY0 HM0 HF0 h1 ⊢
  rw [hn2] at HY2 HM2 HF2 h3 ⊢
  clear hn hn2
  go_enter Try.func6, Try.ntmps6
  go_wp2_with fail
  refine (HM0.out _ HY0.out).mono ?_
  rintro e w1 ⟨rfl, hb⟩
  have HB1 := Lib.hid hb
  clear hb
  go_wp2_with fail
  refine (HM2.out _ (HY2.out.kept HB1.out)).mono ?_
  rintro e w3 ⟨rfl, hb⟩
  have HB3 := Lib.hid (HB1.out.trans (hb.mono HB1.out.size))
  clear hb HB1
  go_wp2_with fail
  refine (HINV.out _).mono ?_
  rintro e w4 ⟨rfl, hb⟩
  have HB4 := Lib.hid (HB3.out.trans (hb.mono HB3.out.size))
  clear hb HB3
  go_wp2_with fail
  refine (HF2.out _ (HY2.out.kept (HB4.out.trans ((bel_st0 w4 r).mono HB4.out.size)))).mono ?_
  rintro e w5 ⟨tm, rfl, ht, hb⟩
  obtain ⟨hR, hk, hBel⟩ := stored hb
  have HT5 := Lib.hid ht
  have HB5 := Lib.hid (HB4.out.trans (hBel.mono HB4.out.size))
  have lR := rowN_lt hR
  clear ht hb hk hBel HB4
  generalize w4.heap.size = b7 at *
  obtain ⟨ta, tc, L, hL, rfl⟩ := refN_pos H0.out HT5.out
  go_wp2_with fail
  refine (HF0.out _ (HY0.out.kept HB5.out)).mono ?_
  rintro e w6 ⟨t0, rfl, ht, hb⟩
  have hR6 := kept hb _ _ hR
  have lR6 := rowN_lt hR6
  have HT0 := Lib.hid ht
  have HTm := Lib.hid (HT5.out.kept hb)
  have HB6 := Lib.hid (HB5.out.trans (hb.mono HB5.out.size))
  clear ht hb hR lR HB5 HT5
  go_wp2_with fail
  refine (HRI.out _ _ _ HT0.out HTm.out).mono ?_
  rintro e w7 ⟨hcase, hb⟩
  obtain ⟨_, z, x, rfl, hxz, hx1, hx2⟩ := hcase.resolve_right (fun h => h.1 HG.out)
  have hxr := HU.out x hx1 hx2
  subst hxr
  have HZ := Lib.hid hxz
  have hR7 := kept hb _ _ hR6
  have lR7 := rowN_lt hR7
  have HB7 := Lib.hid (HB6.out.trans (hb.mono HB6.out.size))
  clear hb hR6 lR6 HB6 hxz hx1 hx2
  go_wp2_with fail
  refine (HSA.out _ _ HZ.out).mono ?_
  rintro e w8 ⟨rfl, hb⟩
  have HB8 := Lib.hid (HB7.out.trans (hb.mono HB7.out.size))
  clear hb
  go_wp2_with fail
  refine (known_any _).mono ?_
  rintro e wK ⟨rfl, hb⟩
  have HBK := Lib.hid (HB8.out.trans (hb.mono HB8.out.size))
  clear hb
  go_wp2_with fail
  go_ret
  exact ⟨rfl, HBK.out⟩

theorem minv_all (zs xs : List Nat) (a a2 : Option Addr) (c c2 : Nat) (w : World) (hz : BytesAt zs (.slice a zs.length c) w) (hx : BytesAt xs (.slice a2 xs.length c2) w) :
    Calls Try.prog 6 #[.slice a zs.length c, .slice a2 xs.length c2] w fun e w' => e = .returned (.bool true) ∧ Below w.heap.size w w' := by
  by_cases h : 24 < zs.length ∨ 24 < xs.length
  · exact minv_long _ _ a a2 c c2 w h
  by_cases h0 : valBE 256 xs = 0
  · exact minv_zero zs xs a a2 c c2 w hz hx (by omega) (by omega) _ _ rfl rfl h0
  by_cases hg : Nat.gcd (valBE 256 xs) (valBE 256 zs) = 1
  · obtain ⟨r, hr, hrm⟩ := inv_ex (Nat.mod_lt (valBE 256 zs) (Nat.pos_of_ne_zero h0)) (by rw [Nat.gcd_comm, ← Nat.gcd_rec]; exact hg : Nat.gcd (valBE 256 xs) (valBE 256 zs % valBE 256 xs) = 1)
    rw [Nat.mul_mod_mod] at hrm
    exact minv_one zs xs a a2 c c2 w hz hx (by omega) (by omega) _ _ rfl rfl (Nat.pos_of_ne_zero h0) r hr hrm
  · exact minv_none zs xs a a2 c c2 w hz hx (by omega) (by omega) _ _ rfl rfl (Nat.pos_of_ne_zero h0) hg
end Go.Proofs.Ytlmfiggmjpjpiaa
