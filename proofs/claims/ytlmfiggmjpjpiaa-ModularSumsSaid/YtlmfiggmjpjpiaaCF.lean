/- ModularSums, walked. -/
import Derived.Test.YtlmfiggmjpjpiaaCE
namespace Go.Proofs.Ytlmfiggmjpjpiaa
open Go.RowKit

theorem stored3 {u w' : World} {x y z : Nat} (hb : Below (((((((u.alloc (.cells (natA 0) 28)).alloc (.cells (natA 0) 28)).alloc (.cells (natA 0) 28)).setRow u.heap.size (natA x)).setRow (u.heap.size + 1) (natA y)).setRow (u.heap.size + 1 + 1) (natA z))).heap.size (((((((u.alloc (.cells (natA 0) 28)).alloc (.cells (natA 0) 28)).alloc (.cells (natA 0) 28)).setRow u.heap.size (natA x)).setRow (u.heap.size + 1) (natA y)).setRow (u.heap.size + 1 + 1) (natA z))) w') :
    rowN w' u.heap.size = some (natA x) ∧ rowN w' (u.heap.size + 1) = some (natA y) ∧ rowN w' (u.heap.size + 1 + 1) = some (natA z) ∧ (∀ g cs, rowN u g = some cs → rowN w' g = some cs) ∧ Below u.heap.size u w' := by
  have hr := brow hb
  have hsz : (((((((u.alloc (.cells (natA 0) 28)).alloc (.cells (natA 0) 28)).alloc (.cells (natA 0) 28)).setRow u.heap.size (natA x)).setRow (u.heap.size + 1) (natA y)).setRow (u.heap.size + 1 + 1) (natA z))).heap.size = u.heap.size + 1 + 1 + 1 := by simp [World.setRow]
  refine ⟨?_, ?_, ?_, fun g cs h => ?_, ?_⟩
  · rw [hr _ (by omega)]; simp only [rowN_setRow, rowN_alloc, World.size_alloc, if_true]; repeat (first | rw [if_neg (by omega)] | rw [if_pos rfl])
    rfl
  · rw [hr _ (by omega)]; simp only [rowN_setRow, rowN_alloc, World.size_alloc, if_true]; repeat (first | rw [if_neg (by omega)] | rw [if_pos rfl])
    rfl
  · rw [hr _ (by omega)]; simp only [rowN_setRow, rowN_alloc, World.size_alloc, if_true]; repeat (first | rw [if_neg (by omega)] | rw [if_pos rfl])
    rfl
  · have hl := rowN_lt h
    rw [hr _ (by omega)]; simp only [rowN_setRow, rowN_alloc, World.size_alloc]; repeat (first | rw [if_neg (by omega)])
    exact h
  · exact (below_setRow' (below_setRow' (below_setRow' ((((Below.refl _ u).alloc (Nat.le_refl _) _).alloc (by simp) _).alloc (by simp <;> omega) _) (Nat.le_refl _) _) (by omega) _) (by omega) _).trans (hb.mono (by omega))
theorem bel_st3 (u : World) (x y z : Nat) : Below u.heap.size u (((((((u.alloc (.cells (natA 0) 28)).alloc (.cells (natA 0) 28)).alloc (.cells (natA 0) 28)).setRow u.heap.size (natA x)).setRow (u.heap.size + 1) (natA y)).setRow (u.heap.size + 1 + 1) (natA z))) :=
  below_setRow' (below_setRow' (below_setRow' ((((Below.refl _ u).alloc (Nat.le_refl _) _).alloc (by simp) _).alloc (by simp <;> omega) _) (Nat.le_refl _) _) (by omega) _) (by omega) _

set_option maxRecDepth 100000 in
theorem msums_long (n n' n2 : Nat) (a a' a2 : Option Addr) (c c' c2 : Nat) (w : World) (h : 128 < n ∨ 128 < n' ∨ 128 < n2) :
    Calls Try.prog 3 #[.slice a n c, .slice a' n' c', .slice a2 n2 c2] w fun e w' => e = .returned (.bool true) ∧ Below w.heap.size w w' := by
  by_cases h1 : 128 < n
  · clear h
    go_enter Try.func3, Try.ntmps3
    go_wp2_with fail
    refine (known_any _).mono ?_
    rintro e wK ⟨rfl, hb⟩
    have HBK := Lib.hid hb
    clear hb
    go_wp2_with fail
    go_ret
    exact ⟨rfl, HBK.out⟩
  · by_cases h2 : 128 < n'
    · clear h
      go_enter Try.func3, Try.ntmps3
      go_wp2_with fail
      refine (known_any _).mono ?_
      rintro e wK ⟨rfl, hb⟩
      have HBK := Lib.hid hb
      clear hb
      go_wp2_with fail
      go_ret
      exact ⟨rfl, HBK.out⟩
    · have h3 : 128 < n2 := by omega
      clear h
      go_enter Try.func3, Try.ntmps3
      go_wp2_with fail
      refine (known_any _).mono ?_
      rintro e wK ⟨rfl, hb⟩
      have HBK := Lib.hid hb
      clear hb
      go_wp2_with fail
      go_ret
      exact ⟨rfl, HBK.out⟩

set_option maxRecDepth 100000 in
set_option maxHeartbeats 2000000 in
theorem msums_zero (zs ys xs : List Nat) (a a' a2 : Option Addr) (c c' c2 : Nat) (w : World) (hz : BytesAt zs (.slice a zs.length c) w) (hy : BytesAt ys (.slice a' ys.length c') w) (hx : BytesAt xs (.slice a2 xs.length c2) w) (h1 : zs.length ≤ 128) (h2 : ys.length ≤ 128) (h3 : xs.length ≤ 128)
    (v u m : Nat) (ev : valBE 256 zs = v) (eu : valBE 256 ys = u) (em : valBE 256 xs = m) (h0 : m = 0) :
    Calls Try.prog 3 #[.slice a zs.length c, .slice a' ys.length c', .slice a2 xs.length c2] w fun e w' => e = .returned (.bool true) ∧ Below w.heap.size w w' := by
  have hv : v < P64 ^ 16 := by rw [← ev]; exact short_fits0 hz.1 h1
  have hu : u < P64 ^ 16 := by rw [← eu]; exact short_fits0 hy.1 h2
  have hm : m < P64 ^ 16 := by rw [← em]; exact short_fits0 hx.1 h3
  have HM0 := Lib.hid (fun W hW => made_any zs (.slice a zs.length c) W hW (by omega))
  have HM1 := Lib.hid (fun W hW => made_any ys (.slice a' ys.length c') W hW (by omega))
  have HM2 := Lib.hid (fun W hW => made_any xs (.slice a2 xs.length c2) W hW (by omega))
  rw [fb_val (by rw [ev]; exact hv), ev] at HM0
  rw [fb_val (by rw [eu]; exact hu), eu] at HM1
  rw [fb_val (by rw [em]; exact hm), em] at HM2
  have HF0 := Lib.hid (fun W hW => from_any zs (.slice a zs.length c) W hW (by omega))
  have HF1 := Lib.hid (fun W hW => from_any ys (.slice a' ys.length c') W hW (by omega))
  have HF2 := Lib.hid (fun W hW => from_any xs (.slice a2 xs.length c2) W hW (by omega))
  rw [ev] at HF0
  rw [eu] at HF1
  rw [em] at HF2
  have HY0 := Lib.hid hz
  have HY1 := Lib.hid hy
  have HY2 := Lib.hid hx
  subst h0
  have HRED := Lib.hid (fun W => reduce_zero v W)
  have HADD := Lib.hid (fun W => mod_add_zero v u W)
  have HSUB := Lib.hid (fun W => mod_sub_zero v u W)
  have hz0 : natEq 0 0 = true := by rw [natEq_iff hm hm]; rfl
  clear hz hy hx ev eu em hv hu hm
  obtain ⟨n, hn⟩ : ∃ n, zs.length = n := ⟨_, rfl⟩
  obtain ⟨n', hn'⟩ : ∃ n', ys.length = n' := ⟨_, rfl⟩
  obtain ⟨n2, hn2⟩ : ∃ n2, xs.length = n2 := ⟨_, rfl⟩
  rw [hn] at HY0 HM0 HF0 h1 ⊢
  rw [hn'] at HY1 HM1 HF1 h2 ⊢
  rw [hn2] at HY2 HM2 HF2 h3 ⊢
  clear hn hn' hn2
  go_enter Try.func3, Try.ntmps3
  go_wp2_with fail
  refine (HM0.out _ HY0.out).mono ?_
  rintro e w1 ⟨rfl, hb⟩
  have HB1 := Lib.hid hb
  clear hb
  go_wp2_with fail
  refine (HM1.out _ (HY1.out.kept HB1.out)).mono ?_
  rintro e w2 ⟨rfl, hb⟩
  have HB2 := Lib.hid (HB1.out.trans (hb.mono HB1.out.size))
  clear hb
  go_wp2_with fail
  refine (HM2.out _ (HY2.out.kept HB2.out)).mono ?_
  rintro e w3 ⟨rfl, hb⟩
  have HB3 := Lib.hid (HB2.out.trans (hb.mono HB2.out.size))
  clear hb HB1 HB2
  go_wp2_with fail
  refine (HRED.out _).mono ?_
  rintro e w4 ⟨rfl, hb⟩
  obtain ⟨r7, r8, r9, hk, hBel⟩ := stored3 hb
  have HB4 := Lib.hid (HB3.out.trans (hBel.mono HB3.out.size))
  have l7 := rowN_lt r7
  have l8 := rowN_lt r8
  have l9 := rowN_lt r9
  clear hb hk hBel HB3
  generalize w3.heap.size = b7 at *
  go_wp2_with fail
  refine (HADD.out _).mono ?_
  rintro e w5 ⟨rfl, hb⟩
  obtain ⟨r10, hk, hBel⟩ := stored hb
  have HB5 := Lib.hid (HB4.out.trans (hBel.mono HB4.out.size))
  replace r7 := hk _ _ r7
  have lr7 := rowN_lt r7
  replace r8 := hk _ _ r8
  have lr8 := rowN_lt r8
  replace r9 := hk _ _ r9
  have lr9 := rowN_lt r9
  have lr10 := rowN_lt r10
  clear hb hk hBel HB4
  generalize w4.heap.size = b10 at *
  go_wp2_with fail
  refine (HSUB.out _).mono ?_
  rintro e w6 ⟨rfl, hb⟩
  obtain ⟨r12, hk, hBel⟩ := stored hb
  have HB6 := Lib.hid (HB5.out.trans (hBel.mono HB5.out.size))
  replace r10 := hk _ _ r10
  have lr10 := rowN_lt r10
  have lr12 := rowN_lt r12
  clear hb hk hBel HB5 r7 r8 r9
  generalize w5.heap.size = b12 at *
  go_wp2_with fail
  refine (HF2.out _ (HY2.out.kept (HB6.out.trans ((bel_st0 w6 0).mono HB6.out.size)))).mono ?_
  rintro e w7 ⟨tm, rfl, ht, hb⟩
  obtain ⟨r14, hk, hBel⟩ := stored hb
  have HT7 := Lib.hid ht
  have HB7 := Lib.hid (HB6.out.trans (hBel.mono HB6.out.size))
  replace r10 := hk _ _ r10
  have lr10 := rowN_lt r10
  replace r12 := hk _ _ r12
  have lr12 := rowN_lt r12
  have lr14 := rowN_lt r14
  clear ht hb hk hBel HB6
  generalize w6.heap.size = b14 at *
  obtain ⟨ta, tc, rfl⟩ := refN_nil HT7.out
  go_wp2_with fail
  refine (isZero_any 0 _).mono ?_
  rintro e w8 ⟨rfl, hb⟩
  have HB8 := Lib.hid (HB7.out.trans (hb.mono HB7.out.size))
  have hk := kept hb
  replace r12 := hk _ _ r12
  have lr12 := rowN_lt r12
  replace r14 := hk _ _ r14
  have lr14 := rowN_lt r14
  clear hk
  rw [hz0]
  clear hb
  go_wp2_with fail
  refine (isZero_any 0 _).mono ?_
  rintro e w9 ⟨rfl, hb⟩
  have HB9 := Lib.hid (HB8.out.trans (hb.mono HB8.out.size))
  have hk := kept hb
  replace r14 := hk _ _ r14
  have lr14 := rowN_lt r14
  clear hk
  rw [hz0]
  clear hb
  go_wp2_with fail
  refine (isZero_any 0 _).mono ?_
  rintro e w10 ⟨rfl, hb⟩
  have HB10 := Lib.hid (HB9.out.trans (hb.mono HB9.out.size))
  rw [hz0]
  clear hb
  go_wp2_with fail
  refine (known_any _).mono ?_
  rintro e wK ⟨rfl, hb⟩
  have HBK := Lib.hid (HB10.out.trans (hb.mono HB10.out.size))
  clear hb
  go_wp2_with fail
  go_ret
  exact ⟨rfl, HBK.out⟩

set_option maxRecDepth 100000 in
set_option maxHeartbeats 4000000 in
theorem msums_pos (zs ys xs : List Nat) (a a' a2 : Option Addr) (c c' c2 : Nat) (w : World) (hz : BytesAt zs (.slice a zs.length c) w) (hy : BytesAt ys (.slice a' ys.length c') w) (hx : BytesAt xs (.slice a2 xs.length c2) w) (h1 : zs.length ≤ 128) (h2 : ys.length ≤ 128) (h3 : xs.length ≤ 128)
    (v u m : Nat) (ev : valBE 256 zs = v) (eu : valBE 256 ys = u) (em : valBE 256 xs = m) (h0 : 0 < m) :
    Calls Try.prog 3 #[.slice a zs.length c, .slice a' ys.length c', .slice a2 xs.length c2] w fun e w' => e = .returned (.bool true) ∧ Below w.heap.size w w' := by
  have hv : v < P64 ^ 16 := by rw [← ev]; exact short_fits0 hz.1 h1
  have hu : u < P64 ^ 16 := by rw [← eu]; exact short_fits0 hy.1 h2
  have hm : m < P64 ^ 16 := by rw [← em]; exact short_fits0 hx.1 h3
  have HM0 := Lib.hid (fun W hW => made_any zs (.slice a zs.length c) W hW (by omega))
  have HM1 := Lib.hid (fun W hW => made_any ys (.slice a' ys.length c') W hW (by omega))
  have HM2 := Lib.hid (fun W hW => made_any xs (.slice a2 xs.length c2) W hW (by omega))
  rw [fb_val (by rw [ev]; exact hv), ev] at HM0
  rw [fb_val (by rw [eu]; exact hu), eu] at HM1
  rw [fb_val (by rw [em]; exact hm), em] at HM2
  have HF0 := Lib.hid (fun W hW => from_any zs (.slice a zs.length c) W hW (by omega))
  have HF1 := Lib.hid (fun W hW => from_any ys (.slice a' ys.length c') W hW (by omega))
  have HF2 := Lib.hid (fun W hW => from_any xs (.slice a2 xs.length c2) W hW (by omega))
  rw [ev] at HF0
  rw [eu] at HF1
  rw [em] at HF2
  have HY0 := Lib.hid hz
  have HY1 := Lib.hid hy
  have HY2 := Lib.hid hx
  have HRED := Lib.hid (fun W => reduce_pos m v hm h0 hv W)
  have HADD := Lib.hid (fun W => mod_add_pos m v u ((v + u) % m) hm h0 hv hu (Nat.add_mod v u m).symm W)
  have HSUB := Lib.hid (fun W => mod_sub_pos m v u ((v % m + m - u % m) % m) hm h0 hv hu (by rw [Nat.add_sub_assoc (Nat.le_of_lt (Nat.mod_lt u h0))]) W)
  have hvu : Sm (v + u) := by
    refine Nat.le_trans (dlen_le (n := 128) (by omega) ?_) (by omega)
    have e : (65536 : Nat) ^ 128 = 65536 ^ 64 * 65536 ^ 64 := by rw [← Nat.pow_add]
    rw [p64_65536] at hv hu
    rw [e]
    have h2 : 2 ≤ (65536 : Nat) ^ 64 := Nat.le_trans (show 2 ≤ 65536 ^ 1 by omega) (Nat.pow_le_pow_right (by omega) (by omega))
    have h3 := Nat.mul_le_mul_right ((65536 : Nat) ^ 64) h2
    omega
  have hmm : Sm (v % m + m) := by
    have h1 := Nat.mod_lt v h0
    refine Nat.le_trans (dlen_le (n := 128) (by omega) ?_) (by omega)
    have e : (65536 : Nat) ^ 128 = 65536 ^ 64 * 65536 ^ 64 := by rw [← Nat.pow_add]
    rw [p64_65536] at hm
    rw [e]
    have h2 : 2 ≤ (65536 : Nat) ^ 64 := Nat.le_trans (show 2 ≤ 65536 ^ 1 by omega) (Nat.pow_le_pow_right (by omega) (by omega))
    have h3 := Nat.mul_le_mul_right ((65536 : Nat) ^ 64) h2
    omega
  have HR1 := Lib.hid (fun s z W (hs : RefN v s W) (hz : RefN m z W) => rred_any v m _ s z W hs (Nat.le_trans (sm16 hv) (by omega)) hz h0 (sm16 hm))
  have HR2 := Lib.hid (fun s t z W (hs : RefN v s W) (ht : RefN u t W) (hz : RefN m z W) => rmadd_any v u m s t z W hs ht hz (sm16 hv) (sm16 hu) h0 (sm16 hm) hvu)
  have HR3 := Lib.hid (fun s t z W (hs : RefN v s W) (ht : RefN u t W) (hz : RefN m z W) => rmsub_any v u m s t z W hs ht hz (sm16 hv) (sm16 hu) h0 (sm16 hm) hmm)
  have HS1 := Lib.hid (fun s W (hs : RefN (v % m) s W) => same_eq (v % m) (Nat.lt_trans (Nat.mod_lt _ h0) hm) s W hs)
  have HS2 := Lib.hid (fun s W (hs : RefN ((v + u) % m) s W) => same_eq ((v + u) % m) (Nat.lt_trans (Nat.mod_lt _ h0) hm) s W hs)
  have HS3 := Lib.hid (fun s W (hs : RefN ((v % m + m - u % m) % m) s W) => same_eq ((v % m + m - u % m) % m) (Nat.lt_trans (Nat.mod_lt _ h0) hm) s W hs)
  have H0 := Lib.hid h0
  clear hz hy hx ev eu em hv hu hm h0 hvu hmm
  generalize (v % m + m - u % m) % m = s3 at *
  generalize (v + u) % m = s2 at *
  generalize v % m = s1 at *
  obtain ⟨n, hn⟩ : ∃ n, zs.length = n := ⟨_, rfl⟩
  obtain ⟨n', hn'⟩ : ∃ n', ys.length = n' := ⟨_, rfl⟩
  obtain ⟨n2, hn2⟩ : ∃ n2, xs.length = n2 := ⟨_, rfl⟩
  rw [hn] at HY0 HM0 HF0 h1 ⊢
  rw [hn'] at HY1 HM1 HF1 h2 ⊢
  rw [hn2] at HY2 HM2 HF2 h3 ⊢
  clear hn hn' hn2
  go_enter Try.func3, Try.ntmps3
  go_wp2_with fail
  refine (HM0.out _ HY0.out).mono ?_
  rintro e w1 ⟨rfl, hb⟩
  have HB1 := Lib.hid hb
  clear hb
  go_wp2_with fail
  refine (HM1.out _ (HY1.out.kept HB1.out)).mono ?_
  rintro e w2 ⟨rfl, hb⟩
  have HB2 := Lib.hid (HB1.out.trans (hb.mono HB1.out.size))
  clear hb
  go_wp2_with fail
  refine (HM2.out _ (HY2.out.kept HB2.out)).mono ?_
  rintro e w3 ⟨rfl, hb⟩
  have HB3 := Lib.hid (HB2.out.trans (hb.mono HB2.out.size))
  clear hb HB1 HB2
  go_wp2_with fail
  refine (HRED.out _).mono ?_
  rintro e w4 ⟨rfl, hb⟩
  obtain ⟨r7, r8, r9, hk, hBel⟩ := stored3 hb
  have HB4 := Lib.hid (HB3.out.trans (hBel.mono HB3.out.size))
  have l7 := rowN_lt r7
  have l8 := rowN_lt r8
  have l9 := rowN_lt r9
  clear hb hk hBel HB3
  generalize w3.heap.size = b7 at *
  go_wp2_with fail
  refine (HADD.out _).mono ?_
  rintro e w5 ⟨rfl, hb⟩
  obtain ⟨r10, hk, hBel⟩ := stored hb
  have HB5 := Lib.hid (HB4.out.trans (hBel.mono HB4.out.size))
  replace r7 := hk _ _ r7
  have lr7 := rowN_lt r7
  replace r8 := hk _ _ r8
  have lr8 := rowN_lt r8
  replace r9 := hk _ _ r9
  have lr9 := rowN_lt r9
  have lr10 := rowN_lt r10
  clear hb hk hBel HB4
  generalize w4.heap.size = b10 at *
  go_wp2_with fail
  refine (HSUB.out _).mono ?_
  rintro e w6 ⟨rfl, hb⟩
  obtain ⟨r12, hk, hBel⟩ := stored hb
  have HB6 := Lib.hid (HB5.out.trans (hBel.mono HB5.out.size))
  replace r10 := hk _ _ r10
  have lr10 := rowN_lt r10
  have lr12 := rowN_lt r12
  clear hb hk hBel HB5 r7 r8 r9
  generalize w5.heap.size = b12 at *
  go_wp2_with fail
  refine (HF2.out _ (HY2.out.kept (HB6.out.trans ((bel_st0 w6 s3).mono HB6.out.size)))).mono ?_
  rintro e w7 ⟨tm, rfl, ht, hb⟩
  obtain ⟨r14, hk, hBel⟩ := stored hb
  have HT7 := Lib.hid ht
  have HB7 := Lib.hid (HB6.out.trans (hBel.mono HB6.out.size))
  replace r10 := hk _ _ r10
  have lr10 := rowN_lt r10
  replace r12 := hk _ _ r12
  have lr12 := rowN_lt r12
  have lr14 := rowN_lt r14
  clear ht hb hk hBel HB6
  generalize w6.heap.size = b14 at *
  obtain ⟨ta, tc, L, hL, rfl⟩ := refN_pos H0.out HT7.out
  go_wp2_with fail
  refine (HF0.out _ (HY0.out.kept HB7.out)).mono ?_
  rintro e w8 ⟨t0, rfl, ht, hb⟩
  have hk := kept hb
  replace r10 := hk _ _ r10
  have lr10 := rowN_lt r10
  replace r12 := hk _ _ r12
  have lr12 := rowN_lt r12
  replace r14 := hk _ _ r14
  have lr14 := rowN_lt r14
  have HT0 := Lib.hid ht
  have HTm := Lib.hid (HT7.out.kept hb)
  have HB8 := Lib.hid (HB7.out.trans (hb.mono HB7.out.size))
  clear ht hb hk HB7 HT7
  go_wp2_with fail
  refine (HF1.out _ (HY1.out.kept HB8.out)).mono ?_
  rintro e w9 ⟨t1, rfl, ht, hb⟩
  have hk := kept hb
  replace r10 := hk _ _ r10
  have lr10 := rowN_lt r10
  replace r12 := hk _ _ r12
  have lr12 := rowN_lt r12
  replace r14 := hk _ _ r14
  have lr14 := rowN_lt r14
  have HT1 := Lib.hid ht
  replace HT0 := Lib.hid (HT0.out.kept hb)
  replace HTm := Lib.hid (HTm.out.kept hb)
  have HB9 := Lib.hid (HB8.out.trans (hb.mono HB8.out.size))
  clear ht hb hk HB8
  go_wp2_with fail
  replace HT0 := Lib.hid (HT0.out.kept (Below.refl _ w9).drew)
  replace HT1 := Lib.hid (HT1.out.kept (Below.refl _ w9).drew)
  replace HTm := Lib.hid (HTm.out.kept (Below.refl _ w9).drew)
  have d10 : rowN w9.drew b10 = some (natA s1) := by rw [rowN_drew]; exact r10
  have d12 : rowN w9.drew b12 = some (natA s2) := by rw [rowN_drew]; exact r12
  have d14 : rowN w9.drew b14 = some (natA s3) := by rw [rowN_drew]; exact r14
  have HD := Lib.hid HB9.out.drew
  clear r10 r12 r14 HB9
  go_region_held3 (fun W => rowN W b10 = some (natA s1) ∧ rowN W b12 = some (natA s2) ∧ rowN W b14 = some (natA s3)) (first | exact ⟨d10, d12, d14⟩) (first
    | (go_at_call 18; refine (HR1.out _ _ _ HT0.out HTm.out).mono ?_; rintro e xx ⟨t2, rfl, ht, hb⟩; replace HT0 := Lib.hid (DigN.kept HT0.out hb); replace HT1 := Lib.hid (DigN.kept HT1.out hb); replace HTm := Lib.hid (DigN.kept HTm.out hb); have HX1 := Lib.hid ht; clear ht; replace d10 := kept hb _ _ d10; replace d12 := kept hb _ _ d12; replace d14 := kept hb _ _ d14; replace HD := Lib.hid (HD.out.trans (hb.mono HD.out.size)); clear hb)
    | (go_at_call_of 17 (Value.agg (natA s1)); refine (HS1.out _ _ HX1.out).mono ?_; rintro e xx ⟨rfl, hb⟩; replace HT0 := Lib.hid (DigN.kept HT0.out hb); replace HT1 := Lib.hid (DigN.kept HT1.out hb); replace HTm := Lib.hid (DigN.kept HTm.out hb); replace d10 := kept hb _ _ d10; replace d12 := kept hb _ _ d12; replace d14 := kept hb _ _ d14; replace HD := Lib.hid (HD.out.trans (hb.mono HD.out.size)); clear hb)
    | (go_at_call 19; refine (HR2.out _ _ _ _ HT0.out HT1.out HTm.out).mono ?_; rintro e xx ⟨t3, rfl, ht, hb⟩; replace HT0 := Lib.hid (DigN.kept HT0.out hb); replace HT1 := Lib.hid (DigN.kept HT1.out hb); replace HTm := Lib.hid (DigN.kept HTm.out hb); have HX2 := Lib.hid ht; clear ht; replace d10 := kept hb _ _ d10; replace d12 := kept hb _ _ d12; replace d14 := kept hb _ _ d14; replace HD := Lib.hid (HD.out.trans (hb.mono HD.out.size)); clear hb)
    | (go_at_call_of 17 (Value.agg (natA s2)); refine (HS2.out _ _ HX2.out).mono ?_; rintro e xx ⟨rfl, hb⟩; replace HT0 := Lib.hid (DigN.kept HT0.out hb); replace HT1 := Lib.hid (DigN.kept HT1.out hb); replace HTm := Lib.hid (DigN.kept HTm.out hb); replace d10 := kept hb _ _ d10; replace d12 := kept hb _ _ d12; replace d14 := kept hb _ _ d14; replace HD := Lib.hid (HD.out.trans (hb.mono HD.out.size)); clear hb)
    | (go_at_call 20; refine (HR3.out _ _ _ _ HT0.out HT1.out HTm.out).mono ?_; rintro e xx ⟨t4, rfl, ht, hb⟩; replace HT0 := Lib.hid (DigN.kept HT0.out hb); replace HT1 := Lib.hid (DigN.kept HT1.out hb); replace HTm := Lib.hid (DigN.kept HTm.out hb); have HX3 := Lib.hid ht; clear ht; replace d10 := kept hb _ _ d10; replace d12 := kept hb _ _ d12; replace d14 := kept hb _ _ d14; replace HD := Lib.hid (HD.out.trans (hb.mono HD.out.size)); clear hb)
    | (go_at_call_of 17 (Value.agg (natA s3)); refine (HS3.out _ _ HX3.out).mono ?_; rintro e xx ⟨rfl, hb⟩; replace HT0 := Lib.hid (DigN.kept HT0.out hb); replace HT1 := Lib.hid (DigN.kept HT1.out hb); replace HTm := Lib.hid (DigN.kept HTm.out hb); replace d10 := kept hb _ _ d10; replace d12 := kept hb _ _ d12; replace d14 := kept hb _ _ d14; replace HD := Lib.hid (HD.out.trans (hb.mono HD.out.size)); clear hb)
    | (go_at_call 10; refine (known_any _).mono ?_; rintro e xx ⟨rfl, hb⟩; replace HT0 := Lib.hid (DigN.kept HT0.out hb); replace HT1 := Lib.hid (DigN.kept HT1.out hb); replace HTm := Lib.hid (DigN.kept HTm.out hb); replace d10 := kept hb _ _ d10; replace d12 := kept hb _ _ d12; replace d14 := kept hb _ _ d14; replace HD := Lib.hid (HD.out.trans (hb.mono HD.out.size)); clear hb))
  all_goals
    go_wp2_with fail
    go_ret
    exact ⟨rfl, HD.out⟩

theorem msums_all (zs ys xs : List Nat) (a a' a2 : Option Addr) (c c' c2 : Nat) (w : World) (hz : BytesAt zs (.slice a zs.length c) w) (hy : BytesAt ys (.slice a' ys.length c') w) (hx : BytesAt xs (.slice a2 xs.length c2) w) :
    Calls Try.prog 3 #[.slice a zs.length c, .slice a' ys.length c', .slice a2 xs.length c2] w fun e w' => e = .returned (.bool true) ∧ Below w.heap.size w w' := by
  by_cases h : 128 < zs.length ∨ 128 < ys.length ∨ 128 < xs.length
  · exact msums_long _ _ _ a a' a2 c c' c2 w h
  · by_cases h0 : valBE 256 xs = 0
    · exact msums_zero zs ys xs a a' a2 c c' c2 w hz hy hx (by omega) (by omega) (by omega) _ _ _ rfl rfl rfl h0
    · exact msums_pos zs ys xs a a' a2 c c' c2 w hz hy hx (by omega) (by omega) (by omega) _ _ _ rfl rfl rfl (by omega)
end Go.Proofs.Ytlmfiggmjpjpiaa
