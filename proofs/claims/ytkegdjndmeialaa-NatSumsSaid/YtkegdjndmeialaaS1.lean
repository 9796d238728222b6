/- NatSums, walked. -/
import Derived.Test.YtkegdjndmeialaaF1
import Derived.Test.YtkegdjndmeialaaM1
import Derived.Test.YtkegdjndmeialaaR5
import Derived.Test.YtkegdjndmeialaaR7
namespace Go.Proofs.Ytkegdjndmeialaa
open Go.RowKit

theorem bel_st (w1 : World) (x : Nat) : Below w1.heap.size w1 ((w1.alloc (.cells (natA 0) 28)).setRow w1.heap.size (natA x)) := below_setRow' ((Below.refl _ _).alloc (Nat.le_refl _) _) (Nat.le_refl _) _
theorem row_st (w1 : World) (x : Nat) : rowN ((w1.alloc (.cells (natA 0) 28)).setRow w1.heap.size (natA x)) w1.heap.size = some (natA x) := by
  rw [rowN_setRow, if_pos rfl, rowN_alloc, if_pos rfl]; rfl
theorem row_st_other (w1 : World) (x g : Nat) (cs : Array Value) (h : rowN w1 g = some cs) : rowN ((w1.alloc (.cells (natA 0) 28)).setRow w1.heap.size (natA x)) g = some cs := by
  have hl := rowN_lt h
  rw [rowN_setRow, if_neg (by omega), rowN_alloc, if_neg (by omega)]; exact h
theorem dlen_sum {v u : Nat} (hv : v < P64 ^ 16) (hu : u < P64 ^ 16) : dlen 65536 (v + u) ≤ 65 := by
  have e : P64 ^ 16 = (65536 : Nat) ^ 64 := by rw [P64_16, p16]
  rw [e] at hv hu
  refine dlen_le (by omega) ?_
  rw [show (65 : Nat) = 64 + 1 by omega, Nat.pow_succ]
  generalize (65536 : Nat) ^ 64 = X at *
  omega
theorem rcmp_at (v u : Nat) (hv : v < P64 ^ 16) (hu : u < P64 ^ 16) (c : Int) (h : cmpN v u = c) (s t : Value) (W : World) (hs : RefN v s W) (ht : RefN u t W) :
    Calls Try.prog 25 #[s, t] W fun e w' => e = .returned (.int .i64 c) ∧ w' = W := by
  subst h
  have h1 := dlen16 hv
  have h2 := dlen16 hu
  exact rcompare_any v u _ _ s t W hs ht (by omega) (by omega)
theorem cmp_at (v u : Nat) (hv : v < P64 ^ 16) (hu : u < P64 ^ 16) (c : Int) (h : cmpN v u = c) (W : World) :
    Calls Try.prog 31 #[.agg (natA v), .agg (natA u)] W fun e w' => e = .returned (.int .i64 c) ∧ Below W.heap.size W w' := by
  subst h
  exact compare_any v u hv hu W
theorem short_fits {zs : List Nat} (h256 : ∀ x ∈ zs, x < 256) (h : zs.length ≤ 128) : valBE 256 zs < P64 ^ 16 := by
  rw [P64_16]
  exact Nat.lt_of_lt_of_le (valBE_lt 256 (by omega) zs h256) (Nat.pow_le_pow_right (by omega) h)

set_option maxRecDepth 100000 in
theorem sums_long (n n' : Nat) (a a' : Option Addr) (c c' : Nat) (w : World) (h : 128 < n ∨ 128 < n') :
    Calls Try.prog 6 #[.slice a n c, .slice a' n' c'] w fun e w' => e = .returned (.bool true) ∧ Below w.heap.size w w' := by
  by_cases h1 : 128 < n
  · clear h
    go_enter Try.func6, Try.ntmps6
    go_wp2_with fail
    refine (known_any _).mono ?_
    rintro e wK ⟨rfl, hb⟩
    have HBK := Lib.hid hb
    clear hb
    go_wp2_with fail
    go_ret
    exact ⟨rfl, HBK.out⟩
  · have h2 : 128 < n' := by omega
    clear h
    go_enter Try.func6, Try.ntmps6
    go_wp2_with fail
    refine (known_any _).mono ?_
    rintro e wK ⟨rfl, hb⟩
    have HBK := Lib.hid hb
    clear hb
    go_wp2_with fail
    go_ret
    exact ⟨rfl, HBK.out⟩

set_option maxRecDepth 100000 in
set_option maxHeartbeats 2000000 in
theorem sums_lt_fit (zs ys : List Nat) (a a' : Option Addr) (c c' : Nat) (w : World) (hz : BytesAt zs (.slice a zs.length c) w) (hy : BytesAt ys (.slice a' ys.length c') w) (h1 : zs.length ≤ 128) (h2 : ys.length ≤ 128)
    (v u : Nat) (ev : valBE 256 zs = v) (eu : valBE 256 ys = u) (hc : v < u) (hf : v + u < P64 ^ 16) :
    Calls Try.prog 6 #[.slice a zs.length c, .slice a' ys.length c'] w fun e w' => e = .returned (.bool true) ∧ Below w.heap.size w w' := by
  have hv : v < P64 ^ 16 := by rw [← ev]; exact short_fits hz.1 h1
  have hu : u < P64 ^ 16 := by rw [← eu]; exact short_fits hy.1 h2
  have HM0 := Lib.hid (fun W hW => made_fits zs (.slice a zs.length c) W hW (by omega) (by rw [ev]; exact hv))
  have HM1 := Lib.hid (fun W hW => made_fits ys (.slice a' ys.length c') W hW (by omega) (by rw [eu]; exact hu))
  rw [ev] at HM0
  rw [eu] at HM1
  have hdv := dlen16 hv
  have hdu := dlen16 hu
  have hds := dlen_sum hv hu
  have HZ := Lib.hid natEq_zero
  have hcmp : cmpN v u = (-1) := by unfold cmpN; rw [if_pos hc]
  have HC1 := Lib.hid (cmp_at v u hv hu _ hcmp)
  have HRC := Lib.hid (rcmp_at v u hv hu _ hcmp)
  have HE := Lib.hid (show natEq v u = false by rw [natEq_iff hv hu]; simp; omega)
  have HRA := Lib.hid (fun (s t : Value) (W : World) (hs : RefN v s W) (ht : RefN u t W) => radd_any v u _ _ s t W hs ht (by omega) (by omega))
  have HADD := Lib.hid (add_fits v u hv hu hf)
  obtain ⟨sm, hsm⟩ : ∃ sm, v + u = sm := ⟨_, rfl⟩
  rw [hsm] at HADD HRA hf hds
  have HF := Lib.hid hf
  clear hsm hf
  have HSUB := Lib.hid (sub_less v u hv hu hc)
  have HY0 := Lib.hid hz
  have HY1 := Lib.hid hy
  have HV := Lib.hid hv
  have HU := Lib.hid hu
  clear hz hy ev eu hv hu hcmp hc
  obtain ⟨n, hn⟩ : ∃ n, zs.length = n := ⟨_, rfl⟩
  obtain ⟨n', hn'⟩ : ∃ n', ys.length = n' := ⟨_, rfl⟩
  rw [hn] at HY0 HM0 h1 ⊢
  rw [hn'] at HY1 HM1 h2 ⊢
  clear hn hn'
  go_enter Try.func6, Try.ntmps6
  go_wp2_with fail
  refine (HM0.out _ HY0.out).mono ?_
  rintro e w1 ⟨tv, rfl, ht, hb⟩
  have HTv1 := Lib.hid ht
  have HB1 := Lib.hid hb
  clear ht hb
  go_wp2_with fail
  refine (HM1.out _ (HY1.out.kept (HB1.out.trans ((bel_st w1 v).mono HB1.out.size)))).mono ?_
  rintro e w2 ⟨tu, rfl, ht, hb⟩
  obtain ⟨hV, hk, hB⟩ := stored hb
  have HTv2 := Lib.hid ((HTv1.out.kept (bel_st w1 v)).kept hb)
  have HTu2 := Lib.hid ht
  have HB2 := Lib.hid (HB1.out.trans (hB.mono HB1.out.size))
  have lV := rowN_lt hV
  clear ht hb hk hB HTv1 HB1
  generalize w1.heap.size = b1 at *
  go_wp2_with fail
  have hVd : rowN ((w2.alloc (.cells (natA 0) 28)).setRow w2.heap.size (natA u)).drew b1 = some (natA v) := by rw [rowN_drew]; exact row_st_other _ _ _ _ hV
  have hUd : rowN ((w2.alloc (.cells (natA 0) 28)).setRow w2.heap.size (natA u)).drew w2.heap.size = some (natA u) := by rw [rowN_drew]; exact row_st _ _
  have HBd := Lib.hid (HB2.out.trans ((bel_st w2 u).drew.mono HB2.out.size))
  have HTvd := Lib.hid (HTv2.out.kept (bel_st w2 u).drew)
  have HTud := Lib.hid (HTu2.out.kept (bel_st w2 u).drew)
  have heq := HE.out
  go_region_held3 (fun W => rowN W b1 = some (natA v) ∧ rowN W w2.heap.size = some (natA u) ∧ Below w.heap.size w W) (first | exact ⟨hV3, hU3, HB3.out⟩ | exact ⟨hVd, hUd, HBd.out⟩) (first
    | (go_at_call 31; refine (HC1.out _).mono ?_; rintro e w4 ⟨rfl, hb⟩; have hV3 := kept hb _ _ hVd; have hU3 := kept hb _ _ hUd; have HTv3 := Lib.hid (HTvd.out.kept hb); have HTu3 := Lib.hid (HTud.out.kept hb); have HB3 := Lib.hid (HBd.out.trans (hb.mono HBd.out.size)); clear hb)
    | (go_at_call 25; refine (HRC.out tv tu _ HTv3.out HTu3.out).mono ?_; rintro e w4 ⟨rfl, hw⟩; subst hw))
  clear hVd hUd HBd HTvd HTud HTv2 HTu2 HB2 hV
  have l2 := rowN_lt hU3
  generalize w2.heap.size = b2 at *
  go_wp2_with fail
  refine (HADD.out _).mono ?_
  rintro e w5 ⟨rfl, hb⟩
  have hV5 := kept hb _ _ hV3
  have hU5 := kept hb _ _ hU3
  have HTv5 := Lib.hid (HTv3.out.kept hb)
  have HTu5 := Lib.hid (HTu3.out.kept hb)
  have HB5 := Lib.hid (HB3.out.trans (hb.mono HB3.out.size))
  have lv5 := rowN_lt hV5
  have lu5 := rowN_lt hU5
  clear hb hV3 hU3 HTv3 HTu3 HB3
  go_wp2_with fail
  refine (HSUB.out _).mono ?_
  rintro e w6 ⟨rfl, hb⟩
  obtain ⟨hS6, hk, hB⟩ := stored hb
  have HTv6 := Lib.hid ((HTv5.out.kept (bel_st w5 sm)).kept hb)
  have HTu6 := Lib.hid ((HTu5.out.kept (bel_st w5 sm)).kept hb)
  have HB6 := Lib.hid (HB5.out.trans (hB.mono HB5.out.size))
  have lS6 := rowN_lt hS6
  clear hb hk hB hV5 hU5 HTv5 HTu5 HB5
  generalize w5.heap.size = b5 at *
  go_wp2_with fail
  refine (HRA.out tv tu _ (HTv6.out.kept (bel_st w6 0)) (HTu6.out.kept (bel_st w6 0))).mono ?_
  rintro e w7 ⟨ts, rfl, ht, hb⟩
  obtain ⟨hD7, hk, hB⟩ := stored hb
  have hS7 := hk _ _ hS6
  have HTs7 := Lib.hid ht
  have HTv7 := Lib.hid ((HTv6.out.kept (bel_st w6 0)).kept hb)
  have HTu7 := Lib.hid ((HTu6.out.kept (bel_st w6 0)).kept hb)
  have HB7 := Lib.hid (HB6.out.trans (hB.mono HB6.out.size))
  have lD7 := rowN_lt hD7
  have lS7 := rowN_lt hS7
  clear ht hb hk hB hS6 HTv6 HTu6 HB6
  generalize w6.heap.size = b6 at *
  go_wp2_with fail
  refine (fits_true sm _ ts _ HTs7.out (by omega) HF.out).mono ?_
  rintro e w8 ⟨rfl, hw⟩
  subst hw
  go_wp2_with fail
  refine (same_eq sm HF.out ts _ HTs7.out).mono ?_
  rintro e w9 ⟨rfl, hb⟩
  have hD9 := kept hb _ _ hD7
  have HTv9 := Lib.hid (HTv7.out.kept hb)
  have HTu9 := Lib.hid (HTu7.out.kept hb)
  have HB9 := Lib.hid (HB7.out.trans (hb.mono HB7.out.size))
  have lD9 := rowN_lt hD9
  clear hb hS7 hD7 HTv7 HTu7 HB7 HTs7
  go_wp2_with fail
  refine (HRC.out tv tu _ HTv9.out HTu9.out).mono ?_
  rintro e w10 ⟨rfl, hw⟩
  subst hw
  go_wp2_with fail
  refine (isZero_any 0 _).mono ?_
  rintro e w11 ⟨rfl, hb⟩
  rw [HZ.out]
  have HB11 := Lib.hid (HB9.out.trans (hb.mono HB9.out.size))
  clear hb
  go_wp2_with fail
  refine (known_any _).mono ?_
  rintro e wK ⟨rfl, hb⟩
  have HBK := Lib.hid (HB11.out.trans (hb.mono HB11.out.size))
  clear hb
  go_wp2_with fail
  go_ret
  exact ⟨rfl, HBK.out⟩

set_option maxRecDepth 100000 in
set_option maxHeartbeats 2000000 in
theorem sums_lt_full (zs ys : List Nat) (a a' : Option Addr) (c c' : Nat) (w : World) (hz : BytesAt zs (.slice a zs.length c) w) (hy : BytesAt ys (.slice a' ys.length c') w) (h1 : zs.length ≤ 128) (h2 : ys.length ≤ 128)
    (v u : Nat) (ev : valBE 256 zs = v) (eu : valBE 256 ys = u) (hc : v < u) (hf : ¬ v + u < P64 ^ 16) :
    Calls Try.prog 6 #[.slice a zs.length c, .slice a' ys.length c'] w fun e w' => e = .returned (.bool true) ∧ Below w.heap.size w w' := by
  have hv : v < P64 ^ 16 := by rw [← ev]; exact short_fits hz.1 h1
  have hu : u < P64 ^ 16 := by rw [← eu]; exact short_fits hy.1 h2
  have HM0 := Lib.hid (fun W hW => made_fits zs (.slice a zs.length c) W hW (by omega) (by rw [ev]; exact hv))
  have HM1 := Lib.hid (fun W hW => made_fits ys (.slice a' ys.length c') W hW (by omega) (by rw [eu]; exact hu))
  rw [ev] at HM0
  rw [eu] at HM1
  have hdv := dlen16 hv
  have hdu := dlen16 hu
  have hds := dlen_sum hv hu
  have HZ := Lib.hid natEq_zero
  have hcmp : cmpN v u = (-1) := by unfold cmpN; rw [if_pos hc]
  have HC1 := Lib.hid (cmp_at v u hv hu _ hcmp)
  have HRC := Lib.hid (rcmp_at v u hv hu _ hcmp)
  have HE := Lib.hid (show natEq v u = false by rw [natEq_iff hv hu]; simp; omega)
  have HRA := Lib.hid (fun (s t : Value) (W : World) (hs : RefN v s W) (ht : RefN u t W) => radd_any v u _ _ s t W hs ht (by omega) (by omega))
  have HADD := Lib.hid (add_full v u hv hu hf)
  obtain ⟨sm, hsm⟩ : ∃ sm, v + u = sm := ⟨_, rfl⟩
  rw [hsm] at HRA hf hds
  have HF := Lib.hid hf
  clear hsm hf
  have HSUB := Lib.hid (sub_less v u hv hu hc)
  have HY0 := Lib.hid hz
  have HY1 := Lib.hid hy
  have HV := Lib.hid hv
  have HU := Lib.hid hu
  clear hz hy ev eu hv hu hcmp hc
  obtain ⟨n, hn⟩ : ∃ n, zs.length = n := ⟨_, rfl⟩
  obtain ⟨n', hn'⟩ : ∃ n', ys.length = n' := ⟨_, rfl⟩
  rw [hn] at HY0 HM0 h1 ⊢
  rw [hn'] at HY1 HM1 h2 ⊢
  clear hn hn'
  go_enter Try.func6, Try.ntmps6
  go_wp2_with fail
  refine (HM0.out _ HY0.out).mono ?_
  rintro e w1 ⟨tv, rfl, ht, hb⟩
  have HTv1 := Lib.hid ht
  have HB1 := Lib.hid hb
  clear ht hb
  go_wp2_with fail
  refine (HM1.out _ (HY1.out.kept (HB1.out.trans ((bel_st w1 v).mono HB1.out.size)))).mono ?_
  rintro e w2 ⟨tu, rfl, ht, hb⟩
  obtain ⟨hV, hk, hB⟩ := stored hb
  have HTv2 := Lib.hid ((HTv1.out.kept (bel_st w1 v)).kept hb)
  have HTu2 := Lib.hid ht
  have HB2 := Lib.hid (HB1.out.trans (hB.mono HB1.out.size))
  have lV := rowN_lt hV
  clear ht hb hk hB HTv1 HB1
  generalize w1.heap.size = b1 at *
  go_wp2_with fail
  have hVd : rowN ((w2.alloc (.cells (natA 0) 28)).setRow w2.heap.size (natA u)).drew b1 = some (natA v) := by rw [rowN_drew]; exact row_st_other _ _ _ _ hV
  have hUd : rowN ((w2.alloc (.cells (natA 0) 28)).setRow w2.heap.size (natA u)).drew w2.heap.size = some (natA u) := by rw [rowN_drew]; exact row_st _ _
  have HBd := Lib.hid (HB2.out.trans ((bel_st w2 u).drew.mono HB2.out.size))
  have HTvd := Lib.hid (HTv2.out.kept (bel_st w2 u).drew)
  have HTud := Lib.hid (HTu2.out.kept (bel_st w2 u).drew)
  have heq := HE.out
  go_region_held3 (fun W => rowN W b1 = some (natA v) ∧ rowN W w2.heap.size = some (natA u) ∧ Below w.heap.size w W) (first | exact ⟨hV3, hU3, HB3.out⟩ | exact ⟨hVd, hUd, HBd.out⟩) (first
    | (go_at_call 31; refine (HC1.out _).mono ?_; rintro e w4 ⟨rfl, hb⟩; have hV3 := kept hb _ _ hVd; have hU3 := kept hb _ _ hUd; have HTv3 := Lib.hid (HTvd.out.kept hb); have HTu3 := Lib.hid (HTud.out.kept hb); have HB3 := Lib.hid (HBd.out.trans (hb.mono HBd.out.size)); clear hb)
    | (go_at_call 25; refine (HRC.out tv tu _ HTv3.out HTu3.out).mono ?_; rintro e w4 ⟨rfl, hw⟩; subst hw))
  clear hVd hUd HBd HTvd HTud HTv2 HTu2 HB2 hV
  have l2 := rowN_lt hU3
  generalize w2.heap.size = b2 at *
  go_wp2_with fail
  refine (HADD.out _).mono ?_
  rintro e w5 ⟨rfl, hb⟩
  have hV5 := kept hb _ _ hV3
  have hU5 := kept hb _ _ hU3
  have HTv5 := Lib.hid (HTv3.out.kept hb)
  have HTu5 := Lib.hid (HTu3.out.kept hb)
  have HB5 := Lib.hid (HB3.out.trans (hb.mono HB3.out.size))
  have lv5 := rowN_lt hV5
  have lu5 := rowN_lt hU5
  clear hb hV3 hU3 HTv3 HTu3 HB3
  go_wp2_with fail
  refine (HSUB.out _).mono ?_
  rintro e w6 ⟨rfl, hb⟩
  obtain ⟨hS6, hk, hB⟩ := stored hb
  have HTv6 := Lib.hid ((HTv5.out.kept (bel_st w5 0)).kept hb)
  have HTu6 := Lib.hid ((HTu5.out.kept (bel_st w5 0)).kept hb)
  have HB6 := Lib.hid (HB5.out.trans (hB.mono HB5.out.size))
  have lS6 := rowN_lt hS6
  clear hb hk hB hV5 hU5 HTv5 HTu5 HB5
  generalize w5.heap.size = b5 at *
  go_wp2_with fail
  refine (HRA.out tv tu _ (HTv6.out.kept (bel_st w6 0)) (HTu6.out.kept (bel_st w6 0))).mono ?_
  rintro e w7 ⟨ts, rfl, ht, hb⟩
  obtain ⟨hD7, hk, hB⟩ := stored hb
  have hS7 := hk _ _ hS6
  have HTs7 := Lib.hid ht
  have HTv7 := Lib.hid ((HTv6.out.kept (bel_st w6 0)).kept hb)
  have HTu7 := Lib.hid ((HTu6.out.kept (bel_st w6 0)).kept hb)
  have HB7 := Lib.hid (HB6.out.trans (hB.mono HB6.out.size))
  have lD7 := rowN_lt hD7
  have lS7 := rowN_lt hS7
  clear ht hb hk hB hS6 HTv6 HTu6 HB6
  generalize w6.heap.size = b6 at *
  go_wp2_with fail
  refine (fits_false sm _ ts _ HTs7.out (by omega) HF.out).mono ?_
  rintro e w8 ⟨rfl, hw⟩
  subst hw
  go_wp2_with fail
  refine (isZero_any 0 _).mono ?_
  rintro e w9 ⟨rfl, hb⟩
  rw [HZ.out]
  have hD9 := kept hb _ _ hD7
  have HTv9 := Lib.hid (HTv7.out.kept hb)
  have HTu9 := Lib.hid (HTu7.out.kept hb)
  have HB9 := Lib.hid (HB7.out.trans (hb.mono HB7.out.size))
  have lD9 := rowN_lt hD9
  clear hb hS7 hD7 HTv7 HTu7 HB7 HTs7
  go_wp2_with fail
  refine (HRC.out tv tu _ HTv9.out HTu9.out).mono ?_
  rintro e w10 ⟨rfl, hw⟩
  subst hw
  go_wp2_with fail
  refine (isZero_any 0 _).mono ?_
  rintro e w11 ⟨rfl, hb⟩
  rw [HZ.out]
  have HB11 := Lib.hid (HB9.out.trans (hb.mono HB9.out.size))
  clear hb
  go_wp2_with fail
  refine (known_any _).mono ?_
  rintro e wK ⟨rfl, hb⟩
  have HBK := Lib.hid (HB11.out.trans (hb.mono HB11.out.size))
  clear hb
  go_wp2_with fail
  go_ret
  exact ⟨rfl, HBK.out⟩

set_option maxRecDepth 100000 in
set_option maxHeartbeats 2000000 in
theorem sums_eq_fit (zs ys : List Nat) (a a' : Option Addr) (c c' : Nat) (w : World) (hz : BytesAt zs (.slice a zs.length c) w) (hy : BytesAt ys (.slice a' ys.length c') w) (h1 : zs.length ≤ 128) (h2 : ys.length ≤ 128)
    (v u : Nat) (ev : valBE 256 zs = v) (eu : valBE 256 ys = u) (hc : v = u) (hf : v + u < P64 ^ 16) :
    Calls Try.prog 6 #[.slice a zs.length c, .slice a' ys.length c'] w fun e w' => e = .returned (.bool true) ∧ Below w.heap.size w w' := by
  have hv : v < P64 ^ 16 := by rw [← ev]; exact short_fits hz.1 h1
  have hu : u < P64 ^ 16 := by rw [← eu]; exact short_fits hy.1 h2
  have HM0 := Lib.hid (fun W hW => made_fits zs (.slice a zs.length c) W hW (by omega) (by rw [ev]; exact hv))
  have HM1 := Lib.hid (fun W hW => made_fits ys (.slice a' ys.length c') W hW (by omega) (by rw [eu]; exact hu))
  rw [ev] at HM0
  rw [eu] at HM1
  have hdv := dlen16 hv
  have hdu := dlen16 hu
  have hds := dlen_sum hv hu
  have HZ := Lib.hid natEq_zero
  have hcmp : cmpN v u = 0 := by unfold cmpN; rw [if_neg (by omega), if_neg (by omega)]
  have HC1 := Lib.hid (cmp_at v u hv hu _ hcmp)
  have HRC := Lib.hid (rcmp_at v u hv hu _ hcmp)
  have HE := Lib.hid (show natEq v u = true by rw [natEq_iff hv hu]; simp; omega)
  have HRA := Lib.hid (fun (s t : Value) (W : World) (hs : RefN v s W) (ht : RefN u t W) => radd_any v u _ _ s t W hs ht (by omega) (by omega))
  have HADD := Lib.hid (add_fits v u hv hu hf)
  obtain ⟨sm, hsm⟩ : ∃ sm, v + u = sm := ⟨_, rfl⟩
  rw [hsm] at HADD HRA hf hds
  have HF := Lib.hid hf
  clear hsm hf
  have HSUB := Lib.hid (sub_fits v u hv hu (by omega))
  have HRS := Lib.hid (fun (s t : Value) (W : World) (hs : RefN v s W) (ht : RefN u t W) => rsub_any v u _ _ s t W hs ht (by omega) (by omega))
  have hd : v - u < P64 ^ 16 := Nat.lt_of_le_of_lt (Nat.sub_le _ _) hv
  obtain ⟨d, hdd⟩ : ∃ d, v - u = d := ⟨_, rfl⟩
  rw [hdd] at HSUB HRS hd
  have HDF := Lib.hid hd
  clear hdd hd
  have HY0 := Lib.hid hz
  have HY1 := Lib.hid hy
  have HV := Lib.hid hv
  have HU := Lib.hid hu
  clear hz hy ev eu hv hu hcmp hc
  obtain ⟨n, hn⟩ : ∃ n, zs.length = n := ⟨_, rfl⟩
  obtain ⟨n', hn'⟩ : ∃ n', ys.length = n' := ⟨_, rfl⟩
  rw [hn] at HY0 HM0 h1 ⊢
  rw [hn'] at HY1 HM1 h2 ⊢
  clear hn hn'
  go_enter Try.func6, Try.ntmps6
  go_wp2_with fail
  refine (HM0.out _ HY0.out).mono ?_
  rintro e w1 ⟨tv, rfl, ht, hb⟩
  have HTv1 := Lib.hid ht
  have HB1 := Lib.hid hb
  clear ht hb
  go_wp2_with fail
  refine (HM1.out _ (HY1.out.kept (HB1.out.trans ((bel_st w1 v).mono HB1.out.size)))).mono ?_
  rintro e w2 ⟨tu, rfl, ht, hb⟩
  obtain ⟨hV, hk, hB⟩ := stored hb
  have HTv2 := Lib.hid ((HTv1.out.kept (bel_st w1 v)).kept hb)
  have HTu2 := Lib.hid ht
  have HB2 := Lib.hid (HB1.out.trans (hB.mono HB1.out.size))
  have lV := rowN_lt hV
  clear ht hb hk hB HTv1 HB1
  generalize w1.heap.size = b1 at *
  go_wp2_with fail
  have hVd : rowN ((w2.alloc (.cells (natA 0) 28)).setRow w2.heap.size (natA u)).drew b1 = some (natA v) := by rw [rowN_drew]; exact row_st_other _ _ _ _ hV
  have hUd : rowN ((w2.alloc (.cells (natA 0) 28)).setRow w2.heap.size (natA u)).drew w2.heap.size = some (natA u) := by rw [rowN_drew]; exact row_st _ _
  have HBd := Lib.hid (HB2.out.trans ((bel_st w2 u).drew.mono HB2.out.size))
  have HTvd := Lib.hid (HTv2.out.kept (bel_st w2 u).drew)
  have HTud := Lib.hid (HTu2.out.kept (bel_st w2 u).drew)
  have heq := HE.out
  go_region_held3 (fun W => rowN W b1 = some (natA v) ∧ rowN W w2.heap.size = some (natA u) ∧ Below w.heap.size w W) (first | exact ⟨hV3, hU3, HB3.out⟩ | exact ⟨hVd, hUd, HBd.out⟩) (first
    | (go_at_call 31; refine (HC1.out _).mono ?_; rintro e w4 ⟨rfl, hb⟩; have hV3 := kept hb _ _ hVd; have hU3 := kept hb _ _ hUd; have HTv3 := Lib.hid (HTvd.out.kept hb); have HTu3 := Lib.hid (HTud.out.kept hb); have HB3 := Lib.hid (HBd.out.trans (hb.mono HBd.out.size)); clear hb)
    | (go_at_call 25; refine (HRC.out tv tu _ HTv3.out HTu3.out).mono ?_; rintro e w4 ⟨rfl, hw⟩; subst hw))
  clear hVd hUd HBd HTvd HTud HTv2 HTu2 HB2 hV
  have l2 := rowN_lt hU3
  generalize w2.heap.size = b2 at *
  go_wp2_with fail
  refine (HADD.out _).mono ?_
  rintro e w5 ⟨rfl, hb⟩
  have hV5 := kept hb _ _ hV3
  have hU5 := kept hb _ _ hU3
  have HTv5 := Lib.hid (HTv3.out.kept hb)
  have HTu5 := Lib.hid (HTu3.out.kept hb)
  have HB5 := Lib.hid (HB3.out.trans (hb.mono HB3.out.size))
  have lv5 := rowN_lt hV5
  have lu5 := rowN_lt hU5
  clear hb hV3 hU3 HTv3 HTu3 HB3
  go_wp2_with fail
  refine (HSUB.out _).mono ?_
  rintro e w6 ⟨rfl, hb⟩
  obtain ⟨hS6, hk, hB⟩ := stored hb
  have HTv6 := Lib.hid ((HTv5.out.kept (bel_st w5 sm)).kept hb)
  have HTu6 := Lib.hid ((HTu5.out.kept (bel_st w5 sm)).kept hb)
  have HB6 := Lib.hid (HB5.out.trans (hB.mono HB5.out.size))
  have lS6 := rowN_lt hS6
  clear hb hk hB hV5 hU5 HTv5 HTu5 HB5
  generalize w5.heap.size = b5 at *
  go_wp2_with fail
  refine (HRA.out tv tu _ (HTv6.out.kept (bel_st w6 d)) (HTu6.out.kept (bel_st w6 d))).mono ?_
  rintro e w7 ⟨ts, rfl, ht, hb⟩
  obtain ⟨hD7, hk, hB⟩ := stored hb
  have hS7 := hk _ _ hS6
  have HTs7 := Lib.hid ht
  have HTv7 := Lib.hid ((HTv6.out.kept (bel_st w6 d)).kept hb)
  have HTu7 := Lib.hid ((HTu6.out.kept (bel_st w6 d)).kept hb)
  have HB7 := Lib.hid (HB6.out.trans (hB.mono HB6.out.size))
  have lD7 := rowN_lt hD7
  have lS7 := rowN_lt hS7
  clear ht hb hk hB hS6 HTv6 HTu6 HB6
  generalize w6.heap.size = b6 at *
  go_wp2_with fail
  refine (fits_true sm _ ts _ HTs7.out (by omega) HF.out).mono ?_
  rintro e w8 ⟨rfl, hw⟩
  subst hw
  go_wp2_with fail
  refine (same_eq sm HF.out ts _ HTs7.out).mono ?_
  rintro e w9 ⟨rfl, hb⟩
  have hD9 := kept hb _ _ hD7
  have HTv9 := Lib.hid (HTv7.out.kept hb)
  have HTu9 := Lib.hid (HTu7.out.kept hb)
  have HB9 := Lib.hid (HB7.out.trans (hb.mono HB7.out.size))
  have lD9 := rowN_lt hD9
  clear hb hS7 hD7 HTv7 HTu7 HB7 HTs7
  go_wp2_with fail
  refine (HRC.out tv tu _ HTv9.out HTu9.out).mono ?_
  rintro e w10 ⟨rfl, hw⟩
  subst hw
  go_wp2_with fail
  have hDd : rowN w10.drew b6 = some (natA d) := by rw [rowN_drew]; exact hD9
  have HTvd := Lib.hid (HTv9.out.kept (Below.refl _ w10).drew)
  have HTud := Lib.hid (HTu9.out.kept (Below.refl _ w10).drew)
  have HBd := Lib.hid HB9.out.drew
  go_region_held3 (fun W => rowN W b6 = some (natA d) ∧ Below w.heap.size w W) (first | exact ⟨hD13, HB13.out⟩ | exact ⟨hD12, HB12.out⟩ | exact ⟨hD11, HB11.out⟩ | exact ⟨hDd, HBd.out⟩) (first
    | (go_at_call 35; refine (HRS.out tv tu _ HTvd.out HTud.out).mono ?_; rintro e w11 ⟨td, rfl, ht, hb⟩; have HTd := Lib.hid ht; have hD11 := kept hb _ _ hDd; have HB11 := Lib.hid (HBd.out.trans (hb.mono HBd.out.size)); clear ht hb)
    | (go_at_call 16; refine (same_eq d HDF.out td _ HTd.out).mono ?_; rintro e w12 ⟨rfl, hb⟩; have hD12 := kept hb _ _ hD11; have HB12 := Lib.hid (HB11.out.trans (hb.mono HB11.out.size)); clear hb)
    | (go_at_call 11; refine (known_any _).mono ?_; rintro e w13 ⟨rfl, hb⟩; have hD13 := kept hb _ _ hD12; have HB13 := Lib.hid (HB12.out.trans (hb.mono HB12.out.size)); clear hb))
  go_wp2_with fail
  go_ret
  exact ⟨rfl, HB13.out⟩

set_option maxRecDepth 100000 in
set_option maxHeartbeats 2000000 in
theorem sums_eq_full (zs ys : List Nat) (a a' : Option Addr) (c c' : Nat) (w : World) (hz : BytesAt zs (.slice a zs.length c) w) (hy : BytesAt ys (.slice a' ys.length c') w) (h1 : zs.length ≤ 128) (h2 : ys.length ≤ 128)
    (v u : Nat) (ev : valBE 256 zs = v) (eu : valBE 256 ys = u) (hc : v = u) (hf : ¬ v + u < P64 ^ 16) :
    Calls Try.prog 6 #[.slice a zs.length c, .slice a' ys.length c'] w fun e w' => e = .returned (.bool true) ∧ Below w.heap.size w w' := by
  have hv : v < P64 ^ 16 := by rw [← ev]; exact short_fits hz.1 h1
  have hu : u < P64 ^ 16 := by rw [← eu]; exact short_fits hy.1 h2
  have HM0 := Lib.hid (fun W hW => made_fits zs (.slice a zs.length c) W hW (by omega) (by rw [ev]; exact hv))
  have HM1 := Lib.hid (fun W hW => made_fits ys (.slice a' ys.length c') W hW (by omega) (by rw [eu]; exact hu))
  rw [ev] at HM0
  rw [eu] at HM1
  have hdv := dlen16 hv
  have hdu := dlen16 hu
  have hds := dlen_sum hv hu
  have HZ := Lib.hid natEq_zero
  have hcmp : cmpN v u = 0 := by unfold cmpN; rw [if_neg (by omega), if_neg (by omega)]
  have HC1 := Lib.hid (cmp_at v u hv hu _ hcmp)
  have HRC := Lib.hid (rcmp_at v u hv hu _ hcmp)
  have HE := Lib.hid (show natEq v u = true by rw [natEq_iff hv hu]; simp; omega)
  have HRA := Lib.hid (fun (s t : Value) (W : World) (hs : RefN v s W) (ht : RefN u t W) => radd_any v u _ _ s t W hs ht (by omega) (by omega))
  have HADD := Lib.hid (add_full v u hv hu hf)
  obtain ⟨sm, hsm⟩ : ∃ sm, v + u = sm := ⟨_, rfl⟩
  rw [hsm] at HRA hf hds
  have HF := Lib.hid hf
  clear hsm hf
  have HSUB := Lib.hid (sub_fits v u hv hu (by omega))
  have HRS := Lib.hid (fun (s t : Value) (W : World) (hs : RefN v s W) (ht : RefN u t W) => rsub_any v u _ _ s t W hs ht (by omega) (by omega))
  have hd : v - u < P64 ^ 16 := Nat.lt_of_le_of_lt (Nat.sub_le _ _) hv
  obtain ⟨d, hdd⟩ : ∃ d, v - u = d := ⟨_, rfl⟩
  rw [hdd] at HSUB HRS hd
  have HDF := Lib.hid hd
  clear hdd hd
  have HY0 := Lib.hid hz
  have HY1 := Lib.hid hy
  have HV := Lib.hid hv
  have HU := Lib.hid hu
  clear hz hy ev eu hv hu hcmp hc
  obtain ⟨n, hn⟩ : ∃ n, zs.length = n := ⟨_, rfl⟩
  obtain ⟨n', hn'⟩ : ∃ n', ys.length = n' := ⟨_, rfl⟩
  rw [hn] at HY0 HM0 h1 ⊢
  rw [hn'] at HY1 HM1 h2 ⊢
  clear hn hn'
  go_enter Try.func6, Try.ntmps6
  go_wp2_with fail
  refine (HM0.out _ HY0.out).mono ?_
  rintro e w1 ⟨tv, rfl, ht, hb⟩
  have HTv1 := Lib.hid ht
  have HB1 := Lib.hid hb
  clear ht hb
  go_wp2_with fail
  refine (HM1.out _ (HY1.out.kept (HB1.out.trans ((bel_st w1 v).mono HB1.out.size)))).mono ?_
  rintro e w2 ⟨tu, rfl, ht, hb⟩
  obtain ⟨hV, hk, hB⟩ := stored hb
  have HTv2 := Lib.hid ((HTv1.out.kept (bel_st w1 v)).kept hb)
  have HTu2 := Lib.hid ht
  have HB2 := Lib.hid (HB1.out.trans (hB.mono HB1.out.size))
  have lV := rowN_lt hV
  clear ht hb hk hB HTv1 HB1
  generalize w1.heap.size = b1 at *
  go_wp2_with fail
  have hVd : rowN ((w2.alloc (.cells (natA 0) 28)).setRow w2.heap.size (natA u)).drew b1 = some (natA v) := by rw [rowN_drew]; exact row_st_other _ _ _ _ hV
  have hUd : rowN ((w2.alloc (.cells (natA 0) 28)).setRow w2.heap.size (natA u)).drew w2.heap.size = some (natA u) := by rw [rowN_drew]; exact row_st _ _
  have HBd := Lib.hid (HB2.out.trans ((bel_st w2 u).drew.mono HB2.out.size))
  have HTvd := Lib.hid (HTv2.out.kept (bel_st w2 u).drew)
  have HTud := Lib.hid (HTu2.out.kept (bel_st w2 u).drew)
  have heq := HE.out
  go_region_held3 (fun W => rowN W b1 = some (natA v) ∧ rowN W w2.heap.size = some (natA u) ∧ Below w.heap.size w W) (first | exact ⟨hV3, hU3, HB3.out⟩ | exact ⟨hVd, hUd, HBd.out⟩) (first
    | (go_at_call 31; refine (HC1.out _).mono ?_; rintro e w4 ⟨rfl, hb⟩; have hV3 := kept hb _ _ hVd; have hU3 := kept hb _ _ hUd; have HTv3 := Lib.hid (HTvd.out.kept hb); have HTu3 := Lib.hid (HTud.out.kept hb); have HB3 := Lib.hid (HBd.out.trans (hb.mono HBd.out.size)); clear hb)
    | (go_at_call 25; refine (HRC.out tv tu _ HTv3.out HTu3.out).mono ?_; rintro e w4 ⟨rfl, hw⟩; subst hw))
  clear hVd hUd HBd HTvd HTud HTv2 HTu2 HB2 hV
  have l2 := rowN_lt hU3
  generalize w2.heap.size = b2 at *
  go_wp2_with fail
  refine (HADD.out _).mono ?_
  rintro e w5 ⟨rfl, hb⟩
  have hV5 := kept hb _ _ hV3
  have hU5 := kept hb _ _ hU3
  have HTv5 := Lib.hid (HTv3.out.kept hb)
  have HTu5 := Lib.hid (HTu3.out.kept hb)
  have HB5 := Lib.hid (HB3.out.trans (hb.mono HB3.out.size))
  have lv5 := rowN_lt hV5
  have lu5 := rowN_lt hU5
  clear hb hV3 hU3 HTv3 HTu3 HB3
  go_wp2_with fail
  refine (HSUB.out _).mono ?_
  rintro e w6 ⟨rfl, hb⟩
  obtain ⟨hS6, hk, hB⟩ := stored hb
  have HTv6 := Lib.hid ((HTv5.out.kept (bel_st w5 0)).kept hb)
  have HTu6 := Lib.hid ((HTu5.out.kept (bel_st w5 0)).kept hb)
  have HB6 := Lib.hid (HB5.out.trans (hB.mono HB5.out.size))
  have lS6 := rowN_lt hS6
  clear hb hk hB hV5 hU5 HTv5 HTu5 HB5
  generalize w5.heap.size = b5 at *
  go_wp2_with fail
  refine (HRA.out tv tu _ (HTv6.out.kept (bel_st w6 d)) (HTu6.out.kept (bel_st w6 d))).mono ?_
  rintro e w7 ⟨ts, rfl, ht, hb⟩
  obtain ⟨hD7, hk, hB⟩ := stored hb
  have hS7 := hk _ _ hS6
  have HTs7 := Lib.hid ht
  have HTv7 := Lib.hid ((HTv6.out.kept (bel_st w6 d)).kept hb)
  have HTu7 := Lib.hid ((HTu6.out.kept (bel_st w6 d)).kept hb)
  have HB7 := Lib.hid (HB6.out.trans (hB.mono HB6.out.size))
  have lD7 := rowN_lt hD7
  have lS7 := rowN_lt hS7
  clear ht hb hk hB hS6 HTv6 HTu6 HB6
  generalize w6.heap.size = b6 at *
  go_wp2_with fail
  refine (fits_false sm _ ts _ HTs7.out (by omega) HF.out).mono ?_
  rintro e w8 ⟨rfl, hw⟩
  subst hw
  go_wp2_with fail
  refine (isZero_any 0 _).mono ?_
  rintro e w9 ⟨rfl, hb⟩
  rw [HZ.out]
  have hD9 := kept hb _ _ hD7
  have HTv9 := Lib.hid (HTv7.out.kept hb)
  have HTu9 := Lib.hid (HTu7.out.kept hb)
  have HB9 := Lib.hid (HB7.out.trans (hb.mono HB7.out.size))
  have lD9 := rowN_lt hD9
  clear hb hS7 hD7 HTv7 HTu7 HB7 HTs7
  go_wp2_with fail
  refine (HRC.out tv tu _ HTv9.out HTu9.out).mono ?_
  rintro e w10 ⟨rfl, hw⟩
  subst hw
  go_wp2_with fail
  have hDd : rowN w10.drew b6 = some (natA d) := by rw [rowN_drew]; exact hD9
  have HTvd := Lib.hid (HTv9.out.kept (Below.refl _ w10).drew)
  have HTud := Lib.hid (HTu9.out.kept (Below.refl _ w10).drew)
  have HBd := Lib.hid HB9.out.drew
  go_region_held3 (fun W => rowN W b6 = some (natA d) ∧ Below w.heap.size w W) (first | exact ⟨hD13, HB13.out⟩ | exact ⟨hD12, HB12.out⟩ | exact ⟨hD11, HB11.out⟩ | exact ⟨hDd, HBd.out⟩) (first
    | (go_at_call 35; refine (HRS.out tv tu _ HTvd.out HTud.out).mono ?_; rintro e w11 ⟨td, rfl, ht, hb⟩; have HTd := Lib.hid ht; have hD11 := kept hb _ _ hDd; have HB11 := Lib.hid (HBd.out.trans (hb.mono HBd.out.size)); clear ht hb)
    | (go_at_call 16; refine (same_eq d HDF.out td _ HTd.out).mono ?_; rintro e w12 ⟨rfl, hb⟩; have hD12 := kept hb _ _ hD11; have HB12 := Lib.hid (HB11.out.trans (hb.mono HB11.out.size)); clear hb)
    | (go_at_call 11; refine (known_any _).mono ?_; rintro e w13 ⟨rfl, hb⟩; have hD13 := kept hb _ _ hD12; have HB13 := Lib.hid (HB12.out.trans (hb.mono HB12.out.size)); clear hb))
  go_wp2_with fail
  go_ret
  exact ⟨rfl, HB13.out⟩

set_option maxRecDepth 100000 in
set_option maxHeartbeats 2000000 in
theorem sums_gt_fit (zs ys : List Nat) (a a' : Option Addr) (c c' : Nat) (w : World) (hz : BytesAt zs (.slice a zs.length c) w) (hy : BytesAt ys (.slice a' ys.length c') w) (h1 : zs.length ≤ 128) (h2 : ys.length ≤ 128)
    (v u : Nat) (ev : valBE 256 zs = v) (eu : valBE 256 ys = u) (hc : u < v) (hf : v + u < P64 ^ 16) :
    Calls Try.prog 6 #[.slice a zs.length c, .slice a' ys.length c'] w fun e w' => e = .returned (.bool true) ∧ Below w.heap.size w w' := by
  have hv : v < P64 ^ 16 := by rw [← ev]; exact short_fits hz.1 h1
  have hu : u < P64 ^ 16 := by rw [← eu]; exact short_fits hy.1 h2
  have HM0 := Lib.hid (fun W hW => made_fits zs (.slice a zs.length c) W hW (by omega) (by rw [ev]; exact hv))
  have HM1 := Lib.hid (fun W hW => made_fits ys (.slice a' ys.length c') W hW (by omega) (by rw [eu]; exact hu))
  rw [ev] at HM0
  rw [eu] at HM1
  have hdv := dlen16 hv
  have hdu := dlen16 hu
  have hds := dlen_sum hv hu
  have HZ := Lib.hid natEq_zero
  have hcmp : cmpN v u = 1 := by unfold cmpN; rw [if_neg (by omega), if_pos hc]
  have HC1 := Lib.hid (cmp_at v u hv hu _ hcmp)
  have HRC := Lib.hid (rcmp_at v u hv hu _ hcmp)
  have HE := Lib.hid (show natEq v u = false by rw [natEq_iff hv hu]; simp; omega)
  have HRA := Lib.hid (fun (s t : Value) (W : World) (hs : RefN v s W) (ht : RefN u t W) => radd_any v u _ _ s t W hs ht (by omega) (by omega))
  have HADD := Lib.hid (add_fits v u hv hu hf)
  obtain ⟨sm, hsm⟩ : ∃ sm, v + u = sm := ⟨_, rfl⟩
  rw [hsm] at HADD HRA hf hds
  have HF := Lib.hid hf
  clear hsm hf
  have HSUB := Lib.hid (sub_fits v u hv hu (by omega))
  have HRS := Lib.hid (fun (s t : Value) (W : World) (hs : RefN v s W) (ht : RefN u t W) => rsub_any v u _ _ s t W hs ht (by omega) (by omega))
  have hd : v - u < P64 ^ 16 := Nat.lt_of_le_of_lt (Nat.sub_le _ _) hv
  obtain ⟨d, hdd⟩ : ∃ d, v - u = d := ⟨_, rfl⟩
  rw [hdd] at HSUB HRS hd
  have HDF := Lib.hid hd
  clear hdd hd
  have HY0 := Lib.hid hz
  have HY1 := Lib.hid hy
  have HV := Lib.hid hv
  have HU := Lib.hid hu
  clear hz hy ev eu hv hu hcmp hc
  obtain ⟨n, hn⟩ : ∃ n, zs.length = n := ⟨_, rfl⟩
  obtain ⟨n', hn'⟩ : ∃ n', ys.length = n' := ⟨_, rfl⟩
  rw [hn] at HY0 HM0 h1 ⊢
  rw [hn'] at HY1 HM1 h2 ⊢
  clear hn hn'
  go_enter Try.func6, Try.ntmps6
  go_wp2_with fail
  refine (HM0.out _ HY0.out).mono ?_
  rintro e w1 ⟨tv, rfl, ht, hb⟩
  have HTv1 := Lib.hid ht
  have HB1 := Lib.hid hb
  clear ht hb
  go_wp2_with fail
  refine (HM1.out _ (HY1.out.kept (HB1.out.trans ((bel_st w1 v).mono HB1.out.size)))).mono ?_
  rintro e w2 ⟨tu, rfl, ht, hb⟩
  obtain ⟨hV, hk, hB⟩ := stored hb
  have HTv2 := Lib.hid ((HTv1.out.kept (bel_st w1 v)).kept hb)
  have HTu2 := Lib.hid ht
  have HB2 := Lib.hid (HB1.out.trans (hB.mono HB1.out.size))
  have lV := rowN_lt hV
  clear ht hb hk hB HTv1 HB1
  generalize w1.heap.size = b1 at *
  go_wp2_with fail
  have hVd : rowN ((w2.alloc (.cells (natA 0) 28)).setRow w2.heap.size (natA u)).drew b1 = some (natA v) := by rw [rowN_drew]; exact row_st_other _ _ _ _ hV
  have hUd : rowN ((w2.alloc (.cells (natA 0) 28)).setRow w2.heap.size (natA u)).drew w2.heap.size = some (natA u) := by rw [rowN_drew]; exact row_st _ _
  have HBd := Lib.hid (HB2.out.trans ((bel_st w2 u).drew.mono HB2.out.size))
  have HTvd := Lib.hid (HTv2.out.kept (bel_st w2 u).drew)
  have HTud := Lib.hid (HTu2.out.kept (bel_st w2 u).drew)
  have heq := HE.out
  go_region_held3 (fun W => rowN W b1 = some (natA v) ∧ rowN W w2.heap.size = some (natA u) ∧ Below w.heap.size w W) (first | exact ⟨hV3, hU3, HB3.out⟩ | exact ⟨hVd, hUd, HBd.out⟩) (first
    | (go_at_call 31; refine (HC1.out _).mono ?_; rintro e w4 ⟨rfl, hb⟩; have hV3 := kept hb _ _ hVd; have hU3 := kept hb _ _ hUd; have HTv3 := Lib.hid (HTvd.out.kept hb); have HTu3 := Lib.hid (HTud.out.kept hb); have HB3 := Lib.hid (HBd.out.trans (hb.mono HBd.out.size)); clear hb)
    | (go_at_call 25; refine (HRC.out tv tu _ HTv3.out HTu3.out).mono ?_; rintro e w4 ⟨rfl, hw⟩; subst hw))
  clear hVd hUd HBd HTvd HTud HTv2 HTu2 HB2 hV
  have l2 := rowN_lt hU3
  generalize w2.heap.size = b2 at *
  go_wp2_with fail
  refine (HADD.out _).mono ?_
  rintro e w5 ⟨rfl, hb⟩
  have hV5 := kept hb _ _ hV3
  have hU5 := kept hb _ _ hU3
  have HTv5 := Lib.hid (HTv3.out.kept hb)
  have HTu5 := Lib.hid (HTu3.out.kept hb)
  have HB5 := Lib.hid (HB3.out.trans (hb.mono HB3.out.size))
  have lv5 := rowN_lt hV5
  have lu5 := rowN_lt hU5
  clear hb hV3 hU3 HTv3 HTu3 HB3
  go_wp2_with fail
  refine (HSUB.out _).mono ?_
  rintro e w6 ⟨rfl, hb⟩
  obtain ⟨hS6, hk, hB⟩ := stored hb
  have HTv6 := Lib.hid ((HTv5.out.kept (bel_st w5 sm)).kept hb)
  have HTu6 := Lib.hid ((HTu5.out.kept (bel_st w5 sm)).kept hb)
  have HB6 := Lib.hid (HB5.out.trans (hB.mono HB5.out.size))
  have lS6 := rowN_lt hS6
  clear hb hk hB hV5 hU5 HTv5 HTu5 HB5
  generalize w5.heap.size = b5 at *
  go_wp2_with fail
  refine (HRA.out tv tu _ (HTv6.out.kept (bel_st w6 d)) (HTu6.out.kept (bel_st w6 d))).mono ?_
  rintro e w7 ⟨ts, rfl, ht, hb⟩
  obtain ⟨hD7, hk, hB⟩ := stored hb
  have hS7 := hk _ _ hS6
  have HTs7 := Lib.hid ht
  have HTv7 := Lib.hid ((HTv6.out.kept (bel_st w6 d)).kept hb)
  have HTu7 := Lib.hid ((HTu6.out.kept (bel_st w6 d)).kept hb)
  have HB7 := Lib.hid (HB6.out.trans (hB.mono HB6.out.size))
  have lD7 := rowN_lt hD7
  have lS7 := rowN_lt hS7
  clear ht hb hk hB hS6 HTv6 HTu6 HB6
  generalize w6.heap.size = b6 at *
  go_wp2_with fail
  refine (fits_true sm _ ts _ HTs7.out (by omega) HF.out).mono ?_
  rintro e w8 ⟨rfl, hw⟩
  subst hw
  go_wp2_with fail
  refine (same_eq sm HF.out ts _ HTs7.out).mono ?_
  rintro e w9 ⟨rfl, hb⟩
  have hD9 := kept hb _ _ hD7
  have HTv9 := Lib.hid (HTv7.out.kept hb)
  have HTu9 := Lib.hid (HTu7.out.kept hb)
  have HB9 := Lib.hid (HB7.out.trans (hb.mono HB7.out.size))
  have lD9 := rowN_lt hD9
  clear hb hS7 hD7 HTv7 HTu7 HB7 HTs7
  go_wp2_with fail
  refine (HRC.out tv tu _ HTv9.out HTu9.out).mono ?_
  rintro e w10 ⟨rfl, hw⟩
  subst hw
  go_wp2_with fail
  have hDd : rowN w10.drew b6 = some (natA d) := by rw [rowN_drew]; exact hD9
  have HTvd := Lib.hid (HTv9.out.kept (Below.refl _ w10).drew)
  have HTud := Lib.hid (HTu9.out.kept (Below.refl _ w10).drew)
  have HBd := Lib.hid HB9.out.drew
  go_region_held3 (fun W => rowN W b6 = some (natA d) ∧ Below w.heap.size w W) (first | exact ⟨hD13, HB13.out⟩ | exact ⟨hD12, HB12.out⟩ | exact ⟨hD11, HB11.out⟩ | exact ⟨hDd, HBd.out⟩) (first
    | (go_at_call 35; refine (HRS.out tv tu _ HTvd.out HTud.out).mono ?_; rintro e w11 ⟨td, rfl, ht, hb⟩; have HTd := Lib.hid ht; have hD11 := kept hb _ _ hDd; have HB11 := Lib.hid (HBd.out.trans (hb.mono HBd.out.size)); clear ht hb)
    | (go_at_call 16; refine (same_eq d HDF.out td _ HTd.out).mono ?_; rintro e w12 ⟨rfl, hb⟩; have hD12 := kept hb _ _ hD11; have HB12 := Lib.hid (HB11.out.trans (hb.mono HB11.out.size)); clear hb)
    | (go_at_call 11; refine (known_any _).mono ?_; rintro e w13 ⟨rfl, hb⟩; have hD13 := kept hb _ _ hD12; have HB13 := Lib.hid (HB12.out.trans (hb.mono HB12.out.size)); clear hb))
  go_wp2_with fail
  go_ret
  exact ⟨rfl, HB13.out⟩

set_option maxRecDepth 100000 in
set_option maxHeartbeats 2000000 in
theorem sums_gt_full (zs ys : List Nat) (a a' : Option Addr) (c c' : Nat) (w : World) (hz : BytesAt zs (.slice a zs.length c) w) (hy : BytesAt ys (.slice a' ys.length c') w) (h1 : zs.length ≤ 128) (h2 : ys.length ≤ 128)
    (v u : Nat) (ev : valBE 256 zs = v) (eu : valBE 256 ys = u) (hc : u < v) (hf : ¬ v + u < P64 ^ 16) :
    Calls Try.prog 6 #[.slice a zs.length c, .slice a' ys.length c'] w fun e w' => e = .returned (.bool true) ∧ Below w.heap.size w w' := by
  have hv : v < P64 ^ 16 := by rw [← ev]; exact short_fits hz.1 h1
  have hu : u < P64 ^ 16 := by rw [← eu]; exact short_fits hy.1 h2
  have HM0 := Lib.hid (fun W hW => made_fits zs (.slice a zs.length c) W hW (by omega) (by rw [ev]; exact hv))
  have HM1 := Lib.hid (fun W hW => made_fits ys (.slice a' ys.length c') W hW (by omega) (by rw [eu]; exact hu))
  rw [ev] at HM0
  rw [eu] at HM1
  have hdv := dlen16 hv
  have hdu := dlen16 hu
  have hds := dlen_sum hv hu
  have HZ := Lib.hid natEq_zero
  have hcmp : cmpN v u = 1 := by unfold cmpN; rw [if_neg (by omega), if_pos hc]
  have HC1 := Lib.hid (cmp_at v u hv hu _ hcmp)
  have HRC := Lib.hid (rcmp_at v u hv hu _ hcmp)
  have HE := Lib.hid (show natEq v u = false by rw [natEq_iff hv hu]; simp; omega)
  have HRA := Lib.hid (fun (s t : Value) (W : World) (hs : RefN v s W) (ht : RefN u t W) => radd_any v u _ _ s t W hs ht (by omega) (by omega))
  have HADD := Lib.hid (add_full v u hv hu hf)
  obtain ⟨sm, hsm⟩ : ∃ sm, v + u = sm := ⟨_, rfl⟩
  rw [hsm] at HRA hf hds
  have HF := Lib.hid hf
  clear hsm hf
  have HSUB := Lib.hid (sub_fits v u hv hu (by omega))
  have HRS := Lib.hid (fun (s t : Value) (W : World) (hs : RefN v s W) (ht : RefN u t W) => rsub_any v u _ _ s t W hs ht (by omega) (by omega))
  have hd : v - u < P64 ^ 16 := Nat.lt_of_le_of_lt (Nat.sub_le _ _) hv
  obtain ⟨d, hdd⟩ : ∃ d, v - u = d := ⟨_, rfl⟩
  rw [hdd] at HSUB HRS hd
  have HDF := Lib.hid hd
  clear hdd hd
  have HY0 := Lib.hid hz
  have HY1 := Lib.hid hy
  have HV := Lib.hid hv
  have HU := Lib.hid hu
  clear hz hy ev eu hv hu hcmp hc
  obtain ⟨n, hn⟩ : ∃ n, zs.length = n := ⟨_, rfl⟩
  obtain ⟨n', hn'⟩ : ∃ n', ys.length = n' := ⟨_, rfl⟩
  rw [hn] at HY0 HM0 h1 ⊢
  rw [hn'] at HY1 HM1 h2 ⊢
  clear hn hn'
  go_enter Try.func6, Try.ntmps6
  go_wp2_with fail
  refine (HM0.out _ HY0.out).mono ?_
  rintro e w1 ⟨tv, rfl, ht, hb⟩
  have HTv1 := Lib.hid ht
  have HB1 := Lib.hid hb
  clear ht hb
  go_wp2_with fail
  refine (HM1.out _ (HY1.out.kept (HB1.out.trans ((bel_st w1 v).mono HB1.out.size)))).mono ?_
  rintro e w2 ⟨tu, rfl, ht, hb⟩
  obtain ⟨hV, hk, hB⟩ := stored hb
  have HTv2 := Lib.hid ((HTv1.out.kept (bel_st w1 v)).kept hb)
  have HTu2 := Lib.hid ht
  have HB2 := Lib.hid (HB1.out.trans (hB.mono HB1.out.size))
  have lV := rowN_lt hV
  clear ht hb hk hB HTv1 HB1
  generalize w1.heap.size = b1 at *
  go_wp2_with fail
  have hVd : rowN ((w2.alloc (.cells (natA 0) 28)).setRow w2.heap.size (natA u)).drew b1 = some (natA v) := by rw [rowN_drew]; exact row_st_other _ _ _ _ hV
  have hUd : rowN ((w2.alloc (.cells (natA 0) 28)).setRow w2.heap.size (natA u)).drew w2.heap.size = some (natA u) := by rw [rowN_drew]; exact row_st _ _
  have HBd := Lib.hid (HB2.out.trans ((bel_st w2 u).drew.mono HB2.out.size))
  have HTvd := Lib.hid (HTv2.out.kept (bel_st w2 u).drew)
  have HTud := Lib.hid (HTu2.out.kept (bel_st w2 u).drew)
  have heq := HE.out
  go_region_held3 (fun W => rowN W b1 = some (natA v) ∧ rowN W w2.heap.size = some (natA u) ∧ Below w.heap.size w W) (first | exact ⟨hV3, hU3, HB3.out⟩ | exact ⟨hVd, hUd, HBd.out⟩) (first
    | (go_at_call 31; refine (HC1.out _).mono ?_; rintro e w4 ⟨rfl, hb⟩; have hV3 := kept hb _ _ hVd; have hU3 := kept hb _ _ hUd; have HTv3 := Lib.hid (HTvd.out.kept hb); have HTu3 := Lib.hid (HTud.out.kept hb); have HB3 := Lib.hid (HBd.out.trans (hb.mono HBd.out.size)); clear hb)
    | (go_at_call 25; refine (HRC.out tv tu _ HTv3.out HTu3.out).mono ?_; rintro e w4 ⟨rfl, hw⟩; subst hw))
  clear hVd hUd HBd HTvd HTud HTv2 HTu2 HB2 hV
  have l2 := rowN_lt hU3
  generalize w2.heap.size = b2 at *
  go_wp2_with fail
  refine (HADD.out _).mono ?_
  rintro e w5 ⟨rfl, hb⟩
  have hV5 := kept hb _ _ hV3
  have hU5 := kept hb _ _ hU3
  have HTv5 := Lib.hid (HTv3.out.kept hb)
  have HTu5 := Lib.hid (HTu3.out.kept hb)
  have HB5 := Lib.hid (HB3.out.trans (hb.mono HB3.out.size))
  have lv5 := rowN_lt hV5
  have lu5 := rowN_lt hU5
  clear hb hV3 hU3 HTv3 HTu3 HB3
  go_wp2_with fail
  refine (HSUB.out _).mono ?_
  rintro e w6 ⟨rfl, hb⟩
  obtain ⟨hS6, hk, hB⟩ := stored hb
  have HTv6 := Lib.hid ((HTv5.out.kept (bel_st w5 0)).kept hb)
  have HTu6 := Lib.hid ((HTu5.out.kept (bel_st w5 0)).kept hb)
  have HB6 := Lib.hid (HB5.out.trans (hB.mono HB5.out.size))
  have lS6 := rowN_lt hS6
  clear hb hk hB hV5 hU5 HTv5 HTu5 HB5
  generalize w5.heap.size = b5 at *
  go_wp2_with fail
  refine (HRA.out tv tu _ (HTv6.out.kept (bel_st w6 d)) (HTu6.out.kept (bel_st w6 d))).mono ?_
  rintro e w7 ⟨ts, rfl, ht, hb⟩
  obtain ⟨hD7, hk, hB⟩ := stored hb
  have hS7 := hk _ _ hS6
  have HTs7 := Lib.hid ht
  have HTv7 := Lib.hid ((HTv6.out.kept (bel_st w6 d)).kept hb)
  have HTu7 := Lib.hid ((HTu6.out.kept (bel_st w6 d)).kept hb)
  have HB7 := Lib.hid (HB6.out.trans (hB.mono HB6.out.size))
  have lD7 := rowN_lt hD7
  have lS7 := rowN_lt hS7
  clear ht hb hk hB hS6 HTv6 HTu6 HB6
  generalize w6.heap.size = b6 at *
  go_wp2_with fail
  refine (fits_false sm _ ts _ HTs7.out (by omega) HF.out).mono ?_
  rintro e w8 ⟨rfl, hw⟩
  subst hw
  go_wp2_with fail
  refine (isZero_any 0 _).mono ?_
  rintro e w9 ⟨rfl, hb⟩
  rw [HZ.out]
  have hD9 := kept hb _ _ hD7
  have HTv9 := Lib.hid (HTv7.out.kept hb)
  have HTu9 := Lib.hid (HTu7.out.kept hb)
  have HB9 := Lib.hid (HB7.out.trans (hb.mono HB7.out.size))
  have lD9 := rowN_lt hD9
  clear hb hS7 hD7 HTv7 HTu7 HB7 HTs7
  go_wp2_with fail
  refine (HRC.out tv tu _ HTv9.out HTu9.out).mono ?_
  rintro e w10 ⟨rfl, hw⟩
  subst hw
  go_wp2_with fail
  have hDd : rowN w10.drew b6 = some (natA d) := by rw [rowN_drew]; exact hD9
  have HTvd := Lib.hid (HTv9.out.kept (Below.refl _ w10).drew)
  have HTud := Lib.hid (HTu9.out.kept (Below.refl _ w10).drew)
  have HBd := Lib.hid HB9.out.drew
  go_region_held3 (fun W => rowN W b6 = some (natA d) ∧ Below w.heap.size w W) (first | exact ⟨hD13, HB13.out⟩ | exact ⟨hD12, HB12.out⟩ | exact ⟨hD11, HB11.out⟩ | exact ⟨hDd, HBd.out⟩) (first
    | (go_at_call 35; refine (HRS.out tv tu _ HTvd.out HTud.out).mono ?_; rintro e w11 ⟨td, rfl, ht, hb⟩; have HTd := Lib.hid ht; have hD11 := kept hb _ _ hDd; have HB11 := Lib.hid (HBd.out.trans (hb.mono HBd.out.size)); clear ht hb)
    | (go_at_call 16; refine (same_eq d HDF.out td _ HTd.out).mono ?_; rintro e w12 ⟨rfl, hb⟩; have hD12 := kept hb _ _ hD11; have HB12 := Lib.hid (HB11.out.trans (hb.mono HB11.out.size)); clear hb)
    | (go_at_call 11; refine (known_any _).mono ?_; rintro e w13 ⟨rfl, hb⟩; have hD13 := kept hb _ _ hD12; have HB13 := Lib.hid (HB12.out.trans (hb.mono HB12.out.size)); clear hb))
  go_wp2_with fail
  go_ret
  exact ⟨rfl, HB13.out⟩
end Go.Proofs.Ytkegdjndmeialaa
