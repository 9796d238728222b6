/- NatInts, walked. -/
import Derived.Test.YtkegdjndmeialaaF1
import Derived.Test.YtkegdjndmeialaaM2
import Derived.Test.YtkegdjndmeialaaR5
namespace Go.Proofs.Ytkegdjndmeialaa
open Go.RowKit

theorem bel_stored (w1 : World) (x : Nat) : Below w1.heap.size w1 ((w1.alloc (.cells (natA 0) 28)).setRow w1.heap.size (natA x)) := below_setRow' ((Below.refl _ _).alloc (Nat.le_refl _) _) (Nat.le_refl _) _
theorem row_stored (w1 : World) (x : Nat) : rowN ((w1.alloc (.cells (natA 0) 28)).setRow w1.heap.size (natA x)) w1.heap.size = some (natA x) := by
  rw [rowN_setRow, if_pos rfl, rowN_alloc, if_pos rfl]; rfl
theorem size_stored (w1 : World) (x : Nat) : ((w1.alloc (.cells (natA 0) 28)).setRow w1.heap.size (natA x)).heap.size = w1.heap.size + 1 := by simp [World.setRow]
theorem big62 : (4611686018427387904 : Nat) < P64 ^ 16 := small_lt (p64_lt (by omega))

/-- The walk as far as the length of the bytes, and on. -/
theorem cmp_pos {v u : Nat} (h : u < v) : cmpN v u = 1 := by unfold cmpN; rw [if_neg (by omega), if_pos h]
theorem cmp_not {v u : Nat} (h : ¬ u < v) : cmpN v u = 0 ∨ cmpN v u = -1 := by
  unfold cmpN
  by_cases h1 : v < u
  · rw [if_pos h1]; exact .inr rfl
  · rw [if_neg h1, if_neg h]; exact .inl rfl
theorem cmp_same (v : Nat) : cmpN v v = 0 := by unfold cmpN; rw [if_neg (by omega), if_neg (by omega)]
theorem rof_at (n : Nat) (x : Int) (hx : x = n) (hn : n ≤ 9223372036854775807) (w : World) : Calls Try.prog 22 #[.int .i64 x] w fun e w' => ∃ s, e = .returned s ∧ RefN n s w' ∧ Below w.heap.size w w' := by
  subst hx
  exact rof_any n hn w

set_option maxRecDepth 100000 in
set_option maxHeartbeats 1000000 in
theorem ints_neg_long (x : Int) (hx : x < 0) (zs : List Nat) (a : Option Addr) (c : Nat) (w : World) (h : BytesAt zs (.slice a zs.length c) w) (hlen : 200 < zs.length) :
    Calls Try.prog 4 #[.int .i64 x, .slice a zs.length c] w fun e w' => e = .returned (.bool true) ∧ Below w.heap.size w w' := by
  obtain ⟨n, hzn⟩ : ∃ n, zs.length = n := ⟨_, rfl⟩
  have HBy := Lib.hid h
  have HZN := Lib.hid hzn
  rw [hzn] at HBy hlen ⊢
  clear h hzn
  have HZ := Lib.hid natEq_zero
  go_enter Try.func4, Try.ntmps4
  go_wp2_with fail
  refine (fromInt_neg x _ hx).mono ?_
  rintro e w1 ⟨rfl, hb⟩
  have HB1 := Lib.hid hb
  clear hb
  go_wp2_with fail
  refine (isZero_any 0 _).mono ?_
  rintro e wA ⟨rfl, hb⟩
  rw [HZ.out]
  have HBA := Lib.hid (HB1.out.trans (((bel_stored w1 0).trans (hb.mono (by rw [size_stored]; omega))).mono HB1.out.size))
  clear hb
  go_wp2_with fail
  refine (known_any _).mono ?_
  rintro e wK ⟨rfl, hb⟩
  have HBK := Lib.hid (HBA.out.trans (hb.mono HBA.out.size))
  clear hb
  go_wp2_with fail
  go_ret
  exact ⟨rfl, HBK.out⟩

set_option maxRecDepth 100000 in
set_option maxHeartbeats 1000000 in
theorem ints_neg_full (x : Int) (hx : x < 0) (zs : List Nat) (a : Option Addr) (c : Nat) (w : World) (h : BytesAt zs (.slice a zs.length c) w) (hlen : zs.length ≤ 200) (hf : ¬ valBE 256 zs < P64 ^ 16) :
    Calls Try.prog 4 #[.int .i64 x, .slice a zs.length c] w fun e w' => e = .returned (.bool true) ∧ Below w.heap.size w w' := by
  have HF := Lib.hid hf
  have HMD := Lib.hid (fun W hW => made_full zs (.slice a zs.length c) W hW (by omega) hf)
  have hd := dlen_bytes h.1 (by omega)
  obtain ⟨n, hzn⟩ : ∃ n, zs.length = n := ⟨_, rfl⟩
  have HBy := Lib.hid h
  have HZN := Lib.hid hzn
  rw [hzn] at HBy hlen HMD ⊢
  clear h hzn hf
  have HZ := Lib.hid natEq_zero
  go_enter Try.func4, Try.ntmps4
  go_wp2_with fail
  refine (fromInt_neg x _ hx).mono ?_
  rintro e w1 ⟨rfl, hb⟩
  have HB1 := Lib.hid hb
  clear hb
  go_wp2_with fail
  refine (isZero_any 0 _).mono ?_
  rintro e wA ⟨rfl, hb⟩
  rw [HZ.out]
  have HBA := Lib.hid (HB1.out.trans (((bel_stored w1 0).trans (hb.mono (by rw [size_stored]; omega))).mono HB1.out.size))
  clear hb
  go_wp2_with fail
  refine (HMD.out _ (HBy.out.kept HBA.out)).mono ?_
  rintro e w5 ⟨t5, rfl, ht, hb⟩
  have HT5 := Lib.hid ht
  have HB5 := Lib.hid (HBA.out.trans (hb.mono HBA.out.size))
  clear ht hb
  go_wp2_with fail
  refine (fits_false _ _ t5 _ (HT5.out.kept (bel_stored w5 0)) (by omega) HF.out).mono ?_
  rintro e w6 ⟨rfl, hw⟩
  subst hw
  go_wp2_with fail
  have HB6 := Lib.hid (HB5.out.trans ((bel_stored w5 0).mono HB5.out.size))
  refine (known_any _).mono ?_
  rintro e wK ⟨rfl, hb⟩
  have HBK := Lib.hid (HB6.out.trans (hb.mono HB6.out.size))
  clear hb
  go_wp2_with fail
  go_ret
  exact ⟨rfl, HBK.out⟩

set_option maxRecDepth 100000 in
set_option maxHeartbeats 1000000 in
theorem ints_neg_big (x : Int) (hx : x < 0) (zs : List Nat) (a : Option Addr) (c : Nat) (w : World) (h : BytesAt zs (.slice a zs.length c) w) (hlen : zs.length ≤ 200) (hf : valBE 256 zs < P64 ^ 16) (hv : 4611686018427387904 < valBE 256 zs) :
    Calls Try.prog 4 #[.int .i64 x, .slice a zs.length c] w fun e w' => e = .returned (.bool true) ∧ Below w.heap.size w w' := by
  have HF := Lib.hid hf
  have HMD := Lib.hid (fun W hW => made_fits zs (.slice a zs.length c) W hW (by omega) hf)
  have hd := dlen16 hf
  have HIN := Lib.hid (int_big (valBE 256 zs) hf hv)
  have HCM := Lib.hid (cmp_pos hv)
  obtain ⟨n, hzn⟩ : ∃ n, zs.length = n := ⟨_, rfl⟩
  have HBy := Lib.hid h
  have HZN := Lib.hid hzn
  rw [hzn] at HBy hlen HMD ⊢
  clear h hzn hf
  have HZ := Lib.hid natEq_zero
  go_enter Try.func4, Try.ntmps4
  go_wp2_with fail
  refine (fromInt_neg x _ hx).mono ?_
  rintro e w1 ⟨rfl, hb⟩
  have HB1 := Lib.hid hb
  clear hb
  go_wp2_with fail
  refine (isZero_any 0 _).mono ?_
  rintro e wA ⟨rfl, hb⟩
  rw [HZ.out]
  have HBA := Lib.hid (HB1.out.trans (((bel_stored w1 0).trans (hb.mono (by rw [size_stored]; omega))).mono HB1.out.size))
  clear hb
  go_wp2_with fail
  refine (HMD.out _ (HBy.out.kept HBA.out)).mono ?_
  rintro e w5 ⟨t5, rfl, ht, hb⟩
  have HT5 := Lib.hid ht
  have HB5 := Lib.hid (HBA.out.trans (hb.mono HBA.out.size))
  clear ht hb
  generalize valBE 256 zs = v at *
  go_wp2_with fail
  refine (HIN.out _).mono ?_
  rintro e w6 ⟨rfl, hb⟩
  have HB6 := Lib.hid (HB5.out.trans (((bel_stored w5 v).trans (hb.mono (by rw [size_stored]; omega))).mono HB5.out.size))
  have HT6 := Lib.hid ((HT5.out.kept (bel_stored w5 v)).kept hb)
  clear hb
  go_wp2_with fail
  refine (rof_at 4611686018427387904 4611686018427387904 rfl (by omega) _).mono ?_
  rintro e w7 ⟨t7, rfl, ht, hb⟩
  have HB7 := Lib.hid (HB6.out.trans (hb.mono HB6.out.size))
  have HT7 := Lib.hid (HT6.out.kept hb)
  have HU7 := Lib.hid ht
  clear ht hb
  go_wp2_with fail
  refine (rcompare_any v _ _ _ t5 t7 _ HT7.out HU7.out (by omega) (by have := dlen16 big62; omega)).mono ?_
  rintro e w8 ⟨rfl, hw⟩
  subst hw
  rw [HCM.out]
  go_wp2_with fail
  refine (known_any _).mono ?_
  rintro e wK ⟨rfl, hb⟩
  have HBK := Lib.hid (HB7.out.trans (hb.mono HB7.out.size))
  clear hb
  go_wp2_with fail
  go_ret
  exact ⟨rfl, HBK.out⟩

set_option maxRecDepth 100000 in
set_option maxHeartbeats 1000000 in
theorem ints_neg_small (x : Int) (hx : x < 0) (zs : List Nat) (a : Option Addr) (c : Nat) (w : World) (h : BytesAt zs (.slice a zs.length c) w) (hlen : zs.length ≤ 200) (hf : valBE 256 zs < P64 ^ 16) (hv : ¬ 4611686018427387904 < valBE 256 zs) :
    Calls Try.prog 4 #[.int .i64 x, .slice a zs.length c] w fun e w' => e = .returned (.bool true) ∧ Below w.heap.size w w' := by
  have HF := Lib.hid hf
  have HMD := Lib.hid (fun W hW => made_fits zs (.slice a zs.length c) W hW (by omega) hf)
  have hd := dlen16 hf
  have HIN := Lib.hid (int_small (valBE 256 zs) (by omega))
  have HCM := Lib.hid (cmp_not hv)
  have HCS := Lib.hid (cmp_same (valBE 256 zs))
  obtain ⟨n, hzn⟩ : ∃ n, zs.length = n := ⟨_, rfl⟩
  have HBy := Lib.hid h
  have HZN := Lib.hid hzn
  rw [hzn] at HBy hlen HMD ⊢
  clear h hzn hf
  have HZ := Lib.hid natEq_zero
  go_enter Try.func4, Try.ntmps4
  go_wp2_with fail
  refine (fromInt_neg x _ hx).mono ?_
  rintro e w1 ⟨rfl, hb⟩
  have HB1 := Lib.hid hb
  clear hb
  go_wp2_with fail
  refine (isZero_any 0 _).mono ?_
  rintro e wA ⟨rfl, hb⟩
  rw [HZ.out]
  have HBA := Lib.hid (HB1.out.trans (((bel_stored w1 0).trans (hb.mono (by rw [size_stored]; omega))).mono HB1.out.size))
  clear hb
  go_wp2_with fail
  refine (HMD.out _ (HBy.out.kept HBA.out)).mono ?_
  rintro e w5 ⟨t5, rfl, ht, hb⟩
  have HT5 := Lib.hid ht
  have HB5 := Lib.hid (HBA.out.trans (hb.mono HBA.out.size))
  clear ht hb
  generalize valBE 256 zs = v at *
  go_wp2_with fail
  refine (HIN.out _).mono ?_
  rintro e w6 ⟨rfl, hb⟩
  have HB6 := Lib.hid (HB5.out.trans (((bel_stored w5 v).trans (hb.mono (by rw [size_stored]; omega))).mono HB5.out.size))
  have HT6 := Lib.hid ((HT5.out.kept (bel_stored w5 v)).kept hb)
  clear hb
  go_wp2_with fail
  refine (rof_at 4611686018427387904 4611686018427387904 rfl (by omega) _).mono ?_
  rintro e w7 ⟨t7, rfl, ht, hb⟩
  have HB7 := Lib.hid (HB6.out.trans (hb.mono HB6.out.size))
  have HT7 := Lib.hid (HT6.out.kept hb)
  have HU7 := Lib.hid ht
  clear ht hb
  go_wp2_with fail
  refine (rcompare_any v _ _ _ t5 t7 _ HT7.out HU7.out (by omega) (by have := dlen16 big62; omega)).mono ?_
  rintro e w8 ⟨rfl, hw⟩
  subst hw
  rcases HCM.out with hcm | hcm
  all_goals
    rw [hcm]
    go_wp2_with fail
    refine (rof_at v v rfl (by omega) _).mono ?_
    rintro e w9 ⟨t9, rfl, ht, hb⟩
    have HB9 := Lib.hid (HB7.out.trans (hb.mono HB7.out.size))
    have HT9 := Lib.hid (HT7.out.kept hb)
    have HU9 := Lib.hid ht
    clear ht hb
    go_wp2_with fail
    refine (rcompare_any v v _ _ t5 t9 _ HT9.out HU9.out (by omega) (by omega)).mono ?_
    rintro e w10 ⟨rfl, hw⟩
    subst hw
    rw [HCS.out]
    go_wp2_with fail
    refine (known_any _).mono ?_
    rintro e wK ⟨rfl, hb⟩
    have HBK := Lib.hid (HB9.out.trans (hb.mono HB9.out.size))
    clear hb
    go_wp2_with fail
    go_ret
    exact ⟨rfl, HBK.out⟩

set_option maxRecDepth 100000 in
set_option maxHeartbeats 1000000 in
theorem ints_pos_long (x : Int) (hx : 0 ≤ x) (hx1 : x ≤ 9223372036854775807) (zs : List Nat) (a : Option Addr) (c : Nat) (w : World) (h : BytesAt zs (.slice a zs.length c) w) (hlen : 200 < zs.length) :
    Calls Try.prog 4 #[.int .i64 x, .slice a zs.length c] w fun e w' => e = .returned (.bool true) ∧ Below w.heap.size w w' := by
  obtain ⟨n, hzn⟩ : ∃ n, zs.length = n := ⟨_, rfl⟩
  have HBy := Lib.hid h
  have HZN := Lib.hid hzn
  rw [hzn] at HBy hlen ⊢
  clear h hzn
  obtain ⟨m, rfl⟩ := Int.eq_ofNat_of_zero_le hx
  have hm : m < P64 ^ 16 := small_lt (p64_lt (by omega))
  have HM := Lib.hid hm
  have HI := Lib.hid (fun W => known_int m (m : Nat) rfl (by omega) W)
  have HO := Lib.hid (rof_any m (by omega))
  clear hm
  go_enter Try.func4, Try.ntmps4
  go_wp2_with fail
  refine (HI.out _).mono ?_
  rintro e w1 ⟨rfl, hb⟩
  have HB1 := Lib.hid hb
  clear hb
  go_wp2_with fail
  have hVd : rowN ((w1.alloc (.cells (natA 0) 28)).setRow w1.heap.size (natA m)).drew w1.heap.size = some (natA m) := by rw [rowN_drew]; exact row_stored w1 m
  have HBd := Lib.hid (HB1.out.trans (((bel_stored w1 m).drew).mono HB1.out.size))
  go_region_held3 (fun W => rowN W w1.heap.size = some (natA m) ∧ Below w.heap.size w W) (first | exact ⟨hV3, HB3.out⟩ | exact ⟨hV2, HB2.out⟩ | exact ⟨hVd, HBd.out⟩) (first
    | (go_at_call 22; refine (HO.out _).mono ?_; rintro e w2 ⟨t, rfl, ht, hb⟩; have HT2 := Lib.hid ht; have hV2 := kept hb _ _ hVd; have HB2 := Lib.hid (HBd.out.trans (hb.mono HBd.out.size)); clear ht hb)
    | (go_at_call 16; refine (same_eq m HM.out t _ HT2.out).mono ?_; rintro e wA ⟨rfl, hb⟩; have hV3 := kept hb _ _ hV2; have HB3 := Lib.hid (HB2.out.trans (hb.mono HB2.out.size)); clear hb))
  have HBA := HB3
  clear hVd hV2 hV3
  go_wp2_with fail
  refine (known_any _).mono ?_
  rintro e wK ⟨rfl, hb⟩
  have HBK := Lib.hid (HBA.out.trans (hb.mono HBA.out.size))
  clear hb
  go_wp2_with fail
  go_ret
  exact ⟨rfl, HBK.out⟩

set_option maxRecDepth 100000 in
set_option maxHeartbeats 1000000 in
theorem ints_pos_full (x : Int) (hx : 0 ≤ x) (hx1 : x ≤ 9223372036854775807) (zs : List Nat) (a : Option Addr) (c : Nat) (w : World) (h : BytesAt zs (.slice a zs.length c) w) (hlen : zs.length ≤ 200) (hf : ¬ valBE 256 zs < P64 ^ 16) :
    Calls Try.prog 4 #[.int .i64 x, .slice a zs.length c] w fun e w' => e = .returned (.bool true) ∧ Below w.heap.size w w' := by
  have HF := Lib.hid hf
  have HMD := Lib.hid (fun W hW => made_full zs (.slice a zs.length c) W hW (by omega) hf)
  have hd := dlen_bytes h.1 (by omega)
  obtain ⟨n, hzn⟩ : ∃ n, zs.length = n := ⟨_, rfl⟩
  have HBy := Lib.hid h
  have HZN := Lib.hid hzn
  rw [hzn] at HBy hlen HMD ⊢
  clear h hzn hf
  obtain ⟨m, rfl⟩ := Int.eq_ofNat_of_zero_le hx
  have hm : m < P64 ^ 16 := small_lt (p64_lt (by omega))
  have HM := Lib.hid hm
  have HI := Lib.hid (fun W => known_int m (m : Nat) rfl (by omega) W)
  have HO := Lib.hid (rof_any m (by omega))
  clear hm
  go_enter Try.func4, Try.ntmps4
  go_wp2_with fail
  refine (HI.out _).mono ?_
  rintro e w1 ⟨rfl, hb⟩
  have HB1 := Lib.hid hb
  clear hb
  go_wp2_with fail
  have hVd : rowN ((w1.alloc (.cells (natA 0) 28)).setRow w1.heap.size (natA m)).drew w1.heap.size = some (natA m) := by rw [rowN_drew]; exact row_stored w1 m
  have HBd := Lib.hid (HB1.out.trans (((bel_stored w1 m).drew).mono HB1.out.size))
  go_region_held3 (fun W => rowN W w1.heap.size = some (natA m) ∧ Below w.heap.size w W) (first | exact ⟨hV3, HB3.out⟩ | exact ⟨hV2, HB2.out⟩ | exact ⟨hVd, HBd.out⟩) (first
    | (go_at_call 22; refine (HO.out _).mono ?_; rintro e w2 ⟨t, rfl, ht, hb⟩; have HT2 := Lib.hid ht; have hV2 := kept hb _ _ hVd; have HB2 := Lib.hid (HBd.out.trans (hb.mono HBd.out.size)); clear ht hb)
    | (go_at_call 16; refine (same_eq m HM.out t _ HT2.out).mono ?_; rintro e wA ⟨rfl, hb⟩; have hV3 := kept hb _ _ hV2; have HB3 := Lib.hid (HB2.out.trans (hb.mono HB2.out.size)); clear hb))
  have HBA := HB3
  clear hVd hV2 hV3
  go_wp2_with fail
  refine (HMD.out _ (HBy.out.kept HBA.out)).mono ?_
  rintro e w5 ⟨t5, rfl, ht, hb⟩
  have HT5 := Lib.hid ht
  have HB5 := Lib.hid (HBA.out.trans (hb.mono HBA.out.size))
  clear ht hb
  go_wp2_with fail
  refine (fits_false _ _ t5 _ (HT5.out.kept (bel_stored w5 0)) (by omega) HF.out).mono ?_
  rintro e w6 ⟨rfl, hw⟩
  subst hw
  go_wp2_with fail
  have HB6 := Lib.hid (HB5.out.trans ((bel_stored w5 0).mono HB5.out.size))
  refine (known_any _).mono ?_
  rintro e wK ⟨rfl, hb⟩
  have HBK := Lib.hid (HB6.out.trans (hb.mono HB6.out.size))
  clear hb
  go_wp2_with fail
  go_ret
  exact ⟨rfl, HBK.out⟩

set_option maxRecDepth 100000 in
set_option maxHeartbeats 1000000 in
theorem ints_pos_big (x : Int) (hx : 0 ≤ x) (hx1 : x ≤ 9223372036854775807) (zs : List Nat) (a : Option Addr) (c : Nat) (w : World) (h : BytesAt zs (.slice a zs.length c) w) (hlen : zs.length ≤ 200) (hf : valBE 256 zs < P64 ^ 16) (hv : 4611686018427387904 < valBE 256 zs) :
    Calls Try.prog 4 #[.int .i64 x, .slice a zs.length c] w fun e w' => e = .returned (.bool true) ∧ Below w.heap.size w w' := by
  have HF := Lib.hid hf
  have HMD := Lib.hid (fun W hW => made_fits zs (.slice a zs.length c) W hW (by omega) hf)
  have hd := dlen16 hf
  have HIN := Lib.hid (int_big (valBE 256 zs) hf hv)
  have HCM := Lib.hid (cmp_pos hv)
  obtain ⟨n, hzn⟩ : ∃ n, zs.length = n := ⟨_, rfl⟩
  have HBy := Lib.hid h
  have HZN := Lib.hid hzn
  rw [hzn] at HBy hlen HMD ⊢
  clear h hzn hf
  obtain ⟨m, rfl⟩ := Int.eq_ofNat_of_zero_le hx
  have hm : m < P64 ^ 16 := small_lt (p64_lt (by omega))
  have HM := Lib.hid hm
  have HI := Lib.hid (fun W => known_int m (m : Nat) rfl (by omega) W)
  have HO := Lib.hid (rof_any m (by omega))
  clear hm
  go_enter Try.func4, Try.ntmps4
  go_wp2_with fail
  refine (HI.out _).mono ?_
  rintro e w1 ⟨rfl, hb⟩
  have HB1 := Lib.hid hb
  clear hb
  go_wp2_with fail
  have hVd : rowN ((w1.alloc (.cells (natA 0) 28)).setRow w1.heap.size (natA m)).drew w1.heap.size = some (natA m) := by rw [rowN_drew]; exact row_stored w1 m
  have HBd := Lib.hid (HB1.out.trans (((bel_stored w1 m).drew).mono HB1.out.size))
  go_region_held3 (fun W => rowN W w1.heap.size = some (natA m) ∧ Below w.heap.size w W) (first | exact ⟨hV3, HB3.out⟩ | exact ⟨hV2, HB2.out⟩ | exact ⟨hVd, HBd.out⟩) (first
    | (go_at_call 22; refine (HO.out _).mono ?_; rintro e w2 ⟨t, rfl, ht, hb⟩; have HT2 := Lib.hid ht; have hV2 := kept hb _ _ hVd; have HB2 := Lib.hid (HBd.out.trans (hb.mono HBd.out.size)); clear ht hb)
    | (go_at_call 16; refine (same_eq m HM.out t _ HT2.out).mono ?_; rintro e wA ⟨rfl, hb⟩; have hV3 := kept hb _ _ hV2; have HB3 := Lib.hid (HB2.out.trans (hb.mono HB2.out.size)); clear hb))
  have HBA := HB3
  clear hVd hV2 hV3
  go_wp2_with fail
  refine (HMD.out _ (HBy.out.kept HBA.out)).mono ?_
  rintro e w5 ⟨t5, rfl, ht, hb⟩
  have HT5 := Lib.hid ht
  have HB5 := Lib.hid (HBA.out.trans (hb.mono HBA.out.size))
  clear ht hb
  generalize valBE 256 zs = v at *
  go_wp2_with fail
  refine (HIN.out _).mono ?_
  rintro e w6 ⟨rfl, hb⟩
  have HB6 := Lib.hid (HB5.out.trans (((bel_stored w5 v).trans (hb.mono (by rw [size_stored]; omega))).mono HB5.out.size))
  have HT6 := Lib.hid ((HT5.out.kept (bel_stored w5 v)).kept hb)
  clear hb
  go_wp2_with fail
  refine (rof_at 4611686018427387904 4611686018427387904 rfl (by omega) _).mono ?_
  rintro e w7 ⟨t7, rfl, ht, hb⟩
  have HB7 := Lib.hid (HB6.out.trans (hb.mono HB6.out.size))
  have HT7 := Lib.hid (HT6.out.kept hb)
  have HU7 := Lib.hid ht
  clear ht hb
  go_wp2_with fail
  refine (rcompare_any v _ _ _ t5 t7 _ HT7.out HU7.out (by omega) (by have := dlen16 big62; omega)).mono ?_
  rintro e w8 ⟨rfl, hw⟩
  subst hw
  rw [HCM.out]
  go_wp2_with fail
  refine (known_any _).mono ?_
  rintro e wK ⟨rfl, hb⟩
  have HBK := Lib.hid (HB7.out.trans (hb.mono HB7.out.size))
  clear hb
  go_wp2_with fail
  go_ret
  exact ⟨rfl, HBK.out⟩

set_option maxRecDepth 100000 in
set_option maxHeartbeats 1000000 in
theorem ints_pos_small (x : Int) (hx : 0 ≤ x) (hx1 : x ≤ 9223372036854775807) (zs : List Nat) (a : Option Addr) (c : Nat) (w : World) (h : BytesAt zs (.slice a zs.length c) w) (hlen : zs.length ≤ 200) (hf : valBE 256 zs < P64 ^ 16) (hv : ¬ 4611686018427387904 < valBE 256 zs) :
    Calls Try.prog 4 #[.int .i64 x, .slice a zs.length c] w fun e w' => e = .returned (.bool true) ∧ Below w.heap.size w w' := by
  have HF := Lib.hid hf
  have HMD := Lib.hid (fun W hW => made_fits zs (.slice a zs.length c) W hW (by omega) hf)
  have hd := dlen16 hf
  have HIN := Lib.hid (int_small (valBE 256 zs) (by omega))
  have HCM := Lib.hid (cmp_not hv)
  have HCS := Lib.hid (cmp_same (valBE 256 zs))
  obtain ⟨n, hzn⟩ : ∃ n, zs.length = n := ⟨_, rfl⟩
  have HBy := Lib.hid h
  have HZN := Lib.hid hzn
  rw [hzn] at HBy hlen HMD ⊢
  clear h hzn hf
  obtain ⟨m, rfl⟩ := Int.eq_ofNat_of_zero_le hx
  have hm : m < P64 ^ 16 := small_lt (p64_lt (by omega))
  have HM := Lib.hid hm
  have HI := Lib.hid (fun W => known_int m (m : Nat) rfl (by omega) W)
  have HO := Lib.hid (rof_any m (by omega))
  clear hm
  go_enter Try.func4, Try.ntmps4
  go_wp2_with fail
  refine (HI.out _).mono ?_
  rintro e w1 ⟨rfl, hb⟩
  have HB1 := Lib.hid hb
  clear hb
  go_wp2_with fail
  have hVd : rowN ((w1.alloc (.cells (natA 0) 28)).setRow w1.heap.size (natA m)).drew w1.heap.size = some (natA m) := by rw [rowN_drew]; exact row_stored w1 m
  have HBd := Lib.hid (HB1.out.trans (((bel_stored w1 m).drew).mono HB1.out.size))
  go_region_held3 (fun W => rowN W w1.heap.size = some (natA m) ∧ Below w.heap.size w W) (first | exact ⟨hV3, HB3.out⟩ | exact ⟨hV2, HB2.out⟩ | exact ⟨hVd, HBd.out⟩) (first
    | (go_at_call 22; refine (HO.out _).mono ?_; rintro e w2 ⟨t, rfl, ht, hb⟩; have HT2 := Lib.hid ht; have hV2 := kept hb _ _ hVd; have HB2 := Lib.hid (HBd.out.trans (hb.mono HBd.out.size)); clear ht hb)
    | (go_at_call 16; refine (same_eq m HM.out t _ HT2.out).mono ?_; rintro e wA ⟨rfl, hb⟩; have hV3 := kept hb _ _ hV2; have HB3 := Lib.hid (HB2.out.trans (hb.mono HB2.out.size)); clear hb))
  have HBA := HB3
  clear hVd hV2 hV3
  go_wp2_with fail
  refine (HMD.out _ (HBy.out.kept HBA.out)).mono ?_
  rintro e w5 ⟨t5, rfl, ht, hb⟩
  have HT5 := Lib.hid ht
  have HB5 := Lib.hid (HBA.out.trans (hb.mono HBA.out.size))
  clear ht hb
  generalize valBE 256 zs = v at *
  go_wp2_with fail
  refine (HIN.out _).mono ?_
  rintro e w6 ⟨rfl, hb⟩
  have HB6 := Lib.hid (HB5.out.trans (((bel_stored w5 v).trans (hb.mono (by rw [size_stored]; omega))).mono HB5.out.size))
  have HT6 := Lib.hid ((HT5.out.kept (bel_stored w5 v)).kept hb)
  clear hb
  go_wp2_with fail
  refine (rof_at 4611686018427387904 4611686018427387904 rfl (by omega) _).mono ?_
  rintro e w7 ⟨t7, rfl, ht, hb⟩
  have HB7 := Lib.hid (HB6.out.trans (hb.mono HB6.out.size))
  have HT7 := Lib.hid (HT6.out.kept hb)
  have HU7 := Lib.hid ht
  clear ht hb
  go_wp2_with fail
  refine (rcompare_any v _ _ _ t5 t7 _ HT7.out HU7.out (by omega) (by have := dlen16 big62; omega)).mono ?_
  rintro e w8 ⟨rfl, hw⟩
  subst hw
  rcases HCM.out with hcm | hcm
  all_goals
    rw [hcm]
    go_wp2_with fail
    refine (rof_at v v rfl (by omega) _).mono ?_
    rintro e w9 ⟨t9, rfl, ht, hb⟩
    have HB9 := Lib.hid (HB7.out.trans (hb.mono HB7.out.size))
    have HT9 := Lib.hid (HT7.out.kept hb)
    have HU9 := Lib.hid ht
    clear ht hb
    go_wp2_with fail
    refine (rcompare_any v v _ _ t5 t9 _ HT9.out HU9.out (by omega) (by omega)).mono ?_
    rintro e w10 ⟨rfl, hw⟩
    subst hw
    rw [HCS.out]
    go_wp2_with fail
    refine (known_any _).mono ?_
    rintro e wK ⟨rfl, hb⟩
    have HBK := Lib.hid (HB9.out.trans (hb.mono HB9.out.size))
    clear hb
    go_wp2_with fail
    go_ret
    exact ⟨rfl, HBK.out⟩
end Go.Proofs.Ytkegdjndmeialaa
