/- NatReads, walked. -/
import Derived.Test.YtkegdjndmeialaaN4
namespace Go.Proofs.Ytkegdjndmeialaa
open Go.RowKit

theorem bel_std (w1 : World) (x : Nat) : Below w1.heap.size w1 ((w1.alloc (.cells (natA 0) 28)).setRow w1.heap.size (natA x)) := below_setRow' ((Below.refl _ _).alloc (Nat.le_refl _) _) (Nat.le_refl _) _

set_option maxRecDepth 100000 in
theorem reads_long (n : Nat) (a : Option Addr) (c : Nat) (s : ByteArray) (w : World) (hn : n ≤ 9223372036854775807) (hs : s.size ≤ 9223372036854775807) (h : 200 < n ∨ 300 < s.size) :
    Calls Try.prog 3 #[.slice a n c, .string s] w fun e w' => e = .returned (.bool true) ∧ Below w.heap.size w w' := by
  by_cases h1 : 200 < n
  · clear h
    go_enter Try.func3, Try.ntmps3
    go_wp2_with fail
    refine (known_any _).mono ?_
    rintro e wK ⟨rfl, hb⟩
    have HBK := Lib.hid hb
    clear hb
    go_wp2_with fail
    go_ret
    exact ⟨rfl, HBK.out⟩
  · have h2 : 300 < s.size := by omega
    clear h
    go_enter Try.func3, Try.ntmps3
    go_wp2_with fail
    refine (known_any _).mono ?_
    rintro e wK ⟨rfl, hb⟩
    have HBK := Lib.hid hb
    clear hb
    go_wp2_with fail
    go_ret
    exact ⟨rfl, HBK.out⟩

set_option maxRecDepth 100000 in
set_option maxHeartbeats 2000000 in
theorem reads_fits_ok (zs : List Nat) (a : Option Addr) (c : Nat) (s : ByteArray) (w : World) (h : BytesAt zs (.slice a zs.length c) w) (hac : a = none → zs.length = 0 ∧ c = 0) (hlen : zs.length ≤ 200) (hs : s.size ≤ 300)
    (hf : valBE 256 zs < P64 ^ 16) (ht : isTextB s = true) (hs2 : s.size ≤ 256) :
    Calls Try.prog 3 #[.slice a zs.length c, .string s] w fun e w' => e = .returned (.bool true) ∧ Below w.heap.size w w' := by
  obtain ⟨i0, hi, hz0, hz1, hz2⟩ := info_parts Try.info5
  have HB := Lib.hid h
  have H256 := Lib.hid h.1
  have HAC := Lib.hid hac
  have HF := Lib.hid hf
  have HZ := Lib.hid natEq_zero
  have HFB := Lib.hid (fun W t hW => fromBytes_any zs t W hW (by omega))
  have HFR := Lib.hid (fun W t hW => from_any zs t W hW (by omega))
  rw [(info_fb_fits hf).1, (info_fb_fits hf).2] at HFB
  have hd := dlen_bytes h.1 (by omega)
  have HNEWS := Lib.hid (show ∀ ad, a = some ad → ∀ j u, (zs.map fun x => Value.int .u8 (x : Nat))[j]? = some u → (w.alloc (.cells #[] 5)).cell? (ad.add j) = some u from bytes_news h)
  have HPA := Lib.hid (fun W => parse_ok s ht hs2 W)
  have HRP := Lib.hid (fun W => rparse_ok s ht (by omega) W)
  have hd2 := text_dlen ht (by omega)
  have HF2 := Lib.hid (text_fits ht hs2)
  have HTB := Lib.hid (text_back ht)
  generalize valBE 16 (digs s) = U at *
  have hsz : (s.size : Int) ≤ 300 := by omega
  obtain ⟨n, hzn⟩ : ∃ n, zs.length = n := ⟨_, rfl⟩
  have HZN := Lib.hid hzn
  rw [hzn] at HB HAC hlen ⊢
  clear h hzn hf hac ht
  have hnn : (n : Int) ≤ 200 := by omega
  generalize valBE 256 zs = V at *
  go_enter Try.func3, Try.ntmps3
  go_wp2_with (at_builtin; refine wpList_append_own_opt rfl _ _ 22 rfl w.heap.size 5 i0 (.int .u8 0) 1 1 Try.underlying22 hi hz0 hz1 hz2 rfl (by decide) _ _ _ rfl (World.ownsRow_made w #[] 0 (Nat.le_refl _) (by decide) rfl) a n c (zs.map fun x => .int .u8 (x : Nat)) rfl (by rw [List.length_map, HZN.out, Nat.mul_one]) HAC.out HNEWS.out bytes_one (by unfold maxLen; omega) (by omega) (by simp) ?_; intro v' w3 hown hgrow hnil)
  obtain ⟨g, cap, cs, rfl, hg, hrow, h8, hBA, hB3⟩ := copied HZN.out H256.out hown hgrow hnil
  have H8 := Lib.hid h8
  have HBA := Lib.hid hBA
  have HB3 := Lib.hid hB3
  clear hown hgrow hnil h8 hBA hB3
  go_wp2_with fail
  refine (HFB.out _ _ HBA.out).mono ?_
  rintro e w4 ⟨rfl, hb⟩
  replace hrow := kept hb _ _ hrow
  have HB4 := Lib.hid (HB3.out.trans (hb.mono HB3.out.size))
  clear hb
  go_wp2_with fail
  refine (HFR.out _ _ ((HB.out.kept HB4.out).kept (bel_std w4 V))).mono ?_
  rintro e w5 ⟨t, rfl, ht, hb⟩
  obtain ⟨hV, hk, hBel⟩ := stored hb
  have lg := rowN_lt hrow
  replace hrow := hk _ _ hrow
  have HT := Lib.hid ht
  have HB5 := Lib.hid (HB4.out.trans (hBel.mono HB4.out.size))
  obtain ⟨gn, hgn⟩ : ∃ gn, w4.heap.size = gn := ⟨_, rfl⟩
  rw [hgn] at hV ⊢
  have hne : gn ≠ g := by omega
  clear ht hb hk hBel hgn lg
  go_wp2_with fail
  go_loopw [9] (fun i wr => RdRel w g gn n V V t i wr) (fun i _ => n - (intOf i).toNat)
  case atStart => exact ⟨0, cs, Nat.zero_le _, rfl, hrow, H8.out, hV, HT.out, HB5.out⟩
  case round =>
    clear hV hrow HT H8 HB5 HBA HB4 HB3 HFB HFR
    obtain ⟨k, cs, hk, rfl, hrow, h8, hV, hT, hB⟩ := hrel
    have H8 := Lib.hid h8
    have HT := Lib.hid hT
    have HBW := Lib.hid hB
    clear h8 hT hB
    by_cases hlt : k < n
    · obtain ⟨x, hx0, hx1, hx⟩ := H8.out k hlt
      have HX := Lib.hid hx
      have HROW := Lib.hid hrow
      have HV := Lib.hid hV
      have hcell := ((rowN_cell hrow).1 k).trans hx
      have hfr := (rowN_cell hrow).2 k
      clear hx hrow hV
      go_wp2_with fail
      exact ⟨RdRel.step hlt HROW.out H8.out HX.out hne hg HV.out HT.out HBW.out (u8_wrap _).1 (u8_wrap _).2, by simp [intOf]; omega⟩
    · obtain rfl : k = n := by omega
      clear hrow H8 hk hlt
      go_wp2_with fail
      refine (fits_true V _ t _ HT.out (by omega) HF.out).mono ?_
      rintro e w6 ⟨rfl, hw⟩
      subst hw
      go_wp2_with fail
      refine (same_eq V HF.out t _ HT.out).mono ?_
      rintro e w7 ⟨rfl, hb⟩
      replace hV := kept hb _ _ hV
      have HT7 := Lib.hid (HT.out.kept hb)
      have HB7 := Lib.hid (HBW.out.trans (hb.mono HBW.out.size))
      clear hb
      go_wp2_with fail
      refine (text_any V HF.out _).mono ?_
      rintro e w8 ⟨rfl, hb⟩
      have HT8 := Lib.hid (HT7.out.kept hb)
      have HB8 := Lib.hid (HB7.out.trans (hb.mono HB7.out.size))
      clear hb hV
      go_wp2_with fail
      refine (rtext_any V _ t _ HT8.out (by omega)).mono ?_
      rintro e w9 ⟨rfl, hw⟩
      subst hw
      go_wp2_with fail
      refine (HPA.out _).mono ?_
      rintro e w10 ⟨rfl, hb⟩
      have HB10 := Lib.hid (HB8.out.trans (hb.mono HB8.out.size))
      clear hb
      go_wp2_with fail
      refine (HRP.out _).mono ?_
      rintro e w11 ⟨t2, rfl, ht, hb⟩
      obtain ⟨hP, hk, hBel⟩ := stored hb
      have HB11 := Lib.hid (HB10.out.trans (hBel.mono HB10.out.size))
      generalize w10.heap.size = gp at *
      have HT11 := Lib.hid ht
      clear hb hk hBel ht
      go_wp2_with fail
      refine (fits_true U _ t2 _ HT11.out (by omega) HF2.out).mono ?_
      rintro e w12 ⟨rfl, hw⟩
      subst hw
      go_wp2_with fail
      refine (same_eq U HF2.out t2 _ HT11.out).mono ?_
      rintro e w13 ⟨rfl, hb⟩
      replace hP := kept hb _ _ hP
      have HB13 := Lib.hid (HB11.out.trans (hb.mono HB11.out.size))
      clear hb
      go_wp2_with fail
      refine (text_any U HF2.out _).mono ?_
      rintro e w14 ⟨rfl, hb⟩
      rw [HTB.out]
      have HB14 := Lib.hid (HB13.out.trans (hb.mono HB13.out.size))
      clear hb hP
      go_wp2_with fail
      refine (known_any _).mono ?_
      rintro e wK ⟨rfl, hb⟩
      have HBK := Lib.hid (HB14.out.trans (hb.mono HB14.out.size))
      clear hb
      go_wp2_with fail
      go_ret
      exact ⟨rfl, HBK.out⟩

set_option maxRecDepth 100000 in
set_option maxHeartbeats 2000000 in
theorem reads_fits_full (zs : List Nat) (a : Option Addr) (c : Nat) (s : ByteArray) (w : World) (h : BytesAt zs (.slice a zs.length c) w) (hac : a = none → zs.length = 0 ∧ c = 0) (hlen : zs.length ≤ 200) (hs : s.size ≤ 300)
    (hf : valBE 256 zs < P64 ^ 16) (ht : isTextB s = true) (hs2 : 256 < s.size) :
    Calls Try.prog 3 #[.slice a zs.length c, .string s] w fun e w' => e = .returned (.bool true) ∧ Below w.heap.size w w' := by
  obtain ⟨i0, hi, hz0, hz1, hz2⟩ := info_parts Try.info5
  have HB := Lib.hid h
  have H256 := Lib.hid h.1
  have HAC := Lib.hid hac
  have HF := Lib.hid hf
  have HZ := Lib.hid natEq_zero
  have HFB := Lib.hid (fun W t hW => fromBytes_any zs t W hW (by omega))
  have HFR := Lib.hid (fun W t hW => from_any zs t W hW (by omega))
  rw [(info_fb_fits hf).1, (info_fb_fits hf).2] at HFB
  have hd := dlen_bytes h.1 (by omega)
  have HNEWS := Lib.hid (show ∀ ad, a = some ad → ∀ j u, (zs.map fun x => Value.int .u8 (x : Nat))[j]? = some u → (w.alloc (.cells #[] 5)).cell? (ad.add j) = some u from bytes_news h)
  have HPA := Lib.hid (fun W => parse_full s (by omega) ht hs2 W)
  have HRP := Lib.hid (fun W => rparse_ok s ht (by omega) W)
  have hd2 := text_dlen ht (by omega)
  have HF2 := Lib.hid (text_full ht hs2)
  generalize valBE 16 (digs s) = U at *
  have hsz : (s.size : Int) ≤ 300 := by omega
  obtain ⟨n, hzn⟩ : ∃ n, zs.length = n := ⟨_, rfl⟩
  have HZN := Lib.hid hzn
  rw [hzn] at HB HAC hlen ⊢
  clear h hzn hf hac ht
  have hnn : (n : Int) ≤ 200 := by omega
  generalize valBE 256 zs = V at *
  go_enter Try.func3, Try.ntmps3
  go_wp2_with (at_builtin; refine wpList_append_own_opt rfl _ _ 22 rfl w.heap.size 5 i0 (.int .u8 0) 1 1 Try.underlying22 hi hz0 hz1 hz2 rfl (by decide) _ _ _ rfl (World.ownsRow_made w #[] 0 (Nat.le_refl _) (by decide) rfl) a n c (zs.map fun x => .int .u8 (x : Nat)) rfl (by rw [List.length_map, HZN.out, Nat.mul_one]) HAC.out HNEWS.out bytes_one (by unfold maxLen; omega) (by omega) (by simp) ?_; intro v' w3 hown hgrow hnil)
  obtain ⟨g, cap, cs, rfl, hg, hrow, h8, hBA, hB3⟩ := copied HZN.out H256.out hown hgrow hnil
  have H8 := Lib.hid h8
  have HBA := Lib.hid hBA
  have HB3 := Lib.hid hB3
  clear hown hgrow hnil h8 hBA hB3
  go_wp2_with fail
  refine (HFB.out _ _ HBA.out).mono ?_
  rintro e w4 ⟨rfl, hb⟩
  replace hrow := kept hb _ _ hrow
  have HB4 := Lib.hid (HB3.out.trans (hb.mono HB3.out.size))
  clear hb
  go_wp2_with fail
  refine (HFR.out _ _ ((HB.out.kept HB4.out).kept (bel_std w4 V))).mono ?_
  rintro e w5 ⟨t, rfl, ht, hb⟩
  obtain ⟨hV, hk, hBel⟩ := stored hb
  have lg := rowN_lt hrow
  replace hrow := hk _ _ hrow
  have HT := Lib.hid ht
  have HB5 := Lib.hid (HB4.out.trans (hBel.mono HB4.out.size))
  obtain ⟨gn, hgn⟩ : ∃ gn, w4.heap.size = gn := ⟨_, rfl⟩
  rw [hgn] at hV ⊢
  have hne : gn ≠ g := by omega
  clear ht hb hk hBel hgn lg
  go_wp2_with fail
  go_loopw [9] (fun i wr => RdRel w g gn n V V t i wr) (fun i _ => n - (intOf i).toNat)
  case atStart => exact ⟨0, cs, Nat.zero_le _, rfl, hrow, H8.out, hV, HT.out, HB5.out⟩
  case round =>
    clear hV hrow HT H8 HB5 HBA HB4 HB3 HFB HFR
    obtain ⟨k, cs, hk, rfl, hrow, h8, hV, hT, hB⟩ := hrel
    have H8 := Lib.hid h8
    have HT := Lib.hid hT
    have HBW := Lib.hid hB
    clear h8 hT hB
    by_cases hlt : k < n
    · obtain ⟨x, hx0, hx1, hx⟩ := H8.out k hlt
      have HX := Lib.hid hx
      have HROW := Lib.hid hrow
      have HV := Lib.hid hV
      have hcell := ((rowN_cell hrow).1 k).trans hx
      have hfr := (rowN_cell hrow).2 k
      clear hx hrow hV
      go_wp2_with fail
      exact ⟨RdRel.step hlt HROW.out H8.out HX.out hne hg HV.out HT.out HBW.out (u8_wrap _).1 (u8_wrap _).2, by simp [intOf]; omega⟩
    · obtain rfl : k = n := by omega
      clear hrow H8 hk hlt
      go_wp2_with fail
      refine (fits_true V _ t _ HT.out (by omega) HF.out).mono ?_
      rintro e w6 ⟨rfl, hw⟩
      subst hw
      go_wp2_with fail
      refine (same_eq V HF.out t _ HT.out).mono ?_
      rintro e w7 ⟨rfl, hb⟩
      replace hV := kept hb _ _ hV
      have HT7 := Lib.hid (HT.out.kept hb)
      have HB7 := Lib.hid (HBW.out.trans (hb.mono HBW.out.size))
      clear hb
      go_wp2_with fail
      refine (text_any V HF.out _).mono ?_
      rintro e w8 ⟨rfl, hb⟩
      have HT8 := Lib.hid (HT7.out.kept hb)
      have HB8 := Lib.hid (HB7.out.trans (hb.mono HB7.out.size))
      clear hb hV
      go_wp2_with fail
      refine (rtext_any V _ t _ HT8.out (by omega)).mono ?_
      rintro e w9 ⟨rfl, hw⟩
      subst hw
      go_wp2_with fail
      refine (HPA.out _).mono ?_
      rintro e w10 ⟨rfl, hb⟩
      have HB10 := Lib.hid (HB8.out.trans (hb.mono HB8.out.size))
      clear hb
      go_wp2_with fail
      refine (HRP.out _).mono ?_
      rintro e w11 ⟨t2, rfl, ht, hb⟩
      obtain ⟨hP, hk, hBel⟩ := stored hb
      have HB11 := Lib.hid (HB10.out.trans (hBel.mono HB10.out.size))
      generalize w10.heap.size = gp at *
      have HT11 := Lib.hid ht
      clear hb hk hBel ht
      go_wp2_with fail
      refine (fits_false U _ t2 _ HT11.out (by omega) HF2.out).mono ?_
      rintro e w12 ⟨rfl, hw⟩
      subst hw
      go_wp2_with fail
      refine (isZero_any 0 _).mono ?_
      rintro e w14 ⟨rfl, hb⟩
      rw [HZ.out]
      have HB14 := Lib.hid (HB11.out.trans (hb.mono HB11.out.size))
      clear hb hP
      go_wp2_with fail
      refine (known_any _).mono ?_
      rintro e wK ⟨rfl, hb⟩
      have HBK := Lib.hid (HB14.out.trans (hb.mono HB14.out.size))
      clear hb
      go_wp2_with fail
      go_ret
      exact ⟨rfl, HBK.out⟩

set_option maxRecDepth 100000 in
set_option maxHeartbeats 2000000 in
theorem reads_fits_no (zs : List Nat) (a : Option Addr) (c : Nat) (s : ByteArray) (w : World) (h : BytesAt zs (.slice a zs.length c) w) (hac : a = none → zs.length = 0 ∧ c = 0) (hlen : zs.length ≤ 200) (hs : s.size ≤ 300)
    (hf : valBE 256 zs < P64 ^ 16) (ht : isTextB s = false) :
    Calls Try.prog 3 #[.slice a zs.length c, .string s] w fun e w' => e = .returned (.bool true) ∧ Below w.heap.size w w' := by
  obtain ⟨i0, hi, hz0, hz1, hz2⟩ := info_parts Try.info5
  have HB := Lib.hid h
  have H256 := Lib.hid h.1
  have HAC := Lib.hid hac
  have HF := Lib.hid hf
  have HZ := Lib.hid natEq_zero
  have HFB := Lib.hid (fun W t hW => fromBytes_any zs t W hW (by omega))
  have HFR := Lib.hid (fun W t hW => from_any zs t W hW (by omega))
  rw [(info_fb_fits hf).1, (info_fb_fits hf).2] at HFB
  have hd := dlen_bytes h.1 (by omega)
  have HNEWS := Lib.hid (show ∀ ad, a = some ad → ∀ j u, (zs.map fun x => Value.int .u8 (x : Nat))[j]? = some u → (w.alloc (.cells #[] 5)).cell? (ad.add j) = some u from bytes_news h)
  have HPA := Lib.hid (fun W => parse_no s (by omega) ht W)
  have HRP := Lib.hid (fun W => rparse_no W s ht (by omega))
  have hsz : (s.size : Int) ≤ 300 := by omega
  obtain ⟨n, hzn⟩ : ∃ n, zs.length = n := ⟨_, rfl⟩
  have HZN := Lib.hid hzn
  rw [hzn] at HB HAC hlen ⊢
  clear h hzn hf hac ht
  have hnn : (n : Int) ≤ 200 := by omega
  generalize valBE 256 zs = V at *
  go_enter Try.func3, Try.ntmps3
  go_wp2_with (at_builtin; refine wpList_append_own_opt rfl _ _ 22 rfl w.heap.size 5 i0 (.int .u8 0) 1 1 Try.underlying22 hi hz0 hz1 hz2 rfl (by decide) _ _ _ rfl (World.ownsRow_made w #[] 0 (Nat.le_refl _) (by decide) rfl) a n c (zs.map fun x => .int .u8 (x : Nat)) rfl (by rw [List.length_map, HZN.out, Nat.mul_one]) HAC.out HNEWS.out bytes_one (by unfold maxLen; omega) (by omega) (by simp) ?_; intro v' w3 hown hgrow hnil)
  obtain ⟨g, cap, cs, rfl, hg, hrow, h8, hBA, hB3⟩ := copied HZN.out H256.out hown hgrow hnil
  have H8 := Lib.hid h8
  have HBA := Lib.hid hBA
  have HB3 := Lib.hid hB3
  clear hown hgrow hnil h8 hBA hB3
  go_wp2_with fail
  refine (HFB.out _ _ HBA.out).mono ?_
  rintro e w4 ⟨rfl, hb⟩
  replace hrow := kept hb _ _ hrow
  have HB4 := Lib.hid (HB3.out.trans (hb.mono HB3.out.size))
  clear hb
  go_wp2_with fail
  refine (HFR.out _ _ ((HB.out.kept HB4.out).kept (bel_std w4 V))).mono ?_
  rintro e w5 ⟨t, rfl, ht, hb⟩
  obtain ⟨hV, hk, hBel⟩ := stored hb
  have lg := rowN_lt hrow
  replace hrow := hk _ _ hrow
  have HT := Lib.hid ht
  have HB5 := Lib.hid (HB4.out.trans (hBel.mono HB4.out.size))
  obtain ⟨gn, hgn⟩ : ∃ gn, w4.heap.size = gn := ⟨_, rfl⟩
  rw [hgn] at hV ⊢
  have hne : gn ≠ g := by omega
  clear ht hb hk hBel hgn lg
  go_wp2_with fail
  go_loopw [9] (fun i wr => RdRel w g gn n V V t i wr) (fun i _ => n - (intOf i).toNat)
  case atStart => exact ⟨0, cs, Nat.zero_le _, rfl, hrow, H8.out, hV, HT.out, HB5.out⟩
  case round =>
    clear hV hrow HT H8 HB5 HBA HB4 HB3 HFB HFR
    obtain ⟨k, cs, hk, rfl, hrow, h8, hV, hT, hB⟩ := hrel
    have H8 := Lib.hid h8
    have HT := Lib.hid hT
    have HBW := Lib.hid hB
    clear h8 hT hB
    by_cases hlt : k < n
    · obtain ⟨x, hx0, hx1, hx⟩ := H8.out k hlt
      have HX := Lib.hid hx
      have HROW := Lib.hid hrow
      have HV := Lib.hid hV
      have hcell := ((rowN_cell hrow).1 k).trans hx
      have hfr := (rowN_cell hrow).2 k
      clear hx hrow hV
      go_wp2_with fail
      exact ⟨RdRel.step hlt HROW.out H8.out HX.out hne hg HV.out HT.out HBW.out (u8_wrap _).1 (u8_wrap _).2, by simp [intOf]; omega⟩
    · obtain rfl : k = n := by omega
      clear hrow H8 hk hlt
      go_wp2_with fail
      refine (fits_true V _ t _ HT.out (by omega) HF.out).mono ?_
      rintro e w6 ⟨rfl, hw⟩
      subst hw
      go_wp2_with fail
      refine (same_eq V HF.out t _ HT.out).mono ?_
      rintro e w7 ⟨rfl, hb⟩
      replace hV := kept hb _ _ hV
      have HT7 := Lib.hid (HT.out.kept hb)
      have HB7 := Lib.hid (HBW.out.trans (hb.mono HBW.out.size))
      clear hb
      go_wp2_with fail
      refine (text_any V HF.out _).mono ?_
      rintro e w8 ⟨rfl, hb⟩
      have HT8 := Lib.hid (HT7.out.kept hb)
      have HB8 := Lib.hid (HB7.out.trans (hb.mono HB7.out.size))
      clear hb hV
      go_wp2_with fail
      refine (rtext_any V _ t _ HT8.out (by omega)).mono ?_
      rintro e w9 ⟨rfl, hw⟩
      subst hw
      go_wp2_with fail
      refine (HPA.out _).mono ?_
      rintro e w10 ⟨rfl, hb⟩
      have HB10 := Lib.hid (HB8.out.trans (hb.mono HB8.out.size))
      clear hb
      go_wp2_with fail
      refine (HRP.out _).mono ?_
      rintro e w11 ⟨rfl, hb⟩
      obtain ⟨hP, hk, hBel⟩ := stored hb
      have HB11 := Lib.hid (HB10.out.trans (hBel.mono HB10.out.size))
      generalize w10.heap.size = gp at *
      clear hb hk hBel
      go_wp2_with fail
      refine (isZero_any 0 _).mono ?_
      rintro e w14 ⟨rfl, hb⟩
      rw [HZ.out]
      have HB14 := Lib.hid (HB11.out.trans (hb.mono HB11.out.size))
      clear hb hP
      go_wp2_with fail
      refine (known_any _).mono ?_
      rintro e wK ⟨rfl, hb⟩
      have HBK := Lib.hid (HB14.out.trans (hb.mono HB14.out.size))
      clear hb
      go_wp2_with fail
      go_ret
      exact ⟨rfl, HBK.out⟩

set_option maxRecDepth 100000 in
set_option maxHeartbeats 2000000 in
theorem reads_full_ok (zs : List Nat) (a : Option Addr) (c : Nat) (s : ByteArray) (w : World) (h : BytesAt zs (.slice a zs.length c) w) (hac : a = none → zs.length = 0 ∧ c = 0) (hlen : zs.length ≤ 200) (hs : s.size ≤ 300)
    (hf : ¬ valBE 256 zs < P64 ^ 16) (ht : isTextB s = true) (hs2 : s.size ≤ 256) :
    Calls Try.prog 3 #[.slice a zs.length c, .string s] w fun e w' => e = .returned (.bool true) ∧ Below w.heap.size w w' := by
  obtain ⟨i0, hi, hz0, hz1, hz2⟩ := info_parts Try.info5
  have HB := Lib.hid h
  have H256 := Lib.hid h.1
  have HAC := Lib.hid hac
  have HF := Lib.hid hf
  have HZ := Lib.hid natEq_zero
  have HFB := Lib.hid (fun W t hW => fromBytes_any zs t W hW (by omega))
  have HFR := Lib.hid (fun W t hW => from_any zs t W hW (by omega))
  rw [(info_fb_full hf).1, (info_fb_full hf).2] at HFB
  have hd := dlen_bytes h.1 (by omega)
  have HNEWS := Lib.hid (show ∀ ad, a = some ad → ∀ j u, (zs.map fun x => Value.int .u8 (x : Nat))[j]? = some u → (w.alloc (.cells #[] 5)).cell? (ad.add j) = some u from bytes_news h)
  have HPA := Lib.hid (fun W => parse_ok s ht hs2 W)
  have HRP := Lib.hid (fun W => rparse_ok s ht (by omega) W)
  have hd2 := text_dlen ht (by omega)
  have HF2 := Lib.hid (text_fits ht hs2)
  have HTB := Lib.hid (text_back ht)
  generalize valBE 16 (digs s) = U at *
  have hsz : (s.size : Int) ≤ 300 := by omega
  obtain ⟨n, hzn⟩ : ∃ n, zs.length = n := ⟨_, rfl⟩
  have HZN := Lib.hid hzn
  rw [hzn] at HB HAC hlen ⊢
  clear h hzn hf hac ht
  have hnn : (n : Int) ≤ 200 := by omega
  generalize valBE 256 zs = V at *
  go_enter Try.func3, Try.ntmps3
  go_wp2_with (at_builtin; refine wpList_append_own_opt rfl _ _ 22 rfl w.heap.size 5 i0 (.int .u8 0) 1 1 Try.underlying22 hi hz0 hz1 hz2 rfl (by decide) _ _ _ rfl (World.ownsRow_made w #[] 0 (Nat.le_refl _) (by decide) rfl) a n c (zs.map fun x => .int .u8 (x : Nat)) rfl (by rw [List.length_map, HZN.out, Nat.mul_one]) HAC.out HNEWS.out bytes_one (by unfold maxLen; omega) (by omega) (by simp) ?_; intro v' w3 hown hgrow hnil)
  obtain ⟨g, cap, cs, rfl, hg, hrow, h8, hBA, hB3⟩ := copied HZN.out H256.out hown hgrow hnil
  have H8 := Lib.hid h8
  have HBA := Lib.hid hBA
  have HB3 := Lib.hid hB3
  clear hown hgrow hnil h8 hBA hB3
  go_wp2_with fail
  refine (HFB.out _ _ HBA.out).mono ?_
  rintro e w4 ⟨rfl, hb⟩
  replace hrow := kept hb _ _ hrow
  have HB4 := Lib.hid (HB3.out.trans (hb.mono HB3.out.size))
  clear hb
  go_wp2_with fail
  refine (HFR.out _ _ ((HB.out.kept HB4.out).kept (bel_std w4 0))).mono ?_
  rintro e w5 ⟨t, rfl, ht, hb⟩
  obtain ⟨hV, hk, hBel⟩ := stored hb
  have lg := rowN_lt hrow
  replace hrow := hk _ _ hrow
  have HT := Lib.hid ht
  have HB5 := Lib.hid (HB4.out.trans (hBel.mono HB4.out.size))
  obtain ⟨gn, hgn⟩ : ∃ gn, w4.heap.size = gn := ⟨_, rfl⟩
  rw [hgn] at hV ⊢
  have hne : gn ≠ g := by omega
  clear ht hb hk hBel hgn lg
  go_wp2_with fail
  go_loopw [9] (fun i wr => RdRel w g gn n 0 V t i wr) (fun i _ => n - (intOf i).toNat)
  case atStart => exact ⟨0, cs, Nat.zero_le _, rfl, hrow, H8.out, hV, HT.out, HB5.out⟩
  case round =>
    clear hV hrow HT H8 HB5 HBA HB4 HB3 HFB HFR
    obtain ⟨k, cs, hk, rfl, hrow, h8, hV, hT, hB⟩ := hrel
    have H8 := Lib.hid h8
    have HT := Lib.hid hT
    have HBW := Lib.hid hB
    clear h8 hT hB
    by_cases hlt : k < n
    · obtain ⟨x, hx0, hx1, hx⟩ := H8.out k hlt
      have HX := Lib.hid hx
      have HROW := Lib.hid hrow
      have HV := Lib.hid hV
      have hcell := ((rowN_cell hrow).1 k).trans hx
      have hfr := (rowN_cell hrow).2 k
      clear hx hrow hV
      go_wp2_with fail
      exact ⟨RdRel.step hlt HROW.out H8.out HX.out hne hg HV.out HT.out HBW.out (u8_wrap _).1 (u8_wrap _).2, by simp [intOf]; omega⟩
    · obtain rfl : k = n := by omega
      clear hrow H8 hk hlt
      go_wp2_with fail
      refine (fits_false V _ t _ HT.out (by omega) HF.out).mono ?_
      rintro e w6 ⟨rfl, hw⟩
      subst hw
      go_wp2_with fail
      refine (isZero_any 0 _).mono ?_
      rintro e w8 ⟨rfl, hb⟩
      rw [HZ.out]
      have HB8 := Lib.hid (HBW.out.trans (hb.mono HBW.out.size))
      clear hb hV
      go_wp2_with fail
      refine (HPA.out _).mono ?_
      rintro e w10 ⟨rfl, hb⟩
      have HB10 := Lib.hid (HB8.out.trans (hb.mono HB8.out.size))
      clear hb
      go_wp2_with fail
      refine (HRP.out _).mono ?_
      rintro e w11 ⟨t2, rfl, ht, hb⟩
      obtain ⟨hP, hk, hBel⟩ := stored hb
      have HB11 := Lib.hid (HB10.out.trans (hBel.mono HB10.out.size))
      generalize w10.heap.size = gp at *
      have HT11 := Lib.hid ht
      clear hb hk hBel ht
      go_wp2_with fail
      refine (fits_true U _ t2 _ HT11.out (by omega) HF2.out).mono ?_
      rintro e w12 ⟨rfl, hw⟩
      subst hw
      go_wp2_with fail
      refine (same_eq U HF2.out t2 _ HT11.out).mono ?_
      rintro e w13 ⟨rfl, hb⟩
      replace hP := kept hb _ _ hP
      have HB13 := Lib.hid (HB11.out.trans (hb.mono HB11.out.size))
      clear hb
      go_wp2_with fail
      refine (text_any U HF2.out _).mono ?_
      rintro e w14 ⟨rfl, hb⟩
      rw [HTB.out]
      have HB14 := Lib.hid (HB13.out.trans (hb.mono HB13.out.size))
      clear hb hP
      go_wp2_with fail
      refine (known_any _).mono ?_
      rintro e wK ⟨rfl, hb⟩
      have HBK := Lib.hid (HB14.out.trans (hb.mono HB14.out.size))
      clear hb
      go_wp2_with fail
      go_ret
      exact ⟨rfl, HBK.out⟩

set_option maxRecDepth 100000 in
set_option maxHeartbeats 2000000 in
theorem reads_full_full (zs : List Nat) (a : Option Addr) (c : Nat) (s : ByteArray) (w : World) (h : BytesAt zs (.slice a zs.length c) w) (hac : a = none → zs.length = 0 ∧ c = 0) (hlen : zs.length ≤ 200) (hs : s.size ≤ 300)
    (hf : ¬ valBE 256 zs < P64 ^ 16) (ht : isTextB s = true) (hs2 : 256 < s.size) :
    Calls Try.prog 3 #[.slice a zs.length c, .string s] w fun e w' => e = .returned (.bool true) ∧ Below w.heap.size w w' := by
  obtain ⟨i0, hi, hz0, hz1, hz2⟩ := info_parts Try.info5
  have HB := Lib.hid h
  have H256 := Lib.hid h.1
  have HAC := Lib.hid hac
  have HF := Lib.hid hf
  have HZ := Lib.hid natEq_zero
  have HFB := Lib.hid (fun W t hW => fromBytes_any zs t W hW (by omega))
  have HFR := Lib.hid (fun W t hW => from_any zs t W hW (by omega))
  rw [(info_fb_full hf).1, (info_fb_full hf).2] at HFB
  have hd := dlen_bytes h.1 (by omega)
  have HNEWS := Lib.hid (show ∀ ad, a = some ad → ∀ j u, (zs.map fun x => Value.int .u8 (x : Nat))[j]? = some u → (w.alloc (.cells #[] 5)).cell? (ad.add j) = some u from bytes_news h)
  have HPA := Lib.hid (fun W => parse_full s (by omega) ht hs2 W)
  have HRP := Lib.hid (fun W => rparse_ok s ht (by omega) W)
  have hd2 := text_dlen ht (by omega)
  have HF2 := Lib.hid (text_full ht hs2)
  generalize valBE 16 (digs s) = U at *
  have hsz : (s.size : Int) ≤ 300 := by omega
  obtain ⟨n, hzn⟩ : ∃ n, zs.length = n := ⟨_, rfl⟩
  have HZN := Lib.hid hzn
  rw [hzn] at HB HAC hlen ⊢
  clear h hzn hf hac ht
  have hnn : (n : Int) ≤ 200 := by omega
  generalize valBE 256 zs = V at *
  go_enter Try.func3, Try.ntmps3
  go_wp2_with (at_builtin; refine wpList_append_own_opt rfl _ _ 22 rfl w.heap.size 5 i0 (.int .u8 0) 1 1 Try.underlying22 hi hz0 hz1 hz2 rfl (by decide) _ _ _ rfl (World.ownsRow_made w #[] 0 (Nat.le_refl _) (by decide) rfl) a n c (zs.map fun x => .int .u8 (x : Nat)) rfl (by rw [List.length_map, HZN.out, Nat.mul_one]) HAC.out HNEWS.out bytes_one (by unfold maxLen; omega) (by omega) (by simp) ?_; intro v' w3 hown hgrow hnil)
  obtain ⟨g, cap, cs, rfl, hg, hrow, h8, hBA, hB3⟩ := copied HZN.out H256.out hown hgrow hnil
  have H8 := Lib.hid h8
  have HBA := Lib.hid hBA
  have HB3 := Lib.hid hB3
  clear hown hgrow hnil h8 hBA hB3
  go_wp2_with fail
  refine (HFB.out _ _ HBA.out).mono ?_
  rintro e w4 ⟨rfl, hb⟩
  replace hrow := kept hb _ _ hrow
  have HB4 := Lib.hid (HB3.out.trans (hb.mono HB3.out.size))
  clear hb
  go_wp2_with fail
  refine (HFR.out _ _ ((HB.out.kept HB4.out).kept (bel_std w4 0))).mono ?_
  rintro e w5 ⟨t, rfl, ht, hb⟩
  obtain ⟨hV, hk, hBel⟩ := stored hb
  have lg := rowN_lt hrow
  replace hrow := hk _ _ hrow
  have HT := Lib.hid ht
  have HB5 := Lib.hid (HB4.out.trans (hBel.mono HB4.out.size))
  obtain ⟨gn, hgn⟩ : ∃ gn, w4.heap.size = gn := ⟨_, rfl⟩
  rw [hgn] at hV ⊢
  have hne : gn ≠ g := by omega
  clear ht hb hk hBel hgn lg
  go_wp2_with fail
  go_loopw [9] (fun i wr => RdRel w g gn n 0 V t i wr) (fun i _ => n - (intOf i).toNat)
  case atStart => exact ⟨0, cs, Nat.zero_le _, rfl, hrow, H8.out, hV, HT.out, HB5.out⟩
  case round =>
    clear hV hrow HT H8 HB5 HBA HB4 HB3 HFB HFR
    obtain ⟨k, cs, hk, rfl, hrow, h8, hV, hT, hB⟩ := hrel
    have H8 := Lib.hid h8
    have HT := Lib.hid hT
    have HBW := Lib.hid hB
    clear h8 hT hB
    by_cases hlt : k < n
    · obtain ⟨x, hx0, hx1, hx⟩ := H8.out k hlt
      have HX := Lib.hid hx
      have HROW := Lib.hid hrow
      have HV := Lib.hid hV
      have hcell := ((rowN_cell hrow).1 k).trans hx
      have hfr := (rowN_cell hrow).2 k
      clear hx hrow hV
      go_wp2_with fail
      exact ⟨RdRel.step hlt HROW.out H8.out HX.out hne hg HV.out HT.out HBW.out (u8_wrap _).1 (u8_wrap _).2, by simp [intOf]; omega⟩
    · obtain rfl : k = n := by omega
      clear hrow H8 hk hlt
      go_wp2_with fail
      refine (fits_false V _ t _ HT.out (by omega) HF.out).mono ?_
      rintro e w6 ⟨rfl, hw⟩
      subst hw
      go_wp2_with fail
      refine (isZero_any 0 _).mono ?_
      rintro e w8 ⟨rfl, hb⟩
      rw [HZ.out]
      have HB8 := Lib.hid (HBW.out.trans (hb.mono HBW.out.size))
      clear hb hV
      go_wp2_with fail
      refine (HPA.out _).mono ?_
      rintro e w10 ⟨rfl, hb⟩
      have HB10 := Lib.hid (HB8.out.trans (hb.mono HB8.out.size))
      clear hb
      go_wp2_with fail
      refine (HRP.out _).mono ?_
      rintro e w11 ⟨t2, rfl, ht, hb⟩
      obtain ⟨hP, hk, hBel⟩ := stored hb
      have HB11 := Lib.hid (HB10.out.trans (hBel.mono HB10.out.size))
      generalize w10.heap.size = gp at *
      have HT11 := Lib.hid ht
      clear hb hk hBel ht
      go_wp2_with fail
      refine (fits_false U _ t2 _ HT11.out (by omega) HF2.out).mono ?_
      rintro e w12 ⟨rfl, hw⟩
      subst hw
      go_wp2_with fail
      refine (isZero_any 0 _).mono ?_
      rintro e w14 ⟨rfl, hb⟩
      rw [HZ.out]
      have HB14 := Lib.hid (HB11.out.trans (hb.mono HB11.out.size))
      clear hb hP
      go_wp2_with fail
      refine (known_any _).mono ?_
      rintro e wK ⟨rfl, hb⟩
      have HBK := Lib.hid (HB14.out.trans (hb.mono HB14.out.size))
      clear hb
      go_wp2_with fail
      go_ret
      exact ⟨rfl, HBK.out⟩

set_option maxRecDepth 100000 in
set_option maxHeartbeats 2000000 in
theorem reads_full_no (zs : List Nat) (a : Option Addr) (c : Nat) (s : ByteArray) (w : World) (h : BytesAt zs (.slice a zs.length c) w) (hac : a = none → zs.length = 0 ∧ c = 0) (hlen : zs.length ≤ 200) (hs : s.size ≤ 300)
    (hf : ¬ valBE 256 zs < P64 ^ 16) (ht : isTextB s = false) :
    Calls Try.prog 3 #[.slice a zs.length c, .string s] w fun e w' => e = .returned (.bool true) ∧ Below w.heap.size w w' := by
  obtain ⟨i0, hi, hz0, hz1, hz2⟩ := info_parts Try.info5
  have HB := Lib.hid h
  have H256 := Lib.hid h.1
  have HAC := Lib.hid hac
  have HF := Lib.hid hf
  have HZ := Lib.hid natEq_zero
  have HFB := Lib.hid (fun W t hW => fromBytes_any zs t W hW (by omega))
  have HFR := Lib.hid (fun W t hW => from_any zs t W hW (by omega))
  rw [(info_fb_full hf).1, (info_fb_full hf).2] at HFB
  have hd := dlen_bytes h.1 (by omega)
  have HNEWS := Lib.hid (show ∀ ad, a = some ad → ∀ j u, (zs.map fun x => Value.int .u8 (x : Nat))[j]? = some u → (w.alloc (.cells #[] 5)).cell? (ad.add j) = some u from bytes_news h)
  have HPA := Lib.hid (fun W => parse_no s (by omega) ht W)
  have HRP := Lib.hid (fun W => rparse_no W s ht (by omega))
  have hsz : (s.size : Int) ≤ 300 := by omega
  obtain ⟨n, hzn⟩ : ∃ n, zs.length = n := ⟨_, rfl⟩
  have HZN := Lib.hid hzn
  rw [hzn] at HB HAC hlen ⊢
  clear h hzn hf hac ht
  have hnn : (n : Int) ≤ 200 := by omega
  generalize valBE 256 zs = V at *
  go_enter Try.func3, Try.ntmps3
  go_wp2_with (at_builtin; refine wpList_append_own_opt rfl _ _ 22 rfl w.heap.size 5 i0 (.int .u8 0) 1 1 Try.underlying22 hi hz0 hz1 hz2 rfl (by decide) _ _ _ rfl (World.ownsRow_made w #[] 0 (Nat.le_refl _) (by decide) rfl) a n c (zs.map fun x => .int .u8 (x : Nat)) rfl (by rw [List.length_map, HZN.out, Nat.mul_one]) HAC.out HNEWS.out bytes_one (by unfold maxLen; omega) (by omega) (by simp) ?_; intro v' w3 hown hgrow hnil)
  obtain ⟨g, cap, cs, rfl, hg, hrow, h8, hBA, hB3⟩ := copied HZN.out H256.out hown hgrow hnil
  have H8 := Lib.hid h8
  have HBA := Lib.hid hBA
  have HB3 := Lib.hid hB3
  clear hown hgrow hnil h8 hBA hB3
  go_wp2_with fail
  refine (HFB.out _ _ HBA.out).mono ?_
  rintro e w4 ⟨rfl, hb⟩
  replace hrow := kept hb _ _ hrow
  have HB4 := Lib.hid (HB3.out.trans (hb.mono HB3.out.size))
  clear hb
  go_wp2_with fail
  refine (HFR.out _ _ ((HB.out.kept HB4.out).kept (bel_std w4 0))).mono ?_
  rintro e w5 ⟨t, rfl, ht, hb⟩
  obtain ⟨hV, hk, hBel⟩ := stored hb
  have lg := rowN_lt hrow
  replace hrow := hk _ _ hrow
  have HT := Lib.hid ht
  have HB5 := Lib.hid (HB4.out.trans (hBel.mono HB4.out.size))
  obtain ⟨gn, hgn⟩ : ∃ gn, w4.heap.size = gn := ⟨_, rfl⟩
  rw [hgn] at hV ⊢
  have hne : gn ≠ g := by omega
  clear ht hb hk hBel hgn lg
  go_wp2_with fail
  go_loopw [9] (fun i wr => RdRel w g gn n 0 V t i wr) (fun i _ => n - (intOf i).toNat)
  case atStart => exact ⟨0, cs, Nat.zero_le _, rfl, hrow, H8.out, hV, HT.out, HB5.out⟩
  case round =>
    clear hV hrow HT H8 HB5 HBA HB4 HB3 HFB HFR
    obtain ⟨k, cs, hk, rfl, hrow, h8, hV, hT, hB⟩ := hrel
    have H8 := Lib.hid h8
    have HT := Lib.hid hT
    have HBW := Lib.hid hB
    clear h8 hT hB
    by_cases hlt : k < n
    · obtain ⟨x, hx0, hx1, hx⟩ := H8.out k hlt
      have HX := Lib.hid hx
      have HROW := Lib.hid hrow
      have HV := Lib.hid hV
      have hcell := ((rowN_cell hrow).1 k).trans hx
      have hfr := (rowN_cell hrow).2 k
      clear hx hrow hV
      go_wp2_with fail
      exact ⟨RdRel.step hlt HROW.out H8.out HX.out hne hg HV.out HT.out HBW.out (u8_wrap _).1 (u8_wrap _).2, by simp [intOf]; omega⟩
    · obtain rfl : k = n := by omega
      clear hrow H8 hk hlt
      go_wp2_with fail
      refine (fits_false V _ t _ HT.out (by omega) HF.out).mono ?_
      rintro e w6 ⟨rfl, hw⟩
      subst hw
      go_wp2_with fail
      refine (isZero_any 0 _).mono ?_
      rintro e w8 ⟨rfl, hb⟩
      rw [HZ.out]
      have HB8 := Lib.hid (HBW.out.trans (hb.mono HBW.out.size))
      clear hb hV
      go_wp2_with fail
      refine (HPA.out _).mono ?_
      rintro e w10 ⟨rfl, hb⟩
      have HB10 := Lib.hid (HB8.out.trans (hb.mono HB8.out.size))
      clear hb
      go_wp2_with fail
      refine (HRP.out _).mono ?_
      rintro e w11 ⟨rfl, hb⟩
      obtain ⟨hP, hk, hBel⟩ := stored hb
      have HB11 := Lib.hid (HB10.out.trans (hBel.mono HB10.out.size))
      generalize w10.heap.size = gp at *
      clear hb hk hBel
      go_wp2_with fail
      refine (isZero_any 0 _).mono ?_
      rintro e w14 ⟨rfl, hb⟩
      rw [HZ.out]
      have HB14 := Lib.hid (HB11.out.trans (hb.mono HB11.out.size))
      clear hb hP
      go_wp2_with fail
      refine (known_any _).mono ?_
      rintro e wK ⟨rfl, hb⟩
      have HBK := Lib.hid (HB14.out.trans (hb.mono HB14.out.size))
      clear hb
      go_wp2_with fail
      go_ret
      exact ⟨rfl, HBK.out⟩

end Go.Proofs.Ytkegdjndmeialaa
