/- Divide, GCD, the reference's GCD; NatDivides, walked. -/
import Derived.Test.YtkegdjndmeialaaG5
import Derived.Test.YtkegdjndmeialaaG1
import Derived.Test.YtkegdjndmeialaaD2
import Derived.Test.YtkegdjndmeialaaP2
import Derived.Deep.LoopGhost
namespace Go.Proofs.Ytkegdjndmeialaa
open Go.RowKit

theorem divideShort_full (v b : Nat) (hv : v < P64 ^ 16) (hb : 0 < b) (hb1 : b < P64) (w : World) : Calls Try.prog 66 #[.agg (natA v), .int .u64 (b : Nat)] w fun e w' =>
      e = .returned (.tuple #[.agg (natA (v / b)), .agg (natA (v % b))]) ∧ Below w.heap.size w w' :=
  divideShort_any v b hv hb hb1 (fun i _ W => (div64_any _ _ b (Nat.mod_lt _ hb) hb1 (dgt_lt P64_pos) W).mono (by
    rintro e W' ⟨rfl, n, rfl⟩
    exact ⟨rfl, Ch.drewN _ _ _⟩)) w

set_option maxRecDepth 100000 in
theorem divide_long (v u : Nat) (hu : u < P64 ^ 16) (hn : 2 ≤ natLen u)
    (hS : ∀ W, Calls Try.prog 67 #[.agg (natA v), .agg (natA u)] W fun e W' => e = .returned (.tuple #[.agg (natA (v / u)), .agg (natA (v % u))]) ∧ Below W.heap.size W W')
    (w : World) : Calls Try.prog 40 #[.agg (natA v), .agg (natA u)] w fun e w' =>
    e = .returned (.tuple #[.agg (natA (v / u)), .agg (natA (v % u)), .int .i64 0]) ∧ Below w.heap.size w w' := by
  have HU := Lib.hid (length_any u hu)
  generalize natLen u = n at *
  have HS := Lib.hid hS
  clear hS hu
  generalize v / u = q at *
  generalize v % u = r at *
  have n0 : ((n : Int) == 0) = false := by simp; omega
  have n1 : ((n : Int) == 1) = false := by simp; omega
  go_enter Try.func40, Try.ntmps40
  go_wp2_with fail
  refine (HU.out _).mono ?_
  rintro e w1 ⟨rfl, hb1⟩
  have hrow := brow hb1
  have hA : rowN w1 w.heap.size = some (natA v) := by
    rw [hrow _ (by simp <;> omega)]; simp only [rowN_alloc, World.size_alloc, if_true] <;> (repeat rw [if_neg (by omega)])
  have hB : rowN w1 (w.heap.size + 1) = some (natA u) := by
    rw [hrow _ (by simp <;> omega)]; simp only [rowN_alloc, World.size_alloc, if_true] <;> (repeat rw [if_neg (by omega)])
  have hQ : rowN w1 (w.heap.size + 1 + 1) = some (natA 0) := by
    rw [hrow _ (by simp)]; simp only [rowN_alloc, World.size_alloc, if_true] <;> (repeat rw [if_neg (by omega)])
  have hR : rowN w1 (w.heap.size + 1 + 1 + 1) = some (natA 0) := by
    rw [hrow _ (by simp)]; simp only [rowN_alloc, World.size_alloc, if_true] <;> (repeat rw [if_neg (by omega)])
  have hbel : Below w.heap.size w w1 := (((((Below.refl _ _).alloc (Nat.le_refl _) _).alloc (by simp) _).alloc (by simp; omega) _).alloc (by simp; omega) _).trans (hb1.mono (by simp; omega))
  have hsz : w.heap.size + 1 + 1 + 1 < w1.heap.size := by have := hb1.size; simp at this; omega
  have HBel := Lib.hid hbel
  have HQ := Lib.hid hQ
  have HR := Lib.hid hR
  clear hbel hrow hb1 hQ hR
  go_wp2_with fail
  refine (HS.out _).mono ?_
  rintro e w2 ⟨rfl, hb2⟩
  have hQ2 : rowN w2 (w.heap.size + 1 + 1) = some (natA 0) := by rw [brow hb2 _ (by omega)]; exact HQ.out
  have hR2 : rowN w2 (w.heap.size + 1 + 1 + 1) = some (natA 0) := by rw [brow hb2 _ (by omega)]; exact HR.out
  have HB2 := Lib.hid (HBel.out.trans (hb2.mono (by omega)))
  clear hb2 hA hB hsz
  go_wp2_with fail
  go_region
  go_wp2_with fail
  exact ret_nat_nat_tmp _ _ (natA q) (natA r) rfl rfl rfl rfl (by simp [rowN_setRow, rowN_drew, hQ2]) (natA_size _) (by simp [rowN_setRow, rowN_drew, hR2]) (natA_size _)
    ⟨rfl, below_setRow' (below_setRow' (Below.drew (below_setRow' (below_setRow' HB2.out (by omega) _) (by omega) _)) (by omega) _) (by omega) _⟩

theorem divide_full (v u : Nat) (hv : v < P64 ^ 16) (hu : u < P64 ^ 16) (h0 : 0 < u) (w : World) : Calls Try.prog 40 #[.agg (natA v), .agg (natA u)] w fun e w' =>
    e = .returned (.tuple #[.agg (natA (v / u)), .agg (natA (v % u)), .int .i64 0]) ∧ Below w.heap.size w w' := by
  by_cases h1 : u < P64
  · exact divide_short v u h0 h1 (fun W => divideShort_full v u hv h0 h1 W) w
  · have hn : 2 ≤ natLen u := by
      have hp := natLen_pow (v := u)
      rcases Nat.lt_or_ge (natLen u) 2 with h | h
      · exfalso
        have h2 : P64 ^ natLen u ≤ P64 ^ 1 := Nat.pow_le_pow_right P64_pos (by omega)
        rw [Nat.pow_one] at h2
        omega
      · exact h
    have hd0 : 0 < dgt P64 u (natLen u - 1) := by
      have h2 := natLen_pos (v := u) (by omega)
      have h3 := natLen_pow (v := u)
      unfold dgt
      rw [Nat.mod_eq_of_lt (by
        rw [Nat.div_lt_iff_lt_mul (Nat.pow_pos P64_pos), Nat.mul_comm, ← Nat.pow_succ, show (natLen u - 1).succ = natLen u by omega]; exact h3)]
      exact Nat.div_pos h2 (Nat.pow_pos P64_pos)
    have hd1 : dgt P64 u (natLen u - 1) < P64 := dgt_lt P64_pos
    obtain ⟨b1, b2, b3⟩ := Lib.bitLenAux_bounds 64 _ (by rw [← P64_pow]; exact hd1) (by omega)
    have hb' : Lib.bitLenAux 64 (dgt P64 u (natLen u - 1)) = Lib.bitLen (dgt P64 u (natLen u - 1)) := rfl
    rw [hb'] at b1 b2 b3
    have hb2 : Lib.bitLen (dgt P64 u (natLen u - 1)) ≤ 64 := by
      have h2 : 2 ^ (Lib.bitLen (dgt P64 u (natLen u - 1)) - 1) < 2 ^ 64 := Nat.lt_of_le_of_lt b2 (by rw [← P64_pow]; exact hd1)
      have h3 := (Nat.pow_lt_pow_iff_right (show 1 < 2 by omega)).1 h2
      omega
    exact divide_long v u hu hn (fun W => divideLong_any v u (64 - Lib.bitLen (dgt P64 u (natLen u - 1))) hv hu hn (by omega) (by omega) W) w

theorem gcd_full (v u : Nat) (hv : v < P64 ^ 16) (hu : u < P64 ^ 16) (w : World) : Calls Try.prog 38 #[.agg (natA v), .agg (natA u)] w fun e w' => e = .returned (.agg (natA (Nat.gcd v u))) ∧ Below w.heap.size w w' :=
  gcd_any (P64 ^ 16) (Nat.le_refl _) (fun x y W hx hy hyM => divide_full x y hx hyM hy W) v u hv hu w
end Go.Proofs.Ytkegdjndmeialaa

namespace Go.Proofs.Ytkegdjndmeialaa
open Go.RowKit

def RGcdRel (g : Nat) (w : World) (k : Nat) (sa sb : Value) (wr : World) : Prop :=
  ∃ x, x < 65536 ^ 64 ∧ k < 65536 ^ 64 ∧ Nat.gcd x k = g ∧ RefN x sa wr ∧ RefN k sb wr ∧ Below w.heap.size w wr

set_option maxRecDepth 100000 in
theorem rgcd_any (v u : Nat) (hv : v < 65536 ^ 64) (hu : u < 65536 ^ 64) (s t : Value) (w : World) (hs : RefN v s w) (ht : RefN u t w) :
    Calls Try.prog 39 #[s, t] w fun e w' => ∃ r, e = .returned r ∧ RefN (Nat.gcd v u) r w' ∧ Below w.heap.size w w' := by
  have HV := Lib.hid hv
  have HU := Lib.hid hu
  have HS := Lib.hid hs
  have HT := Lib.hid ht
  generalize hg : Nat.gcd v u = g
  have HG := Lib.hid hg
  clear hg hv hu hs ht
  go_enter Try.func39, Try.ntmps39
  go_wp2_with fail
  go_loopg [0, 1] u (fun k sa sb wr => RGcdRel g w k sa sb wr)
  case atStart => exact ⟨v, HV.out, HU.out, HG.out, HS.out, HT.out, Below.refl _ _⟩
  case round =>
    obtain ⟨x, hx, hk, hgcd, hA, hB, hbel⟩ := hrel
    have HX := Lib.hid hx
    have HK := Lib.hid hk
    have HGG := Lib.hid hgcd
    have HBel := Lib.hid hbel
    obtain ⟨ab, cb, rfl⟩ := ref_shape hB
    have HA := Lib.hid hA
    have HB := Lib.hid hB
    clear hx hk hgcd hbel hA hB
    obtain ⟨L, hL⟩ : ∃ L, dlen 65536 gk = L := ⟨_, rfl⟩
    have hLL : L ≤ 64 := by rw [← hL]; exact dlen_le (by omega) HK.out
    by_cases h0 : gk = 0
    · obtain rfl : L = 0 := by rw [← hL, h0]; rfl
      have HX0 := Lib.hid (show x = g by have := HGG.out; rw [h0, Nat.gcd_zero_right] at this; exact this)
      rw [hL] at HB ⊢
      clear h0 hL hLL
      go_wp2_with fail
      go_ret
      exact ⟨_, rfl, by rw [← HX0.out]; exact HA.out, HBel.out⟩
    · have hL0 : (0 : Int) < (L : Int) := by
        rcases Nat.eq_zero_or_pos L with h | h
        · exfalso
          have := lt_dlen (show 2 ≤ 65536 by omega) gk
          rw [hL, h, Nat.pow_zero] at this
          omega
        · omega
      have hc := rdivide_ref x gk _ _ _ wr HA.out HB.out (by have := dlen_le (show 2 ≤ 65536 by omega) HX.out; omega) (by omega) (by omega)
      rw [hL] at HB hc ⊢
      have HC := Lib.hid hc
      have HB1 := HB
      have H0 := Lib.hid h0
      have HL := Lib.hid hL
      clear h0 hL hc
      go_wp2_with fail
      refine HC.out.mono ?_
      rintro e w2 ⟨q, r, rfl, hq, hr, hb⟩
      have HR := Lib.hid hr
      have HB2 := Lib.hid (HB1.out.kept hb)
      have HBel2 := Lib.hid (HBel.out.trans (hb.mono HBel.out.size))
      clear hq hr hb
      go_wp2_with fail
      go_roundg (x % gk)
      case measure => exact Nat.mod_lt _ (by have := H0.out; omega)
      case rel =>
        refine ⟨gk, HK.out, Nat.lt_of_le_of_lt (Nat.mod_le _ _) HX.out, ?_, ?_, HR.out, HBel2.out⟩
        · rw [← HGG.out, Nat.gcd_comm x gk, Nat.gcd_rec gk x, Nat.gcd_comm]
        · exact HB2.out
end Go.Proofs.Ytkegdjndmeialaa

namespace Go.Proofs.Ytkegdjndmeialaa
open Go.RowKit

theorem two_st0 (W : World) (x y : Nat) : rowN ((((W.alloc (.cells (natA 0) 28)).alloc (.cells (natA 0) 28)).setRow W.heap.size (natA x)).setRow (W.heap.size + 1) (natA y)) W.heap.size = some (natA x) ∧
    rowN ((((W.alloc (.cells (natA 0) 28)).alloc (.cells (natA 0) 28)).setRow W.heap.size (natA x)).setRow (W.heap.size + 1) (natA y)) (W.heap.size + 1) = some (natA y) ∧
    Below W.heap.size W ((((W.alloc (.cells (natA 0) 28)).alloc (.cells (natA 0) 28)).setRow W.heap.size (natA x)).setRow (W.heap.size + 1) (natA y)) := by
  refine ⟨?_, ?_, below_setRow' (below_setRow' (((Below.refl _ _).alloc (Nat.le_refl _) _).alloc (by simp) _) (Nat.le_refl _) _) (by omega) _⟩
  · rw [rowN_setRow, if_neg (by omega), rowN_setRow, if_pos rfl, rowN_alloc, if_neg (by simp), rowN_alloc, if_pos rfl]; rfl
  · rw [rowN_setRow, if_pos rfl, rowN_setRow, if_neg (by omega), rowN_alloc, if_pos (by simp)]; rfl

theorem gcd_le16 {v u : Nat} (hv : v < P64 ^ 16) (hu : u < P64 ^ 16) : Nat.gcd v u < P64 ^ 16 := by
  rcases Nat.eq_zero_or_pos u with rfl | h
  · rw [Nat.gcd_zero_right]; exact hv
  · exact Nat.lt_of_le_of_lt (Nat.gcd_le_right _ h) hu

set_option maxRecDepth 100000 in
theorem divs_long (n n' : Nat) (a a' : Option Addr) (c c' : Nat) (w : World) (h : 128 < n ∨ 128 < n') :
    Calls Try.prog 8 #[.slice a n c, .slice a' n' c'] w fun e w' => e = .returned (.bool true) ∧ Below w.heap.size w w' := by
  by_cases h1 : 128 < n
  · clear h
    go_enter Try.func8, Try.ntmps8
    go_wp2_with fail
    refine (known_any _).mono ?_
    rintro e wK ⟨rfl, hb⟩
    have HBK := Lib.hid hb
    clear hb
    go_wp2_with fail
    go_ret
    exact ⟨rfl, HBK.out⟩
  · have h2 : 128 < n' := by omega
    clear h
    go_enter Try.func8, Try.ntmps8
    go_wp2_with fail
    refine (known_any _).mono ?_
    rintro e wK ⟨rfl, hb⟩
    have HBK := Lib.hid hb
    clear hb
    go_wp2_with fail
    go_ret
    exact ⟨rfl, HBK.out⟩

set_option maxRecDepth 100000 in
set_option maxHeartbeats 2000000 in
theorem divs_sp (zs ys : List Nat) (a a' : Option Addr) (c c' : Nat) (w : World) (hz : BytesAt zs (.slice a zs.length c) w) (hy : BytesAt ys (.slice a' ys.length c') w) (h1 : zs.length ≤ 128) (h2 : ys.length ≤ 128)
    (hs1 : zs.length ≤ 40) (hs2 : ys.length ≤ 40) (v u : Nat) (ev : valBE 256 zs = v) (eu : valBE 256 ys = u) (h0 : 0 < u) :
    Calls Try.prog 8 #[.slice a zs.length c, .slice a' ys.length c'] w fun e w' => e = .returned (.bool true) ∧ Below w.heap.size w w' := by
  have hv : v < P64 ^ 16 := by rw [← ev]; exact short_fits0 hz.1 h1
  have hu : u < P64 ^ 16 := by rw [← eu]; exact short_fits0 hy.1 h2
  have HM0 := Lib.hid (fun W hW => made_fits zs (.slice a zs.length c) W hW (by omega) (by rw [ev]; exact hv))
  have HM1 := Lib.hid (fun W hW => made_fits ys (.slice a' ys.length c') W hW (by omega) (by rw [eu]; exact hu))
  rw [ev] at HM0
  rw [eu] at HM1
  have HY0 := Lib.hid hz
  have HY1 := Lib.hid hy
  have HV := Lib.hid hv
  have HU := Lib.hid hu
  have HGCD := Lib.hid (gcd_full v u hv hu)
  have HRG := Lib.hid (fun (s t : Value) (W : World) (hs : RefN v s W) (ht : RefN u t W) => rgcd_any v u (by rw [← p64_65536]; exact hv) (by rw [← p64_65536]; exact hu) s t W hs ht)
  have HG := Lib.hid (gcd_le16 hv hu)
  generalize Nat.gcd v u = g at *
  have HDIV := Lib.hid (divide_full v u hv hu h0)
  have HRD := Lib.hid (fun (s t : Value) (W : World) (hs : RefN v s W) (ht : RefN u t W) => rdivide_ref v u _ s t W hs ht (by have := dlen16 hv; omega) (by have := dlen16 hu; omega) h0)
  have HQ16 := Lib.hid (Nat.lt_of_le_of_lt (Nat.div_le_self v u) hv)
  have HR16 := Lib.hid (Nat.lt_of_le_of_lt (Nat.mod_le v u) hv)
  generalize v / u = q at *
  generalize v % u = r at *
  obtain ⟨L, hL⟩ : ∃ L, dlen 65536 u = L := ⟨_, rfl⟩
  have hL0 : ((L : Int) == 0) = false := by
    have h : L ≠ 0 := by
      rintro rfl
      have := lt_dlen (show 2 ≤ 65536 by omega) u
      rw [hL, Nat.pow_zero] at this
      omega
    simpa using h
  have HLL := Lib.hid hL
  clear h0
  obtain ⟨n, hn⟩ : ∃ n, zs.length = n := ⟨_, rfl⟩
  obtain ⟨n', hn'⟩ : ∃ n', ys.length = n' := ⟨_, rfl⟩
  rw [hn] at HY0 HM0 h1 hs1 ⊢
  rw [hn'] at HY1 HM1 h2 hs2 ⊢
  clear hn hn' hz hy ev eu hv hu
  have HL := Lib.hid hL
  clear hL
  go_enter Try.func8, Try.ntmps8
  go_wp2_with fail
  refine (HM0.out _ HY0.out).mono ?_
  rintro e w1 ⟨tv, rfl, ht, hb⟩
  have HTv1 := Lib.hid ht
  have HB1 := Lib.hid hb
  clear ht hb
  go_wp2_with fail
  refine (HM1.out _ (HY1.out.kept (HB1.out.trans ((bel_st0 w1 v).mono HB1.out.size)))).mono ?_
  rintro e w2 ⟨tu, rfl, ht, hb⟩
  obtain ⟨hV, hk, hB⟩ := stored hb
  have HTv2 := Lib.hid ((HTv1.out.kept (bel_st0 w1 v)).kept hb)
  obtain ⟨au, cu, rfl⟩ := ref_shape ht
  have HTu2 := Lib.hid ht
  have HB2 := Lib.hid (HB1.out.trans (hB.mono HB1.out.size))
  have lV := rowN_lt hV
  clear hb hk hB HTv1 HB1 ht
  rw [HL.out] at HTu2 ⊢
  generalize w1.heap.size = b1 at *
  have HV2 := Lib.hid hV
  have hV3 := row_st0_other w2 u _ _ hV
  have hU3 := row_st0 w2 u
  go_wp2_with fail
  obtain ⟨W3, hW3⟩ : ∃ W3, (w2.alloc (.cells (natA 0) 28)).setRow w2.heap.size (natA u) = W3 := ⟨_, rfl⟩
  have HTv3 := Lib.hid (HTv2.out.kept (bel_st0 w2 u))
  have HTu3 := Lib.hid (HTu2.out.kept (bel_st0 w2 u))
  have HB3 := Lib.hid (HB2.out.trans ((bel_st0 w2 u).mono HB2.out.size))
  rw [hW3] at hV3 hU3 HTv3 HTu3 HB3 ⊢
  clear hW3 hV HV2 HTv2 HTu2 HB2
  generalize w2.heap.size = b2 at *
  have HV3 := Lib.hid hV3
  have HU3 := Lib.hid hU3
  refine (HGCD.out _).mono ?_
  rintro e w4 ⟨rfl, hb⟩
  have HV4 := Lib.hid (keptW hb HV3.out)
  have HU4 := Lib.hid (keptW hb HU3.out)
  have HTv4 := Lib.hid (HTv3.out.kept hb)
  have HTu4 := Lib.hid (HTu3.out.kept hb)
  have HB4 := Lib.hid (HB3.out.trans (hb.mono HB3.out.size))
  clear hb hV3 hU3 lV
  go_wp2_with fail
  refine (HRG.out _ _ _ HTv4.out HTu4.out).mono ?_
  rintro e w5 ⟨tg, rfl, hg, hb⟩
  have HTg5 := Lib.hid hg
  have HV5 := Lib.hid (keptW hb HV4.out)
  have HU5 := Lib.hid (keptW hb HU4.out)
  have HTv5 := Lib.hid (HTv4.out.kept hb)
  have HTu5 := Lib.hid (HTu4.out.kept hb)
  have HB5 := Lib.hid (HB4.out.trans (hb.mono HB4.out.size))
  clear hg hb
  go_wp2_with fail
  refine (same_eq g HG.out tg _ HTg5.out).mono ?_
  rintro e w6 ⟨rfl, hb⟩
  have HV6 := Lib.hid (keptW hb HV5.out)
  have HU6 := Lib.hid (keptW hb HU5.out)
  have HTv6 := Lib.hid (HTv5.out.kept hb)
  have HTu6 := Lib.hid (HTu5.out.kept hb)
  have HB6 := Lib.hid (HB5.out.trans (hb.mono HB5.out.size))
  have hV6 := HV6.out
  have hU6 := HU6.out
  clear hb HTg5
  go_wp2_with fail
  clear hV6 hU6
  refine (HDIV.out _).mono ?_
  rintro e w7 ⟨rfl, hb⟩
  have HTv7 := Lib.hid (HTv6.out.kept hb)
  have HTu7 := Lib.hid (HTu6.out.kept hb)
  have HB7 := Lib.hid (HB6.out.trans (hb.mono HB6.out.size))
  clear hb
  go_wp2_with fail
  obtain ⟨_, _, hb⟩ := two_st0 w7 q r
  have HTv8 := Lib.hid (HTv7.out.kept hb)
  have HTu8 := Lib.hid (HTu7.out.kept hb)
  have HB8 := Lib.hid (HB7.out.trans (hb.mono HB7.out.size))
  clear hb
  refine (HRD.out _ _ _ HTv8.out HTu8.out).mono ?_
  rintro e w9 ⟨tq, tr, rfl, hq, hr, hb⟩
  obtain ⟨hQ9, hR9, _, hB⟩ := stored2 hb
  have HTq9 := Lib.hid hq
  have HTr9 := Lib.hid hr
  have HR9 := Lib.hid hR9
  have HB9 := Lib.hid (HB7.out.trans (hB.mono HB7.out.size))
  clear hq hr hb hB HTv7 HTu7 HB7 HTv8 HTu8 HB8
  generalize w7.heap.size = b7 at *
  go_wp2_with fail
  refine (same_eq q HQ16.out tq _ HTq9.out).mono ?_
  rintro e w10 ⟨rfl, hb⟩
  have hR10 := keptW hb HR9.out
  have HTr10 := Lib.hid (HTr9.out.kept hb)
  have HB10' := Lib.hid (HB9.out.trans (hb.mono HB9.out.size))
  clear hb hQ9 hR9
  go_wp2_with fail
  refine (same_eq r HR16.out tr _ HTr10.out).mono ?_
  rintro e w11 ⟨rfl, hb⟩
  have HB10 := Lib.hid (HB10'.out.trans (hb.mono HB10'.out.size))
  clear hb hR10
  go_wp2_with fail
  refine (known_any _).mono ?_
  rintro e wK ⟨rfl, hb⟩
  have HBK := Lib.hid (HB10.out.trans (hb.mono HB10.out.size))
  clear hb
  go_wp2_with fail
  go_ret
  exact ⟨rfl, HBK.out⟩

set_option maxRecDepth 100000 in
set_option maxHeartbeats 2000000 in
theorem divs_sz (zs ys : List Nat) (a a' : Option Addr) (c c' : Nat) (w : World) (hz : BytesAt zs (.slice a zs.length c) w) (hy : BytesAt ys (.slice a' ys.length c') w) (h1 : zs.length ≤ 128) (h2 : ys.length ≤ 128)
    (hs1 : zs.length ≤ 40) (hs2 : ys.length ≤ 40) (v u : Nat) (ev : valBE 256 zs = v) (eu : valBE 256 ys = u) (h0 : u = 0) :
    Calls Try.prog 8 #[.slice a zs.length c, .slice a' ys.length c'] w fun e w' => e = .returned (.bool true) ∧ Below w.heap.size w w' := by
  have hv : v < P64 ^ 16 := by rw [← ev]; exact short_fits0 hz.1 h1
  have hu : u < P64 ^ 16 := by rw [← eu]; exact short_fits0 hy.1 h2
  have HM0 := Lib.hid (fun W hW => made_fits zs (.slice a zs.length c) W hW (by omega) (by rw [ev]; exact hv))
  have HM1 := Lib.hid (fun W hW => made_fits ys (.slice a' ys.length c') W hW (by omega) (by rw [eu]; exact hu))
  rw [ev] at HM0
  rw [eu] at HM1
  have HY0 := Lib.hid hz
  have HY1 := Lib.hid hy
  have HV := Lib.hid hv
  have HU := Lib.hid hu
  have HGCD := Lib.hid (gcd_full v u hv hu)
  have HRG := Lib.hid (fun (s t : Value) (W : World) (hs : RefN v s W) (ht : RefN u t W) => rgcd_any v u (by rw [← p64_65536]; exact hv) (by rw [← p64_65536]; exact hu) s t W hs ht)
  have HG := Lib.hid (gcd_le16 hv hu)
  generalize Nat.gcd v u = g at *
  subst h0
  have HDIV := Lib.hid (divide_zero v)
  have hL : dlen 65536 0 = 0 := rfl
  obtain ⟨n, hn⟩ : ∃ n, zs.length = n := ⟨_, rfl⟩
  obtain ⟨n', hn'⟩ : ∃ n', ys.length = n' := ⟨_, rfl⟩
  rw [hn] at HY0 HM0 h1 hs1 ⊢
  rw [hn'] at HY1 HM1 h2 hs2 ⊢
  clear hn hn' hz hy ev eu hv hu
  have HL := Lib.hid hL
  clear hL
  go_enter Try.func8, Try.ntmps8
  go_wp2_with fail
  refine (HM0.out _ HY0.out).mono ?_
  rintro e w1 ⟨tv, rfl, ht, hb⟩
  have HTv1 := Lib.hid ht
  have HB1 := Lib.hid hb
  clear ht hb
  go_wp2_with fail
  refine (HM1.out _ (HY1.out.kept (HB1.out.trans ((bel_st0 w1 v).mono HB1.out.size)))).mono ?_
  rintro e w2 ⟨tu, rfl, ht, hb⟩
  obtain ⟨hV, hk, hB⟩ := stored hb
  have HTv2 := Lib.hid ((HTv1.out.kept (bel_st0 w1 v)).kept hb)
  obtain ⟨au, cu, rfl⟩ := ref_shape ht
  have HTu2 := Lib.hid ht
  have HB2 := Lib.hid (HB1.out.trans (hB.mono HB1.out.size))
  have lV := rowN_lt hV
  clear hb hk hB HTv1 HB1 ht
  rw [HL.out] at HTu2 ⊢
  generalize w1.heap.size = b1 at *
  have HV2 := Lib.hid hV
  have hV3 := row_st0_other w2 0 _ _ hV
  have hU3 := row_st0 w2 0
  go_wp2_with fail
  obtain ⟨W3, hW3⟩ : ∃ W3, (w2.alloc (.cells (natA 0) 28)).setRow w2.heap.size (natA 0) = W3 := ⟨_, rfl⟩
  have HTv3 := Lib.hid (HTv2.out.kept (bel_st0 w2 0))
  have HTu3 := Lib.hid (HTu2.out.kept (bel_st0 w2 0))
  have HB3 := Lib.hid (HB2.out.trans ((bel_st0 w2 0).mono HB2.out.size))
  rw [hW3] at hV3 hU3 HTv3 HTu3 HB3 ⊢
  clear hW3 hV HV2 HTv2 HTu2 HB2
  generalize w2.heap.size = b2 at *
  have HV3 := Lib.hid hV3
  have HU3 := Lib.hid hU3
  refine (HGCD.out _).mono ?_
  rintro e w4 ⟨rfl, hb⟩
  have HV4 := Lib.hid (keptW hb HV3.out)
  have HU4 := Lib.hid (keptW hb HU3.out)
  have HTv4 := Lib.hid (HTv3.out.kept hb)
  have HTu4 := Lib.hid (HTu3.out.kept hb)
  have HB4 := Lib.hid (HB3.out.trans (hb.mono HB3.out.size))
  clear hb hV3 hU3 lV
  go_wp2_with fail
  refine (HRG.out _ _ _ HTv4.out HTu4.out).mono ?_
  rintro e w5 ⟨tg, rfl, hg, hb⟩
  have HTg5 := Lib.hid hg
  have HV5 := Lib.hid (keptW hb HV4.out)
  have HU5 := Lib.hid (keptW hb HU4.out)
  have HTv5 := Lib.hid (HTv4.out.kept hb)
  have HTu5 := Lib.hid (HTu4.out.kept hb)
  have HB5 := Lib.hid (HB4.out.trans (hb.mono HB4.out.size))
  clear hg hb
  go_wp2_with fail
  refine (same_eq g HG.out tg _ HTg5.out).mono ?_
  rintro e w6 ⟨rfl, hb⟩
  have HV6 := Lib.hid (keptW hb HV5.out)
  have HU6 := Lib.hid (keptW hb HU5.out)
  have HTv6 := Lib.hid (HTv5.out.kept hb)
  have HTu6 := Lib.hid (HTu5.out.kept hb)
  have HB6 := Lib.hid (HB5.out.trans (hb.mono HB5.out.size))
  have hV6 := HV6.out
  have hU6 := HU6.out
  clear hb HTg5
  go_wp2_with fail
  clear hV6 hU6
  refine (HDIV.out _).mono ?_
  rintro e w7 ⟨rfl, hb⟩
  have HTv7 := Lib.hid (HTv6.out.kept hb)
  have HTu7 := Lib.hid (HTu6.out.kept hb)
  have HB7 := Lib.hid (HB6.out.trans (hb.mono HB6.out.size))
  clear hb
  go_wp2_with fail
  obtain ⟨hq8, hr8, hb⟩ := two_st0 w7 0 0
  have HB8 := Lib.hid (HB7.out.trans (hb.mono HB7.out.size))
  clear hb
  obtain ⟨W8, hW8⟩ : ∃ W8, (((w7.alloc (.cells (natA 0) 28)).alloc (.cells (natA 0) 28)).setRow w7.heap.size (natA 0)).setRow (w7.heap.size + 1) (natA 0) = W8 := ⟨_, rfl⟩
  rw [hW8] at hq8 hr8 HB8 ⊢
  clear hW8 HTv7 HTu7 HB7
  generalize w7.heap.size = b7 at *
  have HR8 := Lib.hid hr8
  refine (isZero0 _).mono ?_
  rintro e w9 ⟨rfl, hb⟩
  have hR9 := keptW hb HR8.out
  have HB9 := Lib.hid (HB8.out.trans (hb.mono HB8.out.size))
  clear hb hq8 hr8
  go_wp2_with fail
  refine (isZero0 _).mono ?_
  rintro e w10 ⟨rfl, hb⟩
  have HB10 := Lib.hid (HB9.out.trans (hb.mono HB9.out.size))
  clear hb hR9
  go_wp2_with fail
  refine (known_any _).mono ?_
  rintro e wK ⟨rfl, hb⟩
  have HBK := Lib.hid (HB10.out.trans (hb.mono HB10.out.size))
  clear hb
  go_wp2_with fail
  go_ret
  exact ⟨rfl, HBK.out⟩

set_option maxRecDepth 100000 in
set_option maxHeartbeats 2000000 in
theorem divs_lp (zs ys : List Nat) (a a' : Option Addr) (c c' : Nat) (w : World) (hz : BytesAt zs (.slice a zs.length c) w) (hy : BytesAt ys (.slice a' ys.length c') w) (h1 : zs.length ≤ 128) (h2 : ys.length ≤ 128)
    (hs1 : 40 < zs.length) (v u : Nat) (ev : valBE 256 zs = v) (eu : valBE 256 ys = u) (h0 : 0 < u) :
    Calls Try.prog 8 #[.slice a zs.length c, .slice a' ys.length c'] w fun e w' => e = .returned (.bool true) ∧ Below w.heap.size w w' := by
  have hv : v < P64 ^ 16 := by rw [← ev]; exact short_fits0 hz.1 h1
  have hu : u < P64 ^ 16 := by rw [← eu]; exact short_fits0 hy.1 h2
  have HM0 := Lib.hid (fun W hW => made_fits zs (.slice a zs.length c) W hW (by omega) (by rw [ev]; exact hv))
  have HM1 := Lib.hid (fun W hW => made_fits ys (.slice a' ys.length c') W hW (by omega) (by rw [eu]; exact hu))
  rw [ev] at HM0
  rw [eu] at HM1
  have HY0 := Lib.hid hz
  have HY1 := Lib.hid hy
  have HV := Lib.hid hv
  have HU := Lib.hid hu
  have HDIV := Lib.hid (divide_full v u hv hu h0)
  have HRD := Lib.hid (fun (s t : Value) (W : World) (hs : RefN v s W) (ht : RefN u t W) => rdivide_ref v u _ s t W hs ht (by have := dlen16 hv; omega) (by have := dlen16 hu; omega) h0)
  have HQ16 := Lib.hid (Nat.lt_of_le_of_lt (Nat.div_le_self v u) hv)
  have HR16 := Lib.hid (Nat.lt_of_le_of_lt (Nat.mod_le v u) hv)
  generalize v / u = q at *
  generalize v % u = r at *
  obtain ⟨L, hL⟩ : ∃ L, dlen 65536 u = L := ⟨_, rfl⟩
  have hL0 : ((L : Int) == 0) = false := by
    have h : L ≠ 0 := by
      rintro rfl
      have := lt_dlen (show 2 ≤ 65536 by omega) u
      rw [hL, Nat.pow_zero] at this
      omega
    simpa using h
  have HLL := Lib.hid hL
  clear h0
  obtain ⟨n, hn⟩ : ∃ n, zs.length = n := ⟨_, rfl⟩
  obtain ⟨n', hn'⟩ : ∃ n', ys.length = n' := ⟨_, rfl⟩
  rw [hn] at HY0 HM0 h1 hs1 ⊢
  rw [hn'] at HY1 HM1 h2  ⊢
  clear hn hn' hz hy ev eu hv hu
  have HL := Lib.hid hL
  clear hL
  go_enter Try.func8, Try.ntmps8
  go_wp2_with fail
  refine (HM0.out _ HY0.out).mono ?_
  rintro e w1 ⟨tv, rfl, ht, hb⟩
  have HTv1 := Lib.hid ht
  have HB1 := Lib.hid hb
  clear ht hb
  go_wp2_with fail
  refine (HM1.out _ (HY1.out.kept (HB1.out.trans ((bel_st0 w1 v).mono HB1.out.size)))).mono ?_
  rintro e w2 ⟨tu, rfl, ht, hb⟩
  obtain ⟨hV, hk, hB⟩ := stored hb
  have HTv2 := Lib.hid ((HTv1.out.kept (bel_st0 w1 v)).kept hb)
  obtain ⟨au, cu, rfl⟩ := ref_shape ht
  have HTu2 := Lib.hid ht
  have HB2 := Lib.hid (HB1.out.trans (hB.mono HB1.out.size))
  have lV := rowN_lt hV
  clear hb hk hB HTv1 HB1 ht
  rw [HL.out] at HTu2 ⊢
  generalize w1.heap.size = b1 at *
  have HV2 := Lib.hid hV
  have hV3 := row_st0_other w2 u _ _ hV
  have hU3 := row_st0 w2 u
  go_wp2_with fail
  obtain ⟨W3, hW3⟩ : ∃ W3, (w2.alloc (.cells (natA 0) 28)).setRow w2.heap.size (natA u) = W3 := ⟨_, rfl⟩
  have HTv3 := Lib.hid (HTv2.out.kept (bel_st0 w2 u))
  have HTu3 := Lib.hid (HTu2.out.kept (bel_st0 w2 u))
  have HB3 := Lib.hid (HB2.out.trans ((bel_st0 w2 u).mono HB2.out.size))
  rw [hW3] at hV3 hU3 HTv3 HTu3 HB3 ⊢
  clear hW3 hV HV2 HTv2 HTu2 HB2
  generalize w2.heap.size = b2 at *
  have HV3 := Lib.hid hV3
  have HU3 := Lib.hid hU3
  refine (HDIV.out _).mono ?_
  rintro e w7 ⟨rfl, hb⟩
  have HTv7 := Lib.hid (HTv3.out.kept hb)
  have HTu7 := Lib.hid (HTu3.out.kept hb)
  have HB7 := Lib.hid (HB3.out.trans (hb.mono HB3.out.size))
  clear hb
  go_wp2_with fail
  obtain ⟨_, _, hb⟩ := two_st0 w7 q r
  have HTv8 := Lib.hid (HTv7.out.kept hb)
  have HTu8 := Lib.hid (HTu7.out.kept hb)
  have HB8 := Lib.hid (HB7.out.trans (hb.mono HB7.out.size))
  clear hb
  refine (HRD.out _ _ _ HTv8.out HTu8.out).mono ?_
  rintro e w9 ⟨tq, tr, rfl, hq, hr, hb⟩
  obtain ⟨hQ9, hR9, _, hB⟩ := stored2 hb
  have HTq9 := Lib.hid hq
  have HTr9 := Lib.hid hr
  have HR9 := Lib.hid hR9
  have HB9 := Lib.hid (HB7.out.trans (hB.mono HB7.out.size))
  clear hq hr hb hB HTv7 HTu7 HB7 HTv8 HTu8 HB8
  generalize w7.heap.size = b7 at *
  go_wp2_with fail
  refine (same_eq q HQ16.out tq _ HTq9.out).mono ?_
  rintro e w10 ⟨rfl, hb⟩
  have hR10 := keptW hb HR9.out
  have HTr10 := Lib.hid (HTr9.out.kept hb)
  have HB10' := Lib.hid (HB9.out.trans (hb.mono HB9.out.size))
  clear hb hQ9 hR9
  go_wp2_with fail
  refine (same_eq r HR16.out tr _ HTr10.out).mono ?_
  rintro e w11 ⟨rfl, hb⟩
  have HB10 := Lib.hid (HB10'.out.trans (hb.mono HB10'.out.size))
  clear hb hR10
  go_wp2_with fail
  refine (known_any _).mono ?_
  rintro e wK ⟨rfl, hb⟩
  have HBK := Lib.hid (HB10.out.trans (hb.mono HB10.out.size))
  clear hb
  go_wp2_with fail
  go_ret
  exact ⟨rfl, HBK.out⟩

set_option maxRecDepth 100000 in
set_option maxHeartbeats 2000000 in
theorem divs_lz (zs ys : List Nat) (a a' : Option Addr) (c c' : Nat) (w : World) (hz : BytesAt zs (.slice a zs.length c) w) (hy : BytesAt ys (.slice a' ys.length c') w) (h1 : zs.length ≤ 128) (h2 : ys.length ≤ 128)
    (hs1 : 40 < zs.length) (v u : Nat) (ev : valBE 256 zs = v) (eu : valBE 256 ys = u) (h0 : u = 0) :
    Calls Try.prog 8 #[.slice a zs.length c, .slice a' ys.length c'] w fun e w' => e = .returned (.bool true) ∧ Below w.heap.size w w' := by
  have hv : v < P64 ^ 16 := by rw [← ev]; exact short_fits0 hz.1 h1
  have hu : u < P64 ^ 16 := by rw [← eu]; exact short_fits0 hy.1 h2
  have HM0 := Lib.hid (fun W hW => made_fits zs (.slice a zs.length c) W hW (by omega) (by rw [ev]; exact hv))
  have HM1 := Lib.hid (fun W hW => made_fits ys (.slice a' ys.length c') W hW (by omega) (by rw [eu]; exact hu))
  rw [ev] at HM0
  rw [eu] at HM1
  have HY0 := Lib.hid hz
  have HY1 := Lib.hid hy
  have HV := Lib.hid hv
  have HU := Lib.hid hu
  subst h0
  have HDIV := Lib.hid (divide_zero v)
  have hL : dlen 65536 0 = 0 := rfl
  obtain ⟨n, hn⟩ : ∃ n, zs.length = n := ⟨_, rfl⟩
  obtain ⟨n', hn'⟩ : ∃ n', ys.length = n' := ⟨_, rfl⟩
  rw [hn] at HY0 HM0 h1 hs1 ⊢
  rw [hn'] at HY1 HM1 h2  ⊢
  clear hn hn' hz hy ev eu hv hu
  have HL := Lib.hid hL
  clear hL
  go_enter Try.func8, Try.ntmps8
  go_wp2_with fail
  refine (HM0.out _ HY0.out).mono ?_
  rintro e w1 ⟨tv, rfl, ht, hb⟩
  have HTv1 := Lib.hid ht
  have HB1 := Lib.hid hb
  clear ht hb
  go_wp2_with fail
  refine (HM1.out _ (HY1.out.kept (HB1.out.trans ((bel_st0 w1 v).mono HB1.out.size)))).mono ?_
  rintro e w2 ⟨tu, rfl, ht, hb⟩
  obtain ⟨hV, hk, hB⟩ := stored hb
  have HTv2 := Lib.hid ((HTv1.out.kept (bel_st0 w1 v)).kept hb)
  obtain ⟨au, cu, rfl⟩ := ref_shape ht
  have HTu2 := Lib.hid ht
  have HB2 := Lib.hid (HB1.out.trans (hB.mono HB1.out.size))
  have lV := rowN_lt hV
  clear hb hk hB HTv1 HB1 ht
  rw [HL.out] at HTu2 ⊢
  generalize w1.heap.size = b1 at *
  have HV2 := Lib.hid hV
  have hV3 := row_st0_other w2 0 _ _ hV
  have hU3 := row_st0 w2 0
  go_wp2_with fail
  obtain ⟨W3, hW3⟩ : ∃ W3, (w2.alloc (.cells (natA 0) 28)).setRow w2.heap.size (natA 0) = W3 := ⟨_, rfl⟩
  have HTv3 := Lib.hid (HTv2.out.kept (bel_st0 w2 0))
  have HTu3 := Lib.hid (HTu2.out.kept (bel_st0 w2 0))
  have HB3 := Lib.hid (HB2.out.trans ((bel_st0 w2 0).mono HB2.out.size))
  rw [hW3] at hV3 hU3 HTv3 HTu3 HB3 ⊢
  clear hW3 hV HV2 HTv2 HTu2 HB2
  generalize w2.heap.size = b2 at *
  have HV3 := Lib.hid hV3
  have HU3 := Lib.hid hU3
  refine (HDIV.out _).mono ?_
  rintro e w7 ⟨rfl, hb⟩
  have HTv7 := Lib.hid (HTv3.out.kept hb)
  have HTu7 := Lib.hid (HTu3.out.kept hb)
  have HB7 := Lib.hid (HB3.out.trans (hb.mono HB3.out.size))
  clear hb
  go_wp2_with fail
  obtain ⟨hq8, hr8, hb⟩ := two_st0 w7 0 0
  have HB8 := Lib.hid (HB7.out.trans (hb.mono HB7.out.size))
  clear hb
  obtain ⟨W8, hW8⟩ : ∃ W8, (((w7.alloc (.cells (natA 0) 28)).alloc (.cells (natA 0) 28)).setRow w7.heap.size (natA 0)).setRow (w7.heap.size + 1) (natA 0) = W8 := ⟨_, rfl⟩
  rw [hW8] at hq8 hr8 HB8 ⊢
  clear hW8 HTv7 HTu7 HB7
  generalize w7.heap.size = b7 at *
  have HR8 := Lib.hid hr8
  refine (isZero0 _).mono ?_
  rintro e w9 ⟨rfl, hb⟩
  have hR9 := keptW hb HR8.out
  have HB9 := Lib.hid (HB8.out.trans (hb.mono HB8.out.size))
  clear hb hq8 hr8
  go_wp2_with fail
  refine (isZero0 _).mono ?_
  rintro e w10 ⟨rfl, hb⟩
  have HB10 := Lib.hid (HB9.out.trans (hb.mono HB9.out.size))
  clear hb hR9
  go_wp2_with fail
  refine (known_any _).mono ?_
  rintro e wK ⟨rfl, hb⟩
  have HBK := Lib.hid (HB10.out.trans (hb.mono HB10.out.size))
  clear hb
  go_wp2_with fail
  go_ret
  exact ⟨rfl, HBK.out⟩

set_option maxRecDepth 100000 in
set_option maxHeartbeats 2000000 in
theorem divs_mp (zs ys : List Nat) (a a' : Option Addr) (c c' : Nat) (w : World) (hz : BytesAt zs (.slice a zs.length c) w) (hy : BytesAt ys (.slice a' ys.length c') w) (h1 : zs.length ≤ 128) (h2 : ys.length ≤ 128)
    (hs1 : zs.length ≤ 40) (hs2 : 40 < ys.length) (v u : Nat) (ev : valBE 256 zs = v) (eu : valBE 256 ys = u) (h0 : 0 < u) :
    Calls Try.prog 8 #[.slice a zs.length c, .slice a' ys.length c'] w fun e w' => e = .returned (.bool true) ∧ Below w.heap.size w w' := by
  have hv : v < P64 ^ 16 := by rw [← ev]; exact short_fits0 hz.1 h1
  have hu : u < P64 ^ 16 := by rw [← eu]; exact short_fits0 hy.1 h2
  have HM0 := Lib.hid (fun W hW => made_fits zs (.slice a zs.length c) W hW (by omega) (by rw [ev]; exact hv))
  have HM1 := Lib.hid (fun W hW => made_fits ys (.slice a' ys.length c') W hW (by omega) (by rw [eu]; exact hu))
  rw [ev] at HM0
  rw [eu] at HM1
  have HY0 := Lib.hid hz
  have HY1 := Lib.hid hy
  have HV := Lib.hid hv
  have HU := Lib.hid hu
  have HDIV := Lib.hid (divide_full v u hv hu h0)
  have HRD := Lib.hid (fun (s t : Value) (W : World) (hs : RefN v s W) (ht : RefN u t W) => rdivide_ref v u _ s t W hs ht (by have := dlen16 hv; omega) (by have := dlen16 hu; omega) h0)
  have HQ16 := Lib.hid (Nat.lt_of_le_of_lt (Nat.div_le_self v u) hv)
  have HR16 := Lib.hid (Nat.lt_of_le_of_lt (Nat.mod_le v u) hv)
  generalize v / u = q at *
  generalize v % u = r at *
  obtain ⟨L, hL⟩ : ∃ L, dlen 65536 u = L := ⟨_, rfl⟩
  have hL0 : ((L : Int) == 0) = false := by
    have h : L ≠ 0 := by
      rintro rfl
      have := lt_dlen (show 2 ≤ 65536 by omega) u
      rw [hL, Nat.pow_zero] at this
      omega
    simpa using h
  have HLL := Lib.hid hL
  clear h0
  obtain ⟨n, hn⟩ : ∃ n, zs.length = n := ⟨_, rfl⟩
  obtain ⟨n', hn'⟩ : ∃ n', ys.length = n' := ⟨_, rfl⟩
  rw [hn] at HY0 HM0 h1 hs1 ⊢
  rw [hn'] at HY1 HM1 h2 hs2 ⊢
  clear hn hn' hz hy ev eu hv hu
  have HL := Lib.hid hL
  clear hL
  go_enter Try.func8, Try.ntmps8
  go_wp2_with fail
  refine (HM0.out _ HY0.out).mono ?_
  rintro e w1 ⟨tv, rfl, ht, hb⟩
  have HTv1 := Lib.hid ht
  have HB1 := Lib.hid hb
  clear ht hb
  go_wp2_with fail
  refine (HM1.out _ (HY1.out.kept (HB1.out.trans ((bel_st0 w1 v).mono HB1.out.size)))).mono ?_
  rintro e w2 ⟨tu, rfl, ht, hb⟩
  obtain ⟨hV, hk, hB⟩ := stored hb
  have HTv2 := Lib.hid ((HTv1.out.kept (bel_st0 w1 v)).kept hb)
  obtain ⟨au, cu, rfl⟩ := ref_shape ht
  have HTu2 := Lib.hid ht
  have HB2 := Lib.hid (HB1.out.trans (hB.mono HB1.out.size))
  have lV := rowN_lt hV
  clear hb hk hB HTv1 HB1 ht
  rw [HL.out] at HTu2 ⊢
  generalize w1.heap.size = b1 at *
  have HV2 := Lib.hid hV
  have hV3 := row_st0_other w2 u _ _ hV
  have hU3 := row_st0 w2 u
  go_wp2_with fail
  obtain ⟨W3, hW3⟩ : ∃ W3, (w2.alloc (.cells (natA 0) 28)).setRow w2.heap.size (natA u) = W3 := ⟨_, rfl⟩
  have HTv3 := Lib.hid (HTv2.out.kept (bel_st0 w2 u))
  have HTu3 := Lib.hid (HTu2.out.kept (bel_st0 w2 u))
  have HB3 := Lib.hid (HB2.out.trans ((bel_st0 w2 u).mono HB2.out.size))
  rw [hW3] at hV3 hU3 HTv3 HTu3 HB3 ⊢
  clear hW3 hV HV2 HTv2 HTu2 HB2
  generalize w2.heap.size = b2 at *
  have HV3 := Lib.hid hV3
  have HU3 := Lib.hid hU3
  refine (HDIV.out _).mono ?_
  rintro e w7 ⟨rfl, hb⟩
  have HTv7 := Lib.hid (HTv3.out.kept hb)
  have HTu7 := Lib.hid (HTu3.out.kept hb)
  have HB7 := Lib.hid (HB3.out.trans (hb.mono HB3.out.size))
  clear hb
  go_wp2_with fail
  obtain ⟨_, _, hb⟩ := two_st0 w7 q r
  have HTv8 := Lib.hid (HTv7.out.kept hb)
  have HTu8 := Lib.hid (HTu7.out.kept hb)
  have HB8 := Lib.hid (HB7.out.trans (hb.mono HB7.out.size))
  clear hb
  refine (HRD.out _ _ _ HTv8.out HTu8.out).mono ?_
  rintro e w9 ⟨tq, tr, rfl, hq, hr, hb⟩
  obtain ⟨hQ9, hR9, _, hB⟩ := stored2 hb
  have HTq9 := Lib.hid hq
  have HTr9 := Lib.hid hr
  have HR9 := Lib.hid hR9
  have HB9 := Lib.hid (HB7.out.trans (hB.mono HB7.out.size))
  clear hq hr hb hB HTv7 HTu7 HB7 HTv8 HTu8 HB8
  generalize w7.heap.size = b7 at *
  go_wp2_with fail
  refine (same_eq q HQ16.out tq _ HTq9.out).mono ?_
  rintro e w10 ⟨rfl, hb⟩
  have hR10 := keptW hb HR9.out
  have HTr10 := Lib.hid (HTr9.out.kept hb)
  have HB10' := Lib.hid (HB9.out.trans (hb.mono HB9.out.size))
  clear hb hQ9 hR9
  go_wp2_with fail
  refine (same_eq r HR16.out tr _ HTr10.out).mono ?_
  rintro e w11 ⟨rfl, hb⟩
  have HB10 := Lib.hid (HB10'.out.trans (hb.mono HB10'.out.size))
  clear hb hR10
  go_wp2_with fail
  refine (known_any _).mono ?_
  rintro e wK ⟨rfl, hb⟩
  have HBK := Lib.hid (HB10.out.trans (hb.mono HB10.out.size))
  clear hb
  go_wp2_with fail
  go_ret
  exact ⟨rfl, HBK.out⟩

set_option maxRecDepth 100000 in
set_option maxHeartbeats 2000000 in
theorem divs_mz (zs ys : List Nat) (a a' : Option Addr) (c c' : Nat) (w : World) (hz : BytesAt zs (.slice a zs.length c) w) (hy : BytesAt ys (.slice a' ys.length c') w) (h1 : zs.length ≤ 128) (h2 : ys.length ≤ 128)
    (hs1 : zs.length ≤ 40) (hs2 : 40 < ys.length) (v u : Nat) (ev : valBE 256 zs = v) (eu : valBE 256 ys = u) (h0 : u = 0) :
    Calls Try.prog 8 #[.slice a zs.length c, .slice a' ys.length c'] w fun e w' => e = .returned (.bool true) ∧ Below w.heap.size w w' := by
  have hv : v < P64 ^ 16 := by rw [← ev]; exact short_fits0 hz.1 h1
  have hu : u < P64 ^ 16 := by rw [← eu]; exact short_fits0 hy.1 h2
  have HM0 := Lib.hid (fun W hW => made_fits zs (.slice a zs.length c) W hW (by omega) (by rw [ev]; exact hv))
  have HM1 := Lib.hid (fun W hW => made_fits ys (.slice a' ys.length c') W hW (by omega) (by rw [eu]; exact hu))
  rw [ev] at HM0
  rw [eu] at HM1
  have HY0 := Lib.hid hz
  have HY1 := Lib.hid hy
  have HV := Lib.hid hv
  have HU := Lib.hid hu
  subst h0
  have HDIV := Lib.hid (divide_zero v)
  have hL : dlen 65536 0 = 0 := rfl
  obtain ⟨n, hn⟩ : ∃ n, zs.length = n := ⟨_, rfl⟩
  obtain ⟨n', hn'⟩ : ∃ n', ys.length = n' := ⟨_, rfl⟩
  rw [hn] at HY0 HM0 h1 hs1 ⊢
  rw [hn'] at HY1 HM1 h2 hs2 ⊢
  clear hn hn' hz hy ev eu hv hu
  have HL := Lib.hid hL
  clear hL
  go_enter Try.func8, Try.ntmps8
  go_wp2_with fail
  refine (HM0.out _ HY0.out).mono ?_
  rintro e w1 ⟨tv, rfl, ht, hb⟩
  have HTv1 := Lib.hid ht
  have HB1 := Lib.hid hb
  clear ht hb
  go_wp2_with fail
  refine (HM1.out _ (HY1.out.kept (HB1.out.trans ((bel_st0 w1 v).mono HB1.out.size)))).mono ?_
  rintro e w2 ⟨tu, rfl, ht, hb⟩
  obtain ⟨hV, hk, hB⟩ := stored hb
  have HTv2 := Lib.hid ((HTv1.out.kept (bel_st0 w1 v)).kept hb)
  obtain ⟨au, cu, rfl⟩ := ref_shape ht
  have HTu2 := Lib.hid ht
  have HB2 := Lib.hid (HB1.out.trans (hB.mono HB1.out.size))
  have lV := rowN_lt hV
  clear hb hk hB HTv1 HB1 ht
  rw [HL.out] at HTu2 ⊢
  generalize w1.heap.size = b1 at *
  have HV2 := Lib.hid hV
  have hV3 := row_st0_other w2 0 _ _ hV
  have hU3 := row_st0 w2 0
  go_wp2_with fail
  obtain ⟨W3, hW3⟩ : ∃ W3, (w2.alloc (.cells (natA 0) 28)).setRow w2.heap.size (natA 0) = W3 := ⟨_, rfl⟩
  have HTv3 := Lib.hid (HTv2.out.kept (bel_st0 w2 0))
  have HTu3 := Lib.hid (HTu2.out.kept (bel_st0 w2 0))
  have HB3 := Lib.hid (HB2.out.trans ((bel_st0 w2 0).mono HB2.out.size))
  rw [hW3] at hV3 hU3 HTv3 HTu3 HB3 ⊢
  clear hW3 hV HV2 HTv2 HTu2 HB2
  generalize w2.heap.size = b2 at *
  have HV3 := Lib.hid hV3
  have HU3 := Lib.hid hU3
  refine (HDIV.out _).mono ?_
  rintro e w7 ⟨rfl, hb⟩
  have HTv7 := Lib.hid (HTv3.out.kept hb)
  have HTu7 := Lib.hid (HTu3.out.kept hb)
  have HB7 := Lib.hid (HB3.out.trans (hb.mono HB3.out.size))
  clear hb
  go_wp2_with fail
  obtain ⟨hq8, hr8, hb⟩ := two_st0 w7 0 0
  have HB8 := Lib.hid (HB7.out.trans (hb.mono HB7.out.size))
  clear hb
  obtain ⟨W8, hW8⟩ : ∃ W8, (((w7.alloc (.cells (natA 0) 28)).alloc (.cells (natA 0) 28)).setRow w7.heap.size (natA 0)).setRow (w7.heap.size + 1) (natA 0) = W8 := ⟨_, rfl⟩
  rw [hW8] at hq8 hr8 HB8 ⊢
  clear hW8 HTv7 HTu7 HB7
  generalize w7.heap.size = b7 at *
  have HR8 := Lib.hid hr8
  refine (isZero0 _).mono ?_
  rintro e w9 ⟨rfl, hb⟩
  have hR9 := keptW hb HR8.out
  have HB9 := Lib.hid (HB8.out.trans (hb.mono HB8.out.size))
  clear hb hq8 hr8
  go_wp2_with fail
  refine (isZero0 _).mono ?_
  rintro e w10 ⟨rfl, hb⟩
  have HB10 := Lib.hid (HB9.out.trans (hb.mono HB9.out.size))
  clear hb hR9
  go_wp2_with fail
  refine (known_any _).mono ?_
  rintro e wK ⟨rfl, hb⟩
  have HBK := Lib.hid (HB10.out.trans (hb.mono HB10.out.size))
  clear hb
  go_wp2_with fail
  go_ret
  exact ⟨rfl, HBK.out⟩

theorem divs_all (zs ys : List Nat) (a a' : Option Addr) (c c' : Nat) (w : World) (hz : BytesAt zs (.slice a zs.length c) w) (hy : BytesAt ys (.slice a' ys.length c') w) :
    Calls Try.prog 8 #[.slice a zs.length c, .slice a' ys.length c'] w fun e w' => e = .returned (.bool true) ∧ Below w.heap.size w w' := by
  by_cases hl : 128 < zs.length ∨ 128 < ys.length
  · exact divs_long _ _ a a' c c' w hl
  · rcases Nat.eq_zero_or_pos (valBE 256 ys) with h0 | h0
    · by_cases s1 : 40 < zs.length
      · exact divs_lz zs ys a a' c c' w hz hy (by omega) (by omega) s1 _ _ rfl rfl h0
      · by_cases s2 : 40 < ys.length
        · exact divs_mz zs ys a a' c c' w hz hy (by omega) (by omega) (by omega) s2 _ _ rfl rfl h0
        · exact divs_sz zs ys a a' c c' w hz hy (by omega) (by omega) (by omega) (by omega) _ _ rfl rfl h0
    · by_cases s1 : 40 < zs.length
      · exact divs_lp zs ys a a' c c' w hz hy (by omega) (by omega) s1 _ _ rfl rfl h0
      · by_cases s2 : 40 < ys.length
        · exact divs_mp zs ys a a' c c' w hz hy (by omega) (by omega) (by omega) s2 _ _ rfl rfl h0
        · exact divs_sp zs ys a a' c c' w hz hy (by omega) (by omega) (by omega) (by omega) _ _ rfl rfl h0
end Go.Proofs.Ytkegdjndmeialaa

