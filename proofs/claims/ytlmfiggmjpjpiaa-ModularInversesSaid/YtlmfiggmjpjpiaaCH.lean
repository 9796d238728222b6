/- The reference's inverse. -/
import Derived.Test.YtlmfiggmjpjpiaaCG
import Derived.Deep.LoopGhost
namespace Go.Proofs.Ytlmfiggmjpjpiaa
open Go.RowKit

theorem mod_cancel {a b c m : Nat} (h : (a + c) % m = (b + c) % m) : a % m = b % m := by
  have h1 : (((a : Int) + (c : Int)) % (m : Int)) = (((b : Int) + (c : Int)) % (m : Int)) := by
    have := congrArg (fun n : Nat => (n : Int)) h
    simp only [Int.natCast_emod, Int.natCast_add] at this
    exact this
  have h2 := Int.emod_add_cancel_right (c : Int) |>.1 h1
  have h3 : ((a % m : Nat) : Int) = ((b % m : Nat) : Int) := by rw [Int.natCast_emod, Int.natCast_emod]; exact h2
  omega
theorem rinv_step {m a r s x y : Nat} (h0 : 0 < m) (h1 : x * a % m = r % m) (h2 : y * a % m = s % m) :
    (x % m + m - r / s * y % m % m) % m * a % m = r % s % m := by
  have hq := Nat.div_add_mod r s
  have hle : r / s * y % m % m ≤ x % m + m := by have := Nat.mod_lt (r / s * y % m) h0; omega
  have key : ((x % m + m - r / s * y % m % m) % m * a + r / s * s) % m = r % m := by
    rw [Nat.add_mod, Nat.mod_mul_mod, ← Nat.add_mod]
    have e1 : r / s * s % m = r / s * y % m % m * a % m := by
      rw [Nat.mod_mod, Nat.mod_mul_mod, Nat.mul_assoc, Nat.mul_mod (r / s) (y * a), h2, ← Nat.mul_mod]
    rw [Nat.add_mod, e1, ← Nat.add_mod, ← Nat.add_mul, Nat.sub_add_cancel hle, Nat.add_mul, Nat.add_mod, Nat.mod_mul_mod, Nat.mul_mod_right, Nat.add_zero, Nat.mod_mod, h1]
  have e2 : r = r % s + r / s * s := by rw [Nat.mul_comm]; omega
  have key2 : ((x % m + m - r / s * y % m % m) % m * a + r / s * s) % m = (r % s + r / s * s) % m := by rw [key]; exact congrArg (· % m) e2
  exact mod_cancel key2

def RInv (m a : Nat) (w : World) (k : Nat) (s6 s7 s8 s9 : Value) (wr : World) : Prop :=
  ∃ r x y, Nat.gcd r k = Nat.gcd m a ∧ x < m ∧ y < m ∧ x * a % m = r % m ∧ y * a % m = k % m ∧ r ≤ m ∧ k ≤ m ∧ RefN r s6 wr ∧ RefN k s7 wr ∧ RefN x s8 wr ∧ RefN y s9 wr ∧ Below w.heap.size w wr

theorem nilD (a : Option Addr) (w : World) : RefN 0 (.slice a 0 0) w := ⟨Nat.one_pos, a, 0, rfl, Nat.le_refl _, Nat.zero_le _, .inl rfl⟩
theorem sm_add {v u : Nat} (hv : v < P64 ^ 16) (hu : u < P64 ^ 16) : Sm (v + u) := by
  refine Nat.le_trans (dlen_le (n := 128) (by omega) ?_) (by omega)
  have e : (65536 : Nat) ^ 128 = 65536 ^ 64 * 65536 ^ 64 := by rw [← Nat.pow_add]
  rw [p64_65536] at hv hu
  rw [e]
  have h2 : 2 ≤ (65536 : Nat) ^ 64 := Nat.le_trans (show 2 ≤ 65536 ^ 1 by omega) (Nat.pow_le_pow_right (by omega) (by omega))
  have h3 := Nat.mul_le_mul_right ((65536 : Nat) ^ 64) h2
  omega
theorem cmpN_one {r : Nat} : cmpN r 1 = 0 ↔ r = 1 := by
  unfold cmpN
  split
  · constructor <;> intro h <;> omega
  · split
    · constructor <;> intro h <;> omega
    · constructor <;> intro h <;> omega

set_option maxRecDepth 100000 in
set_option maxHeartbeats 1000000 in
theorem rminv_any (m a : Nat) (s t : Value) (w : World) (hs : RefN a s w) (ht : RefN m t w) (ha : a < P64 ^ 16) (hm : m < P64 ^ 16) (h0 : 0 < m) :
    Calls Try.prog 26 #[s, t] w fun e w' => ((Nat.gcd m a = 1 ∧ ∃ z x, e = .returned (.tuple #[z, .bool true]) ∧ RefN x z w' ∧ x < m ∧ x * a % m = 1 % m) ∨ (Nat.gcd m a ≠ 1 ∧ e = .returned (.tuple #[.slice none 0 0, .bool false]))) ∧ Below w.heap.size w w' := by
  have HA := Lib.hid hs
  have HT := Lib.hid ht
  have HR1 := Lib.hid (rred_any a m _ s t w hs (Nat.le_trans (sm16 ha) (by omega)) ht h0 (sm16 hm))
  have HR2 := Lib.hid (fun s z W (hs : DigN 1 1 s W) (hz : RefN m z W) => rred_any 1 m 1 s z W hs (by omega) hz h0 (sm16 hm))
  have H0 := Lib.hid h0
  have HM := Lib.hid hm
  clear hs ht ha hm h0
  go_enter Try.func26, Try.ntmps26
  go_wp2_with fail
  refine HR1.out.mono ?_
  rintro e w1 ⟨o, rfl, ho, hb⟩
  have HO := Lib.hid ho
  have HB1 := Lib.hid hb
  clear ho hb
  go_wp2_with fail
  have hb2 : Below w1.heap.size w1 ((w1.alloc (.cells #[] 3)).alloc (.cells #[.int .i64 1] 3)) := ((Below.refl _ w1).alloc (Nat.le_refl _) _).alloc (by simp) _
  have hd := oneD (w1.alloc (.cells #[] 3))
  rw [World.size_alloc] at hd
  refine (HR2.out _ _ _ hd ((HT.out.kept HB1.out).kept hb2)).mono ?_
  rintro e w2 ⟨y0, rfl, ho, hb⟩
  have HY0 := Lib.hid ho
  have HO2 := Lib.hid ((HO.out.kept hb2).kept hb)
  have hb3 := hb2.trans (hb.mono hb2.size)
  have HB2 := Lib.hid (HB1.out.trans (hb3.mono HB1.out.size))
  clear ho hb hb2 hb3 hd HO
  generalize w1.heap.size = g1 at *
  go_wp2_with fail
  go_loopg [6, 7, 8, 9] (a % m) (fun k s6 s7 s8 s9 wr => RInv m a w k s6 s7 s8 s9 wr)
  case atStart =>
    have h0 := H0.out
    refine ⟨m, 0, 1 % m, ?_, h0, Nat.mod_lt _ h0, ?_, ?_, Nat.le_refl _, Nat.le_of_lt (Nat.mod_lt _ h0), HT.out.kept HB2.out, HO2.out, nilD _ _, HY0.out, HB2.out⟩
    · rw [Nat.gcd_comm m (a % m), ← Nat.gcd_rec]
    · rw [Nat.zero_mul, Nat.zero_mod, Nat.mod_self]
    · rw [Nat.mod_mul_mod, Nat.one_mul, Nat.mod_mod]
  case round =>
    obtain ⟨r, x, y, hg, hx, hy, hxr, hyk, hrm, hkm, h6, h7, h8, h9, hbel⟩ := hrel
    have HG := Lib.hid hg
    have HX := Lib.hid hx
    have HY := Lib.hid hy
    have HXR := Lib.hid hxr
    have HYK := Lib.hid hyk
    have H6 := Lib.hid h6
    have H7 := Lib.hid h7
    have H8 := Lib.hid h8
    have H9 := Lib.hid h9
    have HB := Lib.hid hbel
    have HRM := Lib.hid hrm
    have HKM := Lib.hid hkm
    clear hg hx hy hxr hyk h6 h7 h8 h9 hbel hrm hkm
    by_cases hk0 : gk = 0
    · subst hk0
      obtain ⟨ta, tc, rfl⟩ := refN_nil H7.out
      have HGR := Lib.hid (show r = Nat.gcd m a by have := HG.out; rw [Nat.gcd_zero_right] at this; exact this)
      go_wp2_with fail
      have hbo : Below wr.heap.size wr (wr.alloc (.cells #[.int .i64 1] 3)) := (Below.refl _ wr).alloc (Nat.le_refl _) _
      refine (rcompare_any r 1 _ 1 _ _ _ (H6.out.kept hbo) (oneD wr) (Nat.le_trans (sm16 (Nat.lt_of_le_of_lt HRM.out HM.out)) (by omega)) (by omega)).mono ?_
      rintro e w3 ⟨rfl, hw⟩
      subst hw
      have HB3 := Lib.hid (HB.out.trans (hbo.mono HB.out.size))
      have H83 := Lib.hid (H8.out.kept hbo)
      clear hbo
      by_cases hr1 : r = 1
      · have hc : cmpN r 1 = 0 := cmpN_one.2 hr1
        rw [hc]
        go_wp2_with fail
        go_ret2
        exact ⟨.inl ⟨by rw [← HGR.out, hr1], _, x, rfl, H83.out, HX.out, by rw [HXR.out, hr1]⟩, HB3.out⟩
      · have hc : cmpN r 1 ≠ 0 := fun h => hr1 (cmpN_one.1 h)
        obtain ⟨cc, hcc⟩ : ∃ cc, cmpN r 1 = cc := ⟨_, rfl⟩
        rw [hcc] at hc ⊢
        go_wp2_with fail
        go_ret2
        exact ⟨.inr ⟨by rw [← HGR.out]; exact hr1, rfl⟩, HB3.out⟩
    · obtain ⟨ta, tc, L, hL, rfl⟩ := refN_pos (Nat.pos_of_ne_zero hk0) H7.out
      have hr16 : r < P64 ^ 16 := Nat.lt_of_le_of_lt HRM.out HM.out
      have hk16 : gk < P64 ^ 16 := Nat.lt_of_le_of_lt HKM.out HM.out
      have hq16 : r / gk < P64 ^ 16 := Nat.lt_of_le_of_lt (Nat.div_le_self _ _) hr16
      have hy16 : y < P64 ^ 16 := Nat.lt_trans HY.out HM.out
      have hqy : r / gk * y % m < P64 ^ 16 := Nat.lt_trans (Nat.mod_lt _ H0.out) HM.out
      have hxm : x % m + m < P64 ^ 16 + P64 ^ 16 := by have := Nat.mod_lt x H0.out; have := HM.out; omega
      have HDV := Lib.hid (fun W (h1 : RefN r _ W) (h2 : RefN gk _ W) => rdivide_ref r gk _ u6 (.slice ta (L : Nat) tc) W h1 h2 (Nat.le_trans (sm16 hr16) (by omega)) (Nat.le_trans (sm16 hk16) (by omega)) (Nat.pos_of_ne_zero hk0))
      have HMU := Lib.hid (fun s t z W (h1 : RefN (r / gk) s W) (h2 : RefN y t W) (h3 : RefN m z W) => rmmul_any (r / gk) y m s t z W h1 h2 h3 (sm16 hq16) (sm16 hy16) H0.out (sm16 HM.out) (sm16_mul hq16 hy16))
      have HSU := Lib.hid (fun s t z W (h1 : RefN x s W) (h2 : RefN (r / gk * y % m) t W) (h3 : RefN m z W) => rmsub_any x (r / gk * y % m) m s t z W h1 h2 h3 (sm16 (Nat.lt_trans HX.out HM.out)) (sm16 hqy) H0.out (sm16 HM.out) (sm_add (Nat.lt_trans (Nat.mod_lt _ H0.out) HM.out) HM.out))
      have HST := Lib.hid (rinv_step (r := r) H0.out HXR.out HYK.out)
      have HNL := Lib.hid (Nat.mod_lt (x % m + m - r / gk * y % m % m) H0.out)
      have HKL := Lib.hid (Nat.mod_lt r (Nat.pos_of_ne_zero hk0))
      have HGS := Lib.hid (show Nat.gcd gk (r % gk) = Nat.gcd m a by rw [← HG.out, Nat.gcd_comm gk, ← Nat.gcd_rec, Nat.gcd_comm])
      clear hr16 hk16 hq16 hy16 hqy hxm hk0 HG HXR
      generalize (x % m + m - r / gk * y % m % m) % m = nx at *
      generalize r / gk * y % m = qy at *
      generalize r / gk = q at *
      generalize r % gk = rs at *
      go_wp2_with fail
      refine (HDV.out _ H6.out H7.out).mono ?_
      rintro e w3 ⟨tq, tr, rfl, hq, hr, hb⟩
      have HQ3 := Lib.hid hq
      have HRS := Lib.hid hr
      have HB3 := Lib.hid (HB.out.trans (hb.mono HB.out.size))
      have H73 := Lib.hid (H7.out.kept hb)
      have H83 := Lib.hid (H8.out.kept hb)
      have H93 := Lib.hid (H9.out.kept hb)
      clear hq hr hb
      go_wp2_with fail
      refine (HMU.out _ _ _ _ HQ3.out H93.out (HT.out.kept HB3.out)).mono ?_
      rintro e w4 ⟨tm, rfl, ho, hb⟩
      have HQY := Lib.hid ho
      have HB4 := Lib.hid (HB3.out.trans (hb.mono HB3.out.size))
      have HRS4 := Lib.hid (HRS.out.kept hb)
      have H74 := Lib.hid (H73.out.kept hb)
      have H84 := Lib.hid (H83.out.kept hb)
      have H94 := Lib.hid (H93.out.kept hb)
      clear ho hb
      go_wp2_with fail
      refine (HSU.out _ _ _ _ H84.out HQY.out (HT.out.kept HB4.out)).mono ?_
      rintro e w5 ⟨tn, rfl, ho, hb⟩
      have HNX := Lib.hid ho
      have HB5 := Lib.hid (HB4.out.trans (hb.mono HB4.out.size))
      have HRS5 := Lib.hid (HRS4.out.kept hb)
      have H75 := Lib.hid (H74.out.kept hb)
      have H95 := Lib.hid (H94.out.kept hb)
      clear ho hb
      go_wp2_with fail
      go_roundg rs
      case measure => exact HKL.out
      case rel =>
        exact ⟨gk, y, nx, HGS.out, HY.out, HNL.out, HYK.out, HST.out, HKM.out, Nat.le_trans (Nat.le_of_lt HKL.out) HKM.out, H75.out, HRS5.out, H95.out, HNX.out, HB5.out⟩
end Go.Proofs.Ytlmfiggmjpjpiaa
