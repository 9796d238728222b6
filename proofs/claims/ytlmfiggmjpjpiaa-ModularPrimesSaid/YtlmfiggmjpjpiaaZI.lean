/- Euclid's algorithm with the multiples: no program. Inverses: the walk. Inverse: what it comes to. -/
import Derived.Test.YtlmfiggmjpjpiaaZB2
import Derived.Test.YtlmfiggmjpjpiaaD2
namespace Go.Proofs.Ytlmfiggmjpjpiaa

def sgn (b : Bool) : Int := if b then -1 else 1
theorem sgn_not (b : Bool) : sgn (!b) = -sgn b := by cases b <;> rfl

def Euc (m a x k M N : Nat) (b : Bool) : Prop :=
  k < x ∧ x ≤ m ∧ 0 < N ∧ M < m ∧ Nat.gcd x k = Nat.gcd m a ∧ N * x + M * k = m ∧ (m : Int) ∣ x - sgn b * M * a ∧ (m : Int) ∣ k + sgn b * N * a

theorem euc_start {m a : Nat} (h : a < m) : Euc m a m a 0 1 true := by
  refine ⟨h, Nat.le_refl _, by omega, by omega, rfl, by omega, ?_, ?_⟩
  · have : (m : Int) - sgn true * ((0 : Nat) : Int) * a = m := by simp [sgn]
    rw [this]; exact Int.dvd_refl _
  · have : (a : Int) + sgn true * ((1 : Nat) : Int) * a = 0 := by simp [sgn]; omega
    rw [this]; exact Int.dvd_zero _

theorem euc_fit {m a x k M N : Nat} {b : Bool} (h : Euc m a x k M N b) (h0 : 0 < k) : M + x / k * N ≤ m ∧ x / k * N ≤ m ∧ N < m := by
  obtain ⟨h1, h2, h3, h4, h5, h6, h7, h8⟩ := h
  have hq := Nat.div_add_mod x k
  have e1 : N * x = k * (x / k * N) + N * (x % k) := by
    conv => lhs; rw [← hq]
    rw [Nat.mul_add]; congr 1
    rw [Nat.mul_comm N, Nat.mul_assoc]
  have e2 : x / k * N ≤ k * (x / k * N) := Nat.le_mul_of_pos_left _ h0
  have e3 : M ≤ M * k := Nat.le_mul_of_pos_right _ h0
  have e4 : N * 2 ≤ N * x := Nat.mul_le_mul_left _ (by omega)
  refine ⟨?_, ?_, ?_⟩ <;> omega

theorem euc_step {m a x k M N : Nat} {b : Bool} (h : Euc m a x k M N b) (h0 : 0 < k) : Euc m a k (x % k) N (M + x / k * N) (!b) := by
  have hf := euc_fit h h0
  obtain ⟨h1, h2, h3, h4, h5, h6, h7, h8⟩ := h
  have hq := Nat.div_add_mod x k
  have hq1 : 0 < x / k := Nat.div_pos (by omega) h0
  have hN : N ≤ x / k * N := Nat.le_mul_of_pos_left _ hq1
  refine ⟨Nat.mod_lt _ h0, by omega, by omega, hf.2.2, ?_, ?_, ?_, ?_⟩
  · rw [← h5, Nat.gcd_comm k, ← Nat.gcd_rec, Nat.gcd_comm]
  · have e1 : N * x = k * (x / k * N) + N * (x % k) := by
      conv => lhs; rw [← hq]
      rw [Nat.mul_add]; congr 1
      rw [Nat.mul_comm N, Nat.mul_assoc]
    rw [Nat.add_mul, Nat.mul_comm (x / k * N) k]
    omega
  · have : (k : Int) - sgn (!b) * N * a = k + sgn b * N * a := by rw [sgn_not, Int.neg_mul, Int.neg_mul]; omega
    rw [this]; exact h8
  · have hx : ((x % k : Nat) : Int) = x - k * ((x / k : Nat) : Int) := by
      have := congrArg (fun n : Nat => (n : Int)) hq
      simp only [Int.natCast_add, Int.natCast_mul] at this
      omega
    have : ((x % k : Nat) : Int) + sgn (!b) * ((M + x / k * N : Nat) : Int) * a = (x - sgn b * M * a) - ((x / k : Nat) : Int) * (k + sgn b * N * a) := by
      rw [hx, sgn_not, Int.natCast_add, Int.natCast_mul]
      generalize ((x / k : Nat) : Int) = q
      generalize sgn b = s
      grind
    rw [this]
    exact Int.dvd_sub h7 (Int.dvd_trans h8 (Int.dvd_mul_left _ _))

theorem euc_end {m a x M N : Nat} {b : Bool} (h : Euc m a x 0 M N b) : x = Nat.gcd m a := by
  obtain ⟨h1, h2, h3, h4, h5, h6, h7, h8⟩ := h
  rw [← h5, Nat.gcd_zero_right]

theorem mod_of_dvd {m r a : Nat} (h : (m : Int) ∣ 1 - (r : Int) * a) : r * a % m = 1 % m := by
  have h1 := Int.emod_emod_of_dvd
  have h2 : (1 : Int) % m = ((r : Int) * a) % m := Int.emod_eq_emod_iff_emod_sub_eq_zero.2 (Int.emod_eq_zero_of_dvd h)
  have h3 : ((1 % m : Nat) : Int) = ((r * a % m : Nat) : Int) := by
    rw [Int.natCast_emod, Int.natCast_emod, Int.natCast_mul]; exact h2
  omega

theorem euc_pos {m a M N : Nat} (h : Euc m a 1 0 M N false) : M < m ∧ M * a % m = 1 % m := by
  obtain ⟨h1, h2, h3, h4, h5, h6, h7, h8⟩ := h
  refine ⟨h4, mod_of_dvd ?_⟩
  simpa [sgn] using h7
theorem euc_neg {m a M N : Nat} (h : Euc m a 1 0 M N true) : (0 + (m - M)) % m < m ∧ (0 + (m - M)) % m * a % m = 1 % m := by
  obtain ⟨h1, h2, h3, h4, h5, h6, h7, h8⟩ := h
  refine ⟨Nat.mod_lt _ (by omega), ?_⟩
  rw [Nat.mod_mul_mod]
  apply mod_of_dvd
  have : (1 : Int) - ((0 + (m - M) : Nat) : Int) * a = (1 - sgn true * M * a) - m * a := by
    rw [Nat.zero_add, Int.natCast_sub (by omega)]
    simp [sgn]
    grind
  rw [this]
  exact Int.dvd_sub h7 (Int.dvd_mul_right _ _)
end Go.Proofs.Ytlmfiggmjpjpiaa

namespace Go.Proofs.Ytlmfiggmjpjpiaa
open Go.RowKit

/-- What the loop holds. -/
def InvRel (m a g6 g7 g : Nat) (w : World) (k : Nat) (nb : Value) (wr : World) : Prop :=
  ∃ b x M N, nb = .bool b ∧ Euc m a x k M N b ∧ rowN wr w.heap.size = some (natA m) ∧ rowN wr (w.heap.size + 1 + 1) = some (natA 0) ∧ rowN wr g6 = some (natA x) ∧ rowN wr g7 = some (natA k) ∧
    rowN wr g = some (natA M) ∧ rowN wr (g + 1) = some (natA N) ∧ Below w.heap.size w wr

theorem swapRows {W : World} {p q a b : Nat} (x y : Nat) (hne : p ≠ q) (hp : rowN W p = some (natA a)) (hq : rowN W q = some (natA b)) :
    ∃ W', (W.drew.setRow p (natA x)).setRow q (natA y) = W' ∧ rowN W' p = some (natA x) ∧ rowN W' q = some (natA y) ∧ (∀ g cs, g ≠ p → g ≠ q → rowN W g = some cs → rowN W' g = some cs) ∧ (∀ B, B ≤ p → B ≤ q → Below B W W') := by
  refine ⟨_, rfl, ?_, ?_, fun g cs h1 h2 h => ?_, fun B h1 h2 => below_setRow' (below_setRow' (Below.refl _ W).drew h1 _) h2 _⟩
  · rw [rowN_setRow, if_neg hne, rowN_setRow, if_pos rfl, rowN_drew, hp]; rfl
  · rw [rowN_setRow, if_pos rfl, rowN_setRow, if_neg hne.symm, rowN_drew, hq]; rfl
  · rw [rowN_setRow, if_neg h2, rowN_setRow, if_neg h1, rowN_drew]; exact h

set_option maxRecDepth 100000 in
set_option maxHeartbeats 800000 in
theorem inverse_any (m a : Nat) (hm : m < P64 ^ 16) (ha : a < m) (w : World) : Calls Try.prog 51 #[.agg (natA m), .agg (natA a)] w fun e w' =>
    (if Nat.gcd m a = 1 then ∃ r, r < m ∧ r * a % m = 1 % m ∧ e = .returned (.tuple #[.agg (natA r), .int .i64 0]) else e = .returned (.tuple #[.agg (natA 0), .int .i64 9])) ∧ Below w.heap.size w w' := by
  have HM := Lib.hid hm
  have HA := Lib.hid ha
  have HO := Lib.hid one_any
  clear hm ha
  go_enter Try.func51, Try.ntmps51
  go_upto_region 1 with fail
  go_cut [6, 7] from 6 to 21 (fun s6 s7 wx => ∃ g6 g7 : Nat, s6 = .pointer (some ⟨g6, 0, none⟩) ∧ s7 = .pointer (some ⟨g7, 0, none⟩) ∧ g6 ≠ g7 ∧ w.heap.size + 1 + 1 < g6 ∧ w.heap.size + 1 + 1 < g7 ∧ rowN wx g6 = some (natA m) ∧ rowN wx g7 = some (natA a) ∧
    rowN wx w.heap.size = some (natA m) ∧ rowN wx (w.heap.size + 1 + 1) = some (natA 0) ∧ Below w.heap.size w wx)
  case first =>
    go_region
    · go_wp2_with fail
      go_meet
      refine ⟨w.heap.size + 1 + 1 + 1, w.heap.size + 1 + 1 + 1 + 1, rfl, rfl, by omega, by omega, by omega, ?_, ?_, ?_, ?_, ?_⟩
      all_goals first
        | exact below_setRow' (below_setRow' (Below.drew ((((((Below.refl _ _).alloc (Nat.le_refl _) _).alloc (by simp) _).alloc (by simp <;> omega) _).alloc (by simp <;> omega) _).alloc (by simp <;> omega) _)) (by omega) _) (by omega) _
        | (simp only [rowN_setRow, rowN_drew, rowN_alloc, World.size_alloc, if_true]
           repeat (first | rw [if_pos rfl] | rw [if_neg (by omega)])
           try rfl)
    · go_wp2_with fail
      go_meet
      refine ⟨w.heap.size + 1 + 1 + 1 + 1, w.heap.size + 1 + 1 + 1, rfl, rfl, by omega, by omega, by omega, ?_, ?_, ?_, ?_, ?_⟩
      all_goals first
        | exact below_setRow' (below_setRow' (Below.drew ((((((Below.refl _ _).alloc (Nat.le_refl _) _).alloc (by simp) _).alloc (by simp <;> omega) _).alloc (by simp <;> omega) _).alloc (by simp <;> omega) _)) (by omega) _) (by omega) _
        | (simp only [rowN_setRow, rowN_drew, rowN_alloc, World.size_alloc, if_true]
           repeat (first | rw [if_pos rfl] | rw [if_neg (by omega)])
           try rfl)
  case rest =>
    obtain ⟨g6, g7, rfl, rfl, hne, l6, l7, h6, h7, h2, h4, hbel⟩ := hcut
    have HBel := Lib.hid hbel
    clear hbel
    go_wp2_with fail
    refine (HO.out _).mono ?_
    rintro e w1 ⟨rfl, hb⟩
    have HB1 := Lib.hid (HBel.out.trans (hb.mono HBel.out.size))
    replace h2 := kept hb _ _ h2
    replace h4 := kept hb _ _ h4
    replace h6 := kept hb _ _ h6
    replace h7 := kept hb _ _ h7
    have q2 := rowN_lt h2
    have q4 := rowN_lt h4
    have q6 := rowN_lt h6
    have q7 := rowN_lt h7
    clear hb HBel
    go_wp2_with fail
    generalize hg : w1.heap.size = g at *
    have e6 : g6 < g := by omega
    have e7 : g7 < g := by omega
    go_loopg [10] a (fun k nb wr => InvRel m a g6 g7 g w k nb wr)
    case atStart =>
      refine ⟨true, m, 0, 1, rfl, euc_start HA.out, ?_, ?_, ?_, ?_, ?_, ?_, ?_⟩
      all_goals first
        | exact below_setRow' (below_setRow' ((HB1.out.alloc (by omega) _).alloc (by simp <;> omega) _) (by omega) _) (by omega) _
        | (simp only [rowN_setRow, rowN_alloc, World.size_alloc, if_true]
           repeat (first | rw [if_pos rfl] | rw [if_pos (by omega)] | rw [if_neg (by omega)])
           first | rfl | assumption)
    case round =>
      obtain ⟨b, x, M, N, rfl, hE, r2, r4, r6, r7, r8, r9, hbel⟩ := hrel
      have HE := Lib.hid hE
      have HBel := Lib.hid hbel
      have q2 := rowN_lt r2
      have q4 := rowN_lt r4
      have q6 := rowN_lt r6
      have q7 := rowN_lt r7
      have q8 := rowN_lt r8
      have q9 := rowN_lt r9
      clear hE hbel
      go_wp2_with fail
      refine (isZero_any gk _).mono ?_
      rintro e w2 ⟨rfl, hb⟩
      have HB2 := Lib.hid (HBel.out.trans (hb.mono HBel.out.size))
      replace r2 := kept hb _ _ r2
      replace r4 := kept hb _ _ r4
      replace r6 := kept hb _ _ r6
      replace r7 := kept hb _ _ r7
      replace r8 := kept hb _ _ r8
      replace r9 := kept hb _ _ r9
      clear hb HBel
      have hnz : natEq gk 0 = decide (gk = 0) := natEq_iff (Nat.lt_trans (Nat.lt_of_lt_of_le HE.out.1 HE.out.2.1) HM.out) (Nat.pow_pos P64_pos)
      by_cases h0 : gk = 0
      · have hne' : natEq gk 0 = true := by rw [hnz]; simp [h0]
        have hx : x = Nat.gcd m a := euc_end (by have := HE.out; rw [h0] at this; exact this)
        have he : Euc m a x 0 M N b := by have := HE.out; rw [h0] at this; exact this
        have hxm : x < P64 ^ 16 := Nat.lt_of_le_of_lt HE.out.2.1 HM.out
        have hx1 : natEq x 1 = decide (x = 1) := natEq_iff hxm (small_lt (p64_lt (by omega)))
        clear hnz h0 HE hxm
        by_cases hX : x = 1
        · have hn1 : natEq 1 1 = true := by rw [hX] at hx1; rw [hx1]; rfl
          have HG := Lib.hid (show Nat.gcd m a = 1 by rw [← hx, hX])
          clear hx hx1
          subst hX
          rcases b with _ | _
          · have HP := Lib.hid (euc_pos he)
            clear he
            go_upto_region 9 with fail
            have d2 : rowN w2.drew w.heap.size = some (natA m) := r2
            have d4 : rowN w2.drew (w.heap.size + 1 + 1) = some (natA 0) := r4
            have d6 : rowN w2.drew g6 = some (natA 1) := r6
            have d8 : rowN w2.drew g = some (natA M) := r8
            have HD := Lib.hid HB2.out.drew
            clear r2 r4 r6 r7 r8 r9 HB2
            go_region_held3 (fun W => rowN W g6 = some (natA 1)) (first | exact d6) (first
              | (go_at_call 68; refine (HO.out _).mono ?_; rintro e x1 ⟨rfl, hb⟩; replace d2 := kept hb _ _ d2; replace d4 := kept hb _ _ d4; replace d6 := kept hb _ _ d6; replace d8 := kept hb _ _ d8; replace HD := Lib.hid (HD.out.trans (hb.mono HD.out.size)); clear hb))
            all_goals
              go_wp2_with fail
              refine ret_nat_tmp _ (natA M) rfl rfl rfl (row_new d4) (natA_size _) ⟨?_, below_setRow' HD.out (by omega) _⟩
              first
                | exact ⟨M, HP.out.1, HP.out.2, rfl⟩
                | (rw [if_pos HG.out]; exact ⟨M, HP.out.1, HP.out.2, rfl⟩)
          · have HP := Lib.hid (euc_neg he)
            have HI := Lib.hid (fun W => minus_any m 0 M HM.out (by have := he.2.2.2.1; omega) he.2.2.2.1 W)
            clear he
            generalize (0 + (m - M)) % m = v at *
            go_upto_region 9 with fail
            have d2 : rowN w2.drew w.heap.size = some (natA m) := r2
            have d4 : rowN w2.drew (w.heap.size + 1 + 1) = some (natA 0) := r4
            have d6 : rowN w2.drew g6 = some (natA 1) := r6
            have d8 : rowN w2.drew g = some (natA M) := r8
            have HD := Lib.hid HB2.out.drew
            clear r2 r4 r6 r7 r8 r9 HB2
            go_region_held3 (fun W => rowN W g6 = some (natA 1)) (first | exact d6) (first
              | (go_at_call 68; refine (HO.out _).mono ?_; rintro e x1 ⟨rfl, hb⟩; replace d2 := kept hb _ _ d2; replace d4 := kept hb _ _ d4; replace d6 := kept hb _ _ d6; replace d8 := kept hb _ _ d8; replace HD := Lib.hid (HD.out.trans (hb.mono HD.out.size)); clear hb))
            all_goals
              go_wp2_with fail
              refine (HI.out _).mono ?_
              rintro e w3 ⟨rfl, hb⟩
              replace d2 := kept hb _ _ d2
              replace d4 := kept hb _ _ d4
              replace d8 := kept hb _ _ d8
              have HD3 := Lib.hid (HD.out.trans (hb.mono HD.out.size))
              clear hb
              go_wp2_with fail
              refine ret_nat_tmp _ (natA v) rfl rfl rfl (by rw [row_new (row_other d4 (by omega))]) (natA_size _) ⟨?_, below_setRow' (below_setRow' HD3.out (by omega) _) (by omega) _⟩
              first
                | exact ⟨v, HP.out.1, HP.out.2, rfl⟩
                | (rw [if_pos HG.out]; exact ⟨v, HP.out.1, HP.out.2, rfl⟩)
        · have hn1 : natEq x 1 = false := by rw [hx1]; simp [hX]
          have HG := Lib.hid (show ¬ Nat.gcd m a = 1 by rw [← hx]; exact hX)
          clear hx hx1 hX he
          go_upto_region 9 with fail
          have d2 : rowN w2.drew w.heap.size = some (natA m) := r2
          have d4 : rowN w2.drew (w.heap.size + 1 + 1) = some (natA 0) := r4
          have d6 : rowN w2.drew g6 = some (natA x) := r6
          have d8 : rowN w2.drew g = some (natA M) := r8
          have HD := Lib.hid HB2.out.drew
          clear r2 r4 r6 r7 r8 r9 HB2
          go_region_held3 (fun W => rowN W g6 = some (natA x)) (first | exact d6) (first
            | (go_at_call 68; refine (HO.out _).mono ?_; rintro e x1 ⟨rfl, hb⟩; replace d2 := kept hb _ _ d2; replace d4 := kept hb _ _ d4; replace d6 := kept hb _ _ d6; replace d8 := kept hb _ _ d8; replace HD := Lib.hid (HD.out.trans (hb.mono HD.out.size)); clear hb))
          all_goals
            go_wp2_with fail
            refine ret_nat_tmp _ (natA 0) rfl rfl rfl (row_new d4) (natA_size _) ⟨?_, below_setRow' HD.out (by omega) _⟩
            first | rfl | rw [if_neg HG.out]
      · have hne' : natEq gk 0 = false := by rw [hnz]; simp [h0]
        have hp : 0 < gk := by omega
        have hf := euc_fit HE.out hp
        have hs := euc_step HE.out hp
        have hx : x < P64 ^ 16 := Nat.lt_of_le_of_lt HE.out.2.1 HM.out
        have HD := Lib.hid (fun W => divide_full x gk hx (Nat.lt_trans HE.out.1 hx) hp W)
        have HMu := Lib.hid (fun W => mul_fits (x / gk) N (Nat.lt_of_le_of_lt (Nat.div_le_self _ _) hx) (Nat.lt_trans hf.2.2 HM.out) (Nat.lt_of_le_of_lt hf.2.1 HM.out) W)
        have HAd := Lib.hid (fun W => add_fits M (x / gk * N) (Nat.lt_trans HE.out.2.2.2.1 HM.out) (Nat.lt_of_le_of_lt hf.2.1 HM.out) (Nat.lt_of_le_of_lt hf.1 HM.out) W)
        have HS := Lib.hid hs
        have HR := Lib.hid (show x % gk < gk from Nat.mod_lt _ hp)
        clear hnz h0 hp hf hs hx HE
        generalize x / gk * N = st at *
        generalize M + st = sm at *
        generalize x / gk = q at *
        generalize x % gk = r at *
        go_wp2_with fail
        refine (HD.out _).mono ?_
        rintro e w3 ⟨rfl, hb⟩
        have HB3 := Lib.hid (HB2.out.trans (hb.mono HB2.out.size))
        replace r2 := kept hb _ _ r2
        replace r4 := kept hb _ _ r4
        replace r6 := kept hb _ _ r6
        replace r7 := kept hb _ _ r7
        replace r8 := kept hb _ _ r8
        replace r9 := kept hb _ _ r9
        clear hb HB2 HD
        have z2 := rowN_lt r2
        have z4 := rowN_lt r4
        have z6 := rowN_lt r6
        have z7 := rowN_lt r7
        have z8 := rowN_lt r8
        have z9 := rowN_lt r9
        go_wp2_with fail
        refine (HMu.out _).mono ?_
        rintro e w4 ⟨rfl, hb⟩
        obtain ⟨s1, s2, hk, hBel⟩ := stored2 hb
        have HB4 := Lib.hid (HB3.out.trans (hBel.mono HB3.out.size))
        replace r2 := hk _ _ r2
        replace r4 := hk _ _ r4
        replace r6 := hk _ _ r6
        replace r7 := hk _ _ r7
        replace r8 := hk _ _ r8
        replace r9 := hk _ _ r9
        clear hb hk hBel HB3 HMu
        generalize w3.heap.size = g11 at *
        have yz2 := rowN_lt r2
        have yz4 := rowN_lt r4
        have yz6 := rowN_lt r6
        have yz7 := rowN_lt r7
        have yz8 := rowN_lt r8
        have yz9 := rowN_lt r9
        have yz10 := rowN_lt s1
        have yz11 := rowN_lt s2
        go_wp2_with fail
        refine (HAd.out _).mono ?_
        rintro e w5 ⟨rfl, hb⟩
        obtain ⟨s3, hk, hBel⟩ := stored hb
        have HB5 := Lib.hid (HB4.out.trans (hBel.mono HB4.out.size))
        replace r2 := hk _ _ r2
        replace r4 := hk _ _ r4
        replace r6 := hk _ _ r6
        replace r7 := hk _ _ r7
        replace r8 := hk _ _ r8
        replace r9 := hk _ _ r9
        replace s1 := hk _ _ s1
        replace s2 := hk _ _ s2
        clear hb hk hBel HB4 HAd s3
        have x2 := rowN_lt r2
        have x4 := rowN_lt r4
        have x6 := rowN_lt r6
        have x7 := rowN_lt r7
        have x8 := rowN_lt r8
        have x9 := rowN_lt r9
        have x11 := rowN_lt s2
        go_upto_region 7 with fail
        obtain ⟨s5, hk, hBel⟩ := storedT0 w5 sm 28
        have HB6 := Lib.hid (HB5.out.trans (hBel.mono HB5.out.size))
        replace r2 := hk _ _ r2
        replace r4 := hk _ _ r4
        replace r6 := hk _ _ r6
        replace r7 := hk _ _ r7
        replace r8 := hk _ _ r8
        replace r9 := hk _ _ r9
        replace s2 := hk _ _ s2
        clear hk hBel HB5 s1
        generalize w5.heap.size = g16 at *
        generalize (w5.alloc (.cells (natA 0) 28)).setRow g16 (natA sm) = W6 at *
        go_region
        go_upto_region 8 with fail
        obtain ⟨W7, hW7, r6', r7', hk, hBel⟩ := swapRows gk r hne r6 r7
        replace r2 := hk _ _ (by omega) (by omega) r2
        replace r4 := hk _ _ (by omega) (by omega) r4
        replace r8 := hk _ _ (by omega) (by omega) r8
        replace r9 := hk _ _ (by omega) (by omega) r9
        replace s5 := hk _ _ (by omega) (by omega) s5
        have HB7 := Lib.hid (HB6.out.trans (hBel w.heap.size (by omega) (by omega)))
        rw [hW7]
        clear hk hBel hW7 HB6 r6 r7 s2
        go_region
        go_wp2_with fail
        go_roundg r
        case measure => exact HR.out
        case rel =>
          obtain ⟨W8, hW8, r8', r9', hk, hBel⟩ := swapRows N sm (show g ≠ g + 1 by omega) r8 r9
          rw [hW8]
          exact ⟨!b, gk, N, sm, rfl, HS.out, hk _ _ (by omega) (by omega) r2, hk _ _ (by omega) (by omega) r4, hk _ _ (by omega) (by omega) r6', hk _ _ (by omega) (by omega) r7', r8', r9', HB7.out.trans (hBel w.heap.size (by omega) (by omega))⟩
end Go.Proofs.Ytlmfiggmjpjpiaa

namespace Go.Proofs.Ytlmfiggmjpjpiaa
open Go.RowKit

theorem euc_run {m a : Nat} (k : Nat) : ∀ {x M N : Nat} {b : Bool}, Euc m a x k M N b → ∃ x' M' N' b', Euc m a x' 0 M' N' b' := by
  induction k using Nat.strongRecOn with
  | ind k ih =>
    intro x M N b h
    by_cases h0 : k = 0
    · subst h0; exact ⟨x, M, N, b, h⟩
    · exact ih (x % k) (Nat.mod_lt _ (by omega)) (euc_step h (by omega))
theorem inv_ex {m a : Nat} (ha : a < m) (hg : Nat.gcd m a = 1) : ∃ r, r < m ∧ r * a % m = 1 % m := by
  obtain ⟨x, M, N, b, h⟩ := euc_run a (euc_start ha)
  have hx := euc_end h
  rw [hg] at hx
  subst hx
  cases b
  · exact ⟨M, euc_pos h⟩
  · exact ⟨_, euc_neg h⟩
theorem inv_one {m a r s : Nat} (hr : r < m) (hs : s < m) (h1 : r * a % m = 1 % m) (h2 : s * a % m = 1 % m) : r = s := by
  have e1 : r * (s * a) % m = r % m := by rw [Nat.mul_mod, h2, ← Nat.mul_mod, Nat.mul_one]
  have e2 : s * (r * a) % m = s % m := by rw [Nat.mul_mod, h1, ← Nat.mul_mod, Nat.mul_one]
  rw [Nat.mul_left_comm] at e1
  rw [e1, Nat.mod_eq_of_lt hr, Nat.mod_eq_of_lt hs] at e2
  exact e2
theorem inv_gcd {m a r : Nat} (h : r * a % m = 1 % m) : Nat.gcd m a = 1 := by
  have h1 := Nat.gcd_dvd_left m a
  have h2 : Nat.gcd m a ∣ r * a := Nat.dvd_trans (Nat.gcd_dvd_right m a) (Nat.dvd_mul_left _ _)
  have h3 : Nat.gcd m a ∣ 1 % m := by rw [← h]; exact (Nat.dvd_mod_iff h1).2 h2
  exact Nat.eq_one_of_dvd_one ((Nat.dvd_mod_iff h1).1 h3)

theorem inverse_is (m a r : Nat) (hm : m < P64 ^ 16) (ha : a < m) (hr : r < m) (h : r * a % m = 1 % m) (w : World) : Calls Try.prog 51 #[.agg (natA m), .agg (natA a)] w fun e w' =>
    e = .returned (.tuple #[.agg (natA r), .int .i64 0]) ∧ Below w.heap.size w w' := by
  refine (inverse_any m a hm ha w).mono ?_
  rintro e w1 ⟨he, hb⟩
  rw [if_pos (inv_gcd h)] at he
  obtain ⟨s, hs, h2, rfl⟩ := he
  rw [inv_one hr hs h h2]
  exact ⟨rfl, hb⟩
theorem inverse_no (m a : Nat) (hm : m < P64 ^ 16) (ha : a < m) (h : Nat.gcd m a ≠ 1) (w : World) : Calls Try.prog 51 #[.agg (natA m), .agg (natA a)] w fun e w' =>
    e = .returned (.tuple #[.agg (natA 0), .int .i64 9]) ∧ Below w.heap.size w w' := by
  refine (inverse_any m a hm ha w).mono ?_
  rintro e w1 ⟨he, hb⟩
  rw [if_neg h] at he
  exact ⟨he, hb⟩

set_option maxRecDepth 100000 in
set_option maxHeartbeats 400000 in
theorem mod_inv_zero (a : Nat) (w : World) : Calls Try.prog 25 #[.agg (natA a), .agg (natA 0)] w fun e w' => e = .returned (.tuple #[.agg (natA 0), .int .i64 2]) ∧ Below w.heap.size w w' := by
  have HN := Lib.hid (fun W => newMod_zero W)
  have HF := Lib.hid (threeT w a 0)
  go_enter Try.func25, Try.ntmps25
  go_wp2_with fail
  refine (HN.out _).mono ?_
  rintro e w1 ⟨rfl, hb⟩
  obtain ⟨W0, hW, hB0, h1, h2, h3⟩ := HF.out
  rw [hW] at hb
  have HB0 := Lib.hid hB0
  clear hB0 hW HF
  replace h3 := kept hb _ _ h3
  have HB1 := Lib.hid (HB0.out.trans (hb.mono HB0.out.size))
  have l3 := rowN_lt h3
  clear hb HB0 h1 h2
  obtain ⟨k1, k2, k3⟩ := storedT0 w1 0 58
  have K4 := Lib.hid (k2 _ _ h3)
  have K3 := Lib.hid (HB1.out.trans (k3.mono HB1.out.size))
  clear k1 k2 k3
  go_wp2_with fail
  exact ret_nat_tmp _ (natA 0) rfl rfl rfl (row_new K4.out) (natA_size _) ⟨rfl, below_setRow' K3.out (by omega) _⟩

set_option maxRecDepth 100000 in
set_option maxHeartbeats 400000 in
theorem mod_inv_of (m a r : Nat) (E : Int) (hm : m < P64 ^ 16) (h0 : 0 < m) (ha : a < P64 ^ 16)
    (hI : ∀ W, Calls Try.prog 51 #[.agg (natA m), .agg (natA (a % m))] W fun e w' => e = .returned (.tuple #[.agg (natA r), .int .i64 E]) ∧ Below W.heap.size W w')
    (w : World) : Calls Try.prog 25 #[.agg (natA a), .agg (natA m)] w fun e w' => e = .returned (.tuple #[.agg (natA r), .int .i64 E]) ∧ Below w.heap.size w w' := by
  have HN := Lib.hid (fun W => newMod_pos m hm (by omega) W)
  have HR := Lib.hid (fun W => residue_any m a hm h0 ha W)
  have HP := Lib.hid hI
  have HF := Lib.hid (threeT w a m)
  clear hm h0 ha hI
  generalize a % m = am at *
  go_enter Try.func25, Try.ntmps25
  go_wp2_with fail
  refine (HN.out _).mono ?_
  rintro e w1 ⟨rfl, hb⟩
  obtain ⟨W0, hW, hB0, h1, h2, h4⟩ := HF.out
  rw [hW] at hb
  have HB0 := Lib.hid hB0
  clear hB0 hW HF
  replace h1 := kept hb _ _ h1
  replace h4 := kept hb _ _ h4
  have HB1 := Lib.hid (HB0.out.trans (hb.mono HB0.out.size))
  have l4 := rowN_lt h4
  clear hb HB0 h2
  obtain ⟨k1, k2, k3⟩ := storedT0 w1 m 58
  have K1 := Lib.hid (k2 _ _ h1)
  have K4 := Lib.hid (k2 _ _ h4)
  have K8 := Lib.hid k1
  have K3 := Lib.hid (HB1.out.trans (k3.mono HB1.out.size))
  clear k1 k2 k3 h1 h4
  go_wp2_with fail
  generalize (w1.alloc (.cells (natA 0) 58)).setRow w1.heap.size (natA m) = W2 at *
  generalize w1.heap.size = g8 at *
  have d1 : rowN W2.drew w.heap.size = some (natA a) := K1.out
  have d4 : rowN W2.drew (w.heap.size + 1 + 1) = some (natA 0) := K4.out
  have d8 : rowN W2.drew g8 = some (natA m) := K8.out
  have HD := Lib.hid K3.out.drew
  clear K1 K4 K8
  go_region_held3 (fun W => rowN W w.heap.size = some (natA a) ∧ rowN W g8 = some (natA m)) (first | exact ⟨d1, d8⟩ | exact ⟨row_other d1 (by omega), row_other d8 (by omega)⟩) (first
    | (go_at_call 36; refine (HR.out _).mono ?_; rintro e x1 ⟨rfl, hb⟩; replace d1 := kept hb _ _ d1; replace d4 := kept hb _ _ d4; replace d8 := kept hb _ _ d8; replace HD := Lib.hid (HD.out.trans (hb.mono HD.out.size)); clear hb)
    | (go_at_call 51; refine (HP.out _).mono ?_; rintro e x1 ⟨rfl, hb⟩; replace d1 := kept hb _ _ d1; replace d4 := kept hb _ _ d4; replace d8 := kept hb _ _ d8; replace HD := Lib.hid (HD.out.trans (hb.mono HD.out.size)); clear hb))
  all_goals
    go_wp2_with fail
    exact ret_nat_tmp _ (natA r) rfl rfl rfl (row_new d4) (natA_size _) ⟨rfl, below_setRow' HD.out (by omega) _⟩

theorem mod_inv_is (m a r : Nat) (hm : m < P64 ^ 16) (ha : a < P64 ^ 16) (hr : r < m) (h : r * a % m = 1 % m) (w : World) : Calls Try.prog 25 #[.agg (natA a), .agg (natA m)] w fun e w' => e = .returned (.tuple #[.agg (natA r), .int .i64 0]) ∧ Below w.heap.size w w' :=
  mod_inv_of m a r 0 hm (by omega) ha (fun W => inverse_is m (a % m) r hm (Nat.mod_lt _ (by omega)) hr (by rw [Nat.mul_mod_mod]; exact h) W) w
theorem mod_inv_no (m a : Nat) (hm : m < P64 ^ 16) (h0 : 0 < m) (ha : a < P64 ^ 16) (h : Nat.gcd m a ≠ 1) (w : World) : Calls Try.prog 25 #[.agg (natA a), .agg (natA m)] w fun e w' => e = .returned (.tuple #[.agg (natA 0), .int .i64 9]) ∧ Below w.heap.size w w' :=
  mod_inv_of m a 0 9 hm h0 ha (fun W => inverse_no m (a % m) hm (Nat.mod_lt _ h0) (by rw [Nat.gcd_comm, ← Nat.gcd_rec]; exact h) W) w
end Go.Proofs.Ytlmfiggmjpjpiaa
