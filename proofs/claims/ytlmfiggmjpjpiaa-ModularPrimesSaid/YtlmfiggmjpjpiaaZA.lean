/- Products of residues. Products of residues, whatever the modulus. Powers of residues. -/
import Derived.Test.YtlmfiggmjpjpiaaA1
import Derived.Test.YtlmfiggmjpjpiaaA2
import Derived.Test.YtlmfiggmjpjpiaaA5
import Derived.Test.YtlmfiggmjpjpiaaQ4
import Derived.Test.YtlmfiggmjpjpiaaZE
namespace Go.Proofs.Ytlmfiggmjpjpiaa
open Go.RowKit Go.Shelf

/-- A product's residue. -/
@[irreducible] def tm (m a b : Nat) : Nat := a * b % m
theorem tm_eq (m a b : Nat) : tm m a b = a * b % m := by unfold tm; rfl
theorem tm_lt {m : Nat} (a b : Nat) (h : 0 < m) : tm m a b < m := by rw [tm_eq]; exact Nat.mod_lt _ h

theorem plus_joins (m : Nat) (hm : m < P64 ^ 16) : Joins 38 m (fun a b => (a + b) % m) :=
  ⟨fun args w => by kernel_rfl, fun a b ha _ => Nat.mod_lt _ (by omega), fun a b W ha hb => plus_any m a b hm ha hb W⟩

set_option maxRecDepth 100000 in
set_option maxHeartbeats 400000 in
theorem times_fits (m a b : Nat) (hm : m < P64 ^ 16) (h0 : 0 < m) (ha : a < P64 ^ 16) (hb : b < P64 ^ 16) (hab : a * b < P64 ^ 16) (w : World) : Calls Try.prog 46 #[.agg (natA m), .agg (natA a), .agg (natA b)] w fun e w' => e = .returned (.agg (natA (tm m a b))) ∧ Below w.heap.size w w' := by
  have HM := Lib.hid (fun W => mul_fits a b ha hb hab W)
  have HR := Lib.hid (fun W => residue_any m (a * b) hm h0 hab W)
  rw [← tm_eq m a b] at HR
  clear hm h0 ha hb hab
  generalize tm m a b = r at *
  generalize a * b = ab at *
  have HF := Lib.hid (four w m a b)
  go_enter Try.func46, Try.ntmps46
  go_wp2_with fail
  refine (HM.out _).mono ?_
  rintro e w1 ⟨rfl, hb⟩
  obtain ⟨W0, hW, hB0, h1, h2, h3, h4, h5⟩ := HF.out
  rw [hW] at hb
  have HB0 := Lib.hid hB0
  clear hB0 hW HF h5
  replace h1 := kept hb _ _ h1
  replace h4 := kept hb _ _ h4
  have HB1 := Lib.hid (HB0.out.trans (hb.mono HB0.out.size))
  have l1 := rowN_lt h1
  have l4 := rowN_lt h4
  clear hb HB0 h2 h3
  go_wp2_with fail
  refine (HR.out _).mono ?_
  rintro e w2 ⟨rfl, hb⟩
  obtain ⟨h7, hk, hBel⟩ := stored hb
  replace h4 := hk _ _ h4
  have HB2 := Lib.hid (HB1.out.trans (hBel.mono HB1.out.size))
  clear hb hk hBel h1
  go_wp2_with fail
  exact ret_nat _ (natA r) rfl rfl rfl (row_new h4) (natA_size _) ⟨rfl, below_setRow' HB2.out (by omega) _⟩

set_option maxRecDepth 100000 in
set_option maxHeartbeats 400000 in
theorem times_ladder (m a b : Nat) (hm : m < P64 ^ 16) (ha : a < m) (hb : b < P64 ^ 16) (hab : ¬ a * b < P64 ^ 16) (hroom : 1018 < dlen 2 m) (w : World) : Calls Try.prog 46 #[.agg (natA m), .agg (natA a), .agg (natA b)] w fun e w' => e = .returned (.agg (natA (tm m a b))) ∧ Below w.heap.size w w' := by
  have h0 : 0 < m := by omega
  have HM := Lib.hid (fun W => mul_full a b (Nat.lt_trans ha hm) hb hab W)
  have HBL := Lib.hid (fun W => bitLen_any m hm W)
  have hd2 := dlen2_le hm
  have HL := Lib.hid (fun W => ladder_any 38 m _ (plus_joins m hm) (fun k => k * a % m) b a hb (by rw [Nat.zero_mul]; exact Nat.lt_of_le_of_lt (Nat.mod_le _ _) h0) ha
    (fun k => by show (k * a % m + k * a % m) % m = (k + k) * a % m; rw [← Nat.add_mod, Nat.add_mul])
    (fun k => by show (k * a % m + a) % m = (k + 1) * a % m; rw [Nat.mod_add_mod, Nat.succ_mul]) W)
  have e0 : 0 * a % m = 0 := by rw [Nat.zero_mul, Nat.zero_mod]
  have e1 : b * a % m = tm m a b := by rw [tm_eq, Nat.mul_comm]
  simp only [e0, e1] at HL
  obtain ⟨LL, hLL⟩ : ∃ LL, dlen 2 m = LL := ⟨_, rfl⟩
  rw [hLL] at HBL hroom hd2
  clear hm ha hb hab h0 e0 e1 hLL
  generalize tm m a b = r at *
  have HF := Lib.hid (four w m a b)
  have hmf : ∀ (fn : Fn) (first cap : Array Value) (w : World), (Instr.makeFunc fn first cap).run Try.prog w = .ok (.func fn first cap) w := fun _ _ _ _ => rfl
  go_enter Try.func46, Try.ntmps46
  go_wp2_with fail
  refine (HM.out _).mono ?_
  rintro e w1 ⟨rfl, hb⟩
  obtain ⟨W0, hW, hB0, h1, h2, h3, h4, h5⟩ := HF.out
  rw [hW] at hb
  have HB0 := Lib.hid hB0
  clear hB0 hW HF h5
  replace h1 := kept hb _ _ h1
  replace h2 := kept hb _ _ h2
  replace h3 := kept hb _ _ h3
  replace h4 := kept hb _ _ h4
  have HB1 := Lib.hid (HB0.out.trans (hb.mono HB0.out.size))
  have l4 := rowN_lt h4
  clear hb HB0
  go_wp2_with fail
  refine (HBL.out _).mono ?_
  rintro e w2 ⟨rfl, hb⟩
  obtain ⟨h7, hk, hBel⟩ := stored hb
  replace h1 := hk _ _ h1
  replace h2 := hk _ _ h2
  replace h3 := hk _ _ h3
  replace h4 := hk _ _ h4
  have HB2 := Lib.hid (HB1.out.trans (hBel.mono HB1.out.size))
  clear hb hk hBel h7
  go_wp2_with fail
  refine (HL.out _).mono ?_
  rintro e w3 ⟨rfl, hb⟩
  replace h4 := kept hb _ _ h4
  have HB3 := Lib.hid (HB2.out.trans (hb.mono HB2.out.size))
  clear hb
  go_wp2_with fail
  exact ret_nat _ (natA r) rfl rfl rfl (row_new h4) (natA_size _) ⟨rfl, below_setRow' HB3.out (by omega) _⟩
end Go.Proofs.Ytlmfiggmjpjpiaa

namespace Go.Proofs.Ytlmfiggmjpjpiaa
open Go.RowKit Go.Shelf

/-- What a product may be asked of: it fits, or the second factor is less than b. -/
def OkT (m b x y : Nat) : Prop := x < m ∧ y < P64 ^ 16 ∧ (y < b ∨ x * y < P64 ^ 16)

theorem parts_eq {m a b u : Nat} (h0 : 0 < m) : (tm m (tm m a u) (b / u) + tm m a (b % u)) % m = tm m a b := by
  have _ := h0
  simp only [tm_eq]
  have e : b = u * (b / u) + b % u := (Nat.div_add_mod b u).symm
  conv => rhs; rw [e, Nat.mul_add, ← Nat.mul_assoc]
  rw [Nat.mod_add_mod, Nat.add_mod_mod, Nat.add_mod, Nat.mod_mul_mod, ← Nat.add_mod]

set_option maxRecDepth 100000 in
set_option maxHeartbeats 1000000 in
theorem times_parts (m a b : Nat) (hm : m < P64 ^ 16) (h0 : 0 < m) (ha : a < m) (hb : b < P64 ^ 16) (hab : ¬ a * b < P64 ^ 16) (hroom : dlen 2 m ≤ 1018)
    (hT : ∀ x y W, OkT m b x y → Calls Try.prog 46 #[.agg (natA m), .agg (natA x), .agg (natA y)] W fun e w' => e = .returned (.agg (natA (tm m x y))) ∧ Below W.heap.size W w') (w : World) :
    Calls Try.prog 46 #[.agg (natA m), .agg (natA a), .agg (natA b)] w fun e w' => e = .returned (.agg (natA (tm m a b))) ∧ Below w.heap.size w w' := by
  have ha16 := Nat.lt_trans ha hm
  have HM := Lib.hid (fun W => mul_full a b ha16 hb hab W)
  have HBL := Lib.hid (fun W => bitLen_any m hm W)
  obtain ⟨LL, hLL⟩ : ∃ LL, dlen 2 m = LL := ⟨_, rfl⟩
  rw [hLL] at HBL hroom
  have hm2 : m < 2 ^ LL := by rw [← hLL]; exact lt_dlen (by omega) m
  have hL1 : 1 ≤ LL := by
    rcases Nat.eq_zero_or_pos LL with e | e
    · rw [e, Nat.pow_zero] at hm2; omega
    · exact e
  obtain ⟨k, hk⟩ : ∃ k : Nat, k = 1024 - LL := ⟨_, rfl⟩
  obtain ⟨n1024, hn1024⟩ : ∃ n, n = 64 * 16 := ⟨_, rfl⟩
  have h1024 : P64 ^ 16 = 2 ^ n1024 := P64_two n1024 hn1024
  have hP : 2 ^ LL * 2 ^ k = P64 ^ 16 := by rw [h1024, ← Nat.pow_add]; congr 1; omega
  have hU0 : 0 < 2 ^ k := Nat.two_pow_pos k
  have hU16 : 2 ^ k < P64 ^ 16 := by rw [h1024]; exact Nat.pow_lt_pow_right (by omega) (by omega)
  have hfit : ∀ y, y ≤ 2 ^ k → a * y < P64 ^ 16 := by
    intro y hy
    have h1 : a * y ≤ a * 2 ^ k := Nat.mul_le_mul_left _ hy
    have h2 : a * 2 ^ k < 2 ^ LL * 2 ^ k := Nat.mul_lt_mul_of_pos_right (Nat.lt_trans ha hm2) hU0
    omega
  have hb0 : 0 < b := by
    rcases Nat.eq_zero_or_pos b with e | e
    · exact absurd (by rw [e, Nat.mul_zero]; exact p64_16_pos) hab
    · exact e
  have hhi : b / 2 ^ k < b := Nat.div_lt_self hb0 (Nat.one_lt_two_pow (by omega))
  have hlo : b % 2 ^ k < 2 ^ k := Nat.mod_lt _ hU0
  have hs1 : dlen 2 1 = 1 := dlen_eq (by omega) (by omega) (by omega)
  have HSH := Lib.hid (fun W => shiftLeft_ok 1 k (small_lt (p64_lt (by omega))) (by omega) (by rw [hs1]; omega) W)
  rw [Nat.one_mul] at HSH
  have HDV := Lib.hid (fun W => divide_full b (2 ^ k) hb hU16 hU0 W)
  have ok1 : OkT m b a (2 ^ k) := ⟨ha, hU16, .inr (hfit _ (Nat.le_refl _))⟩
  have ok2 : OkT m b (tm m a (2 ^ k)) (b / 2 ^ k) := ⟨tm_lt _ _ h0, Nat.lt_of_le_of_lt (Nat.div_le_self _ _) hb, .inl hhi⟩
  have ok3 : OkT m b a (b % 2 ^ k) := ⟨ha, Nat.lt_trans hlo hU16, .inr (hfit _ (Nat.le_of_lt hlo))⟩
  have t2 := tm_lt (tm m a (2 ^ k)) (b / 2 ^ k) h0
  have t3 := tm_lt a (b % 2 ^ k) h0
  have HPL := Lib.hid (fun W => plus_any m (tm m (tm m a (2 ^ k)) (b / 2 ^ k)) (tm m a (b % 2 ^ k)) hm t2 t3 W)
  rw [parts_eq h0] at HPL
  have HC1 := Lib.hid (fun W => hT a (2 ^ k) W ok1)
  have HC2 := Lib.hid (fun W => hT (tm m a (2 ^ k)) (b / 2 ^ k) W ok2)
  have HC3 := Lib.hid (fun W => hT a (b % 2 ^ k) W ok3)
  have hkI : (1024 : Int) - (LL : Int) = (k : Int) := by omega
  have hk6 : (6 : Int) ≤ (k : Int) := by omega
  have HF := Lib.hid (four w m a b)
  have HO := Lib.hid (fun W => one_any W)
  clear hm h0 ha hb hab hT hLL hm2 hk h1024 hn1024 hP hU0 hU16 hfit hb0 hhi hlo hs1 ok1 ok2 ok3 t2 t3 ha16
  generalize tm m a (b % 2 ^ k) = p3 at *
  generalize tm m (tm m a (2 ^ k)) (b / 2 ^ k) = p2 at *
  generalize tm m a (2 ^ k) = p1 at *
  generalize b % 2 ^ k = lo at *
  generalize b / 2 ^ k = hi at *
  generalize 2 ^ k = U at *
  generalize tm m a b = r at *
  have HK := Lib.hid hkI
  clear hkI
  go_enter Try.func46, Try.ntmps46
  go_wp2_with fail
  refine (HM.out _).mono ?_
  rintro e w1 ⟨rfl, hb⟩
  obtain ⟨W0, hW, hB0, h1, h2, h3, h4, h5⟩ := HF.out
  rw [hW] at hb
  have HB0 := Lib.hid hB0
  clear hB0 hW HF h5
  replace h1 := kept hb _ _ h1
  replace h2 := kept hb _ _ h2
  replace h3 := kept hb _ _ h3
  replace h4 := kept hb _ _ h4
  have HB1 := Lib.hid (HB0.out.trans (hb.mono HB0.out.size))
  have l4 := rowN_lt h4
  clear hb HB0
  go_wp2_with fail
  refine (HBL.out _).mono ?_
  rintro e w2 ⟨rfl, hb⟩
  obtain ⟨h7, hk, hBel⟩ := stored hb
  replace h1 := hk _ _ h1
  replace h2 := hk _ _ h2
  replace h3 := hk _ _ h3
  replace h4 := hk _ _ h4
  have HB2 := Lib.hid (HB1.out.trans (hBel.mono HB1.out.size))
  clear hb hk hBel h7
  have hkI := HK.out
  go_wp2_with fail
  refine (HO.out _).mono ?_
  rintro e w3 ⟨rfl, hb⟩
  replace h1 := kept hb _ _ h1
  replace h2 := kept hb _ _ h2
  replace h3 := kept hb _ _ h3
  replace h4 := kept hb _ _ h4
  have HB3 := Lib.hid (HB2.out.trans (hb.mono HB2.out.size))
  clear hb
  go_wp2_with fail
  refine (HSH.out _).mono ?_
  rintro e w4 ⟨rfl, hb⟩
  replace h1 := kept hb _ _ h1
  replace h2 := kept hb _ _ h2
  replace h3 := kept hb _ _ h3
  replace h4 := kept hb _ _ h4
  have HB4 := Lib.hid (HB3.out.trans (hb.mono HB3.out.size))
  have l4b := rowN_lt h4
  clear hb hkI
  go_wp2_with fail
  refine (HDV.out _).mono ?_
  rintro e w5 ⟨rfl, hb⟩
  obtain ⟨h10, hk, hBel⟩ := stored hb
  replace h1 := hk _ _ h1
  replace h2 := hk _ _ h2
  replace h3 := hk _ _ h3
  replace h4 := hk _ _ h4
  have HB5 := Lib.hid (HB4.out.trans (hBel.mono HB4.out.size))
  clear hb hk hBel
  generalize w4.heap.size = g10 at *
  have l4c := rowN_lt h4
  go_upto_region 9 with fail
  have hb6 : Below w5.heap.size w5 ((((w5.alloc (.cells (natA 0) 28)).alloc (.cells (natA 0) 28)).setRow w5.heap.size (natA hi)).setRow (w5.heap.size + 1) (natA lo)) :=
    below_setRow' (below_setRow' (((Below.refl _ w5).alloc (Nat.le_refl _) _).alloc (by simp) _) (Nat.le_refl _) _) (by omega) _
  have h12 : rowN ((((w5.alloc (.cells (natA 0) 28)).alloc (.cells (natA 0) 28)).setRow w5.heap.size (natA hi)).setRow (w5.heap.size + 1) (natA lo)) w5.heap.size = some (natA hi) := by
    rw [rowN_setRow, if_neg (by omega), rowN_setRow, if_pos rfl, rowN_alloc, World.size_alloc, if_neg (by omega), rowN_alloc, if_pos rfl]; rfl
  have h13 : rowN ((((w5.alloc (.cells (natA 0) 28)).alloc (.cells (natA 0) 28)).setRow w5.heap.size (natA hi)).setRow (w5.heap.size + 1) (natA lo)) (w5.heap.size + 1) = some (natA lo) := by
    rw [rowN_setRow, if_pos rfl, rowN_setRow, if_neg (by omega), rowN_alloc, World.size_alloc, if_pos rfl]; rfl
  replace h1 := kept hb6 _ _ h1
  replace h2 := kept hb6 _ _ h2
  replace h4 := kept hb6 _ _ h4
  replace h10 := kept hb6 _ _ h10
  have HB6 := Lib.hid (HB5.out.trans (hb6.mono HB5.out.size))
  clear hb6 h3
  generalize hg12 : w5.heap.size = g12 at *
  clear hg12
  generalize (((w5.alloc (.cells (natA 0) 28)).alloc (.cells (natA 0) 28)).setRow g12 (natA hi)).setRow (g12 + 1) (natA lo) = W6 at *
  have d1 : rowN W6.drew w.heap.size = some (natA m) := h1
  have d2 : rowN W6.drew (w.heap.size + 1) = some (natA a) := h2
  have d4 : rowN W6.drew (w.heap.size + 1 + 1 + 1) = some (natA 0) := h4
  have d10 : rowN W6.drew g10 = some (natA U) := h10
  have d12 : rowN W6.drew g12 = some (natA hi) := h12
  have d13 : rowN W6.drew (g12 + 1) = some (natA lo) := h13
  have HD := Lib.hid (show Below w.heap.size w W6.drew from HB6.out.drew)
  clear h1 h2 h4 h10 h12 h13
  go_region_held3 (fun W => rowN W w.heap.size = some (natA m) ∧ rowN W (w.heap.size + 1) = some (natA a) ∧ rowN W g10 = some (natA U) ∧ rowN W g12 = some (natA hi) ∧ rowN W (g12 + 1) = some (natA lo)) (first | exact ⟨d1, d2, d10, d12, d13⟩ | exact ⟨row_other d1 (by omega), row_other d2 (by omega), row_other d10 (by omega), row_other d12 (by omega), row_other d13 (by omega)⟩) (first
    | (go_at_call_of 46 (Value.agg (natA U)); refine (HC1.out _).mono ?_; rintro e x1 ⟨rfl, hb⟩; replace d1 := kept hb _ _ d1; replace d2 := kept hb _ _ d2; replace d4 := kept hb _ _ d4; replace d10 := kept hb _ _ d10; replace d12 := kept hb _ _ d12; replace d13 := kept hb _ _ d13; replace HD := Lib.hid (HD.out.trans (hb.mono HD.out.size)); clear hb)
    | (go_at_call_of 46 (Value.agg (natA hi)); refine (HC2.out _).mono ?_; rintro e x1 ⟨rfl, hb⟩; replace d1 := kept hb _ _ d1; replace d2 := kept hb _ _ d2; replace d4 := kept hb _ _ d4; replace d10 := kept hb _ _ d10; replace d12 := kept hb _ _ d12; replace d13 := kept hb _ _ d13; replace HD := Lib.hid (HD.out.trans (hb.mono HD.out.size)); clear hb)
    | (go_at_call_of 46 (Value.agg (natA lo)); refine (HC3.out _).mono ?_; rintro e x1 ⟨rfl, hb⟩; replace d1 := kept hb _ _ d1; replace d2 := kept hb _ _ d2; replace d4 := kept hb _ _ d4; replace d10 := kept hb _ _ d10; replace d12 := kept hb _ _ d12; replace d13 := kept hb _ _ d13; replace HD := Lib.hid (HD.out.trans (hb.mono HD.out.size)); clear hb)
    | (go_at_call 38; refine (HPL.out _).mono ?_; rintro e x1 ⟨rfl, hb⟩; replace d1 := kept hb _ _ d1; replace d2 := kept hb _ _ d2; replace d4 := kept hb _ _ d4; replace d10 := kept hb _ _ d10; replace d12 := kept hb _ _ d12; replace d13 := kept hb _ _ d13; replace HD := Lib.hid (HD.out.trans (hb.mono HD.out.size)); clear hb))
  go_wp2_with fail
  exact ret_nat _ (natA r) rfl rfl rfl (row_new d4) (natA_size _) ⟨rfl, below_setRow' HD.out (by omega) _⟩
theorem times_any (m : Nat) (hm : m < P64 ^ 16) (h0 : 0 < m) : ∀ (b a : Nat) (w : World), a < m → b < P64 ^ 16 → Calls Try.prog 46 #[.agg (natA m), .agg (natA a), .agg (natA b)] w fun e w' => e = .returned (.agg (natA (tm m a b))) ∧ Below w.heap.size w w' := by
  intro b
  induction b using Nat.strongRecOn with
  | ind b ih =>
    intro a w ha hb
    by_cases hab : a * b < P64 ^ 16
    · exact times_fits m a b hm h0 (Nat.lt_trans ha hm) hb hab w
    · by_cases hr : dlen 2 m ≤ 1018
      · refine times_parts m a b hm h0 ha hb hab hr (fun x y W hk => ?_) w
        obtain ⟨hx, hy, hz⟩ := hk
        by_cases hxy : x * y < P64 ^ 16
        · exact times_fits m x y hm h0 (Nat.lt_trans hx hm) hy hxy W
        · rcases hz with hz | hz
          · exact ih y hz x W hx hy
          · exact absurd hz hxy
      · exact times_ladder m a b hm ha hb hab (by omega) w
theorem times_joins (m : Nat) (hm : m < P64 ^ 16) (h0 : 0 < m) : Joins 46 m (tm m) :=
  ⟨fun args w => by kernel_rfl, fun a b _ _ => tm_lt a b h0, fun a b W ha hb => times_any m hm h0 b a W ha (Nat.lt_trans hb hm)⟩
end Go.Proofs.Ytlmfiggmjpjpiaa

namespace Go.Proofs.Ytlmfiggmjpjpiaa
open Go.RowKit Go.Shelf

/-- A power's residue. -/
@[irreducible] def pm (m b k : Nat) : Nat := b ^ k % m
theorem pm_eq (m b k : Nat) : pm m b k = b ^ k % m := by unfold pm; rfl
theorem pm_lt {m : Nat} (b k : Nat) (h : 0 < m) : pm m b k < m := by rw [pm_eq]; exact Nat.mod_lt _ h
theorem pm_zero (m b : Nat) : pm m b 0 = 1 % m := by rw [pm_eq, Nat.pow_zero]
theorem pm_twice (m b k : Nat) : tm m (pm m b k) (pm m b k) = pm m b (k + k) := by
  rw [tm_eq, pm_eq, pm_eq, Nat.pow_add, ← Nat.mul_mod]
theorem pm_more (m b k : Nat) : tm m (pm m b k) b = pm m b (k + 1) := by
  rw [tm_eq, pm_eq, pm_eq, Nat.pow_succ, Nat.mod_mul_mod]

set_option maxRecDepth 100000 in
set_option maxHeartbeats 800000 in
theorem power_any (m b v : Nat) (hm : m < P64 ^ 16) (h0 : 0 < m) (hb : b < m) (hv : v < P64 ^ 16) (w : World) : Calls Try.prog 48 #[.agg (natA m), .agg (natA b), .agg (natA v)] w fun e w' => e = .returned (.agg (natA (pm m b v))) ∧ Below w.heap.size w w' := by
  have HO := Lib.hid (fun W => one_any W)
  have HR := Lib.hid (fun W => residue_any m 1 hm h0 (small_lt (p64_lt (by omega))) W)
  have HL := Lib.hid (fun W => ladder_any 46 m _ (times_joins m hm h0) (pm m b) v b hv (pm_lt b 0 h0) hb (pm_twice m b) (pm_more m b) W)
  rw [← pm_zero m b] at HR
  clear hm h0 hb hv
  generalize pm m b 0 = n0 at *
  generalize pm m b v = r at *
  have hmf : ∀ (fn : Fn) (first cap : Array Value) (w : World), (Instr.makeFunc fn first cap).run Try.prog w = .ok (.func fn first cap) w := fun _ _ _ _ => rfl
  obtain ⟨W0, hW, hB0, h1, h2, h3, h4, h5⟩ := four w m b v
  have d1 : rowN W0.drew w.heap.size = some (natA m) := h1
  have d2 : rowN W0.drew (w.heap.size + 1) = some (natA b) := h2
  have d3 : rowN W0.drew (w.heap.size + 1 + 1) = some (natA v) := h3
  have d4 : rowN W0.drew (w.heap.size + 1 + 1 + 1) = some (natA 0) := h4
  have HD := Lib.hid (show Below w.heap.size w W0.drew from hB0.drew)
  have HW := Lib.hid hW
  clear hW hB0 h1 h2 h3 h4 h5
  go_enter Try.func48, Try.ntmps48
  go_upto_region 1 with fail
  rw [HW.out]
  clear HW
  go_region_held3 (fun W => rowN W w.heap.size = some (natA m) ∧ rowN W (w.heap.size + 1) = some (natA b) ∧ rowN W (w.heap.size + 1 + 1) = some (natA v)) (first | exact ⟨d1, d2, d3⟩ | exact ⟨row_other d1 (by omega), row_other d2 (by omega), row_other d3 (by omega)⟩) (first
    | (go_at_call 68; refine (HO.out _).mono ?_; rintro e x1 ⟨rfl, hb⟩; replace d1 := kept hb _ _ d1; replace d2 := kept hb _ _ d2; replace d3 := kept hb _ _ d3; replace d4 := kept hb _ _ d4; replace HD := Lib.hid (HD.out.trans (hb.mono HD.out.size)); clear hb)
    | (go_at_call 36; refine (HR.out _).mono ?_; rintro e x1 ⟨rfl, hb⟩; replace d1 := kept hb _ _ d1; replace d2 := kept hb _ _ d2; replace d3 := kept hb _ _ d3; replace d4 := kept hb _ _ d4; replace HD := Lib.hid (HD.out.trans (hb.mono HD.out.size)); clear hb)
    | (go_at_call 67; refine (HL.out _).mono ?_; rintro e x1 ⟨rfl, hb⟩; replace d1 := kept hb _ _ d1; replace d2 := kept hb _ _ d2; replace d3 := kept hb _ _ d3; replace d4 := kept hb _ _ d4; replace HD := Lib.hid (HD.out.trans (hb.mono HD.out.size)); clear hb))
  all_goals
    go_wp2_with fail
    exact ret_nat _ (natA r) rfl rfl rfl (row_new d4) (natA_size _) ⟨rfl, below_setRow' HD.out (by omega) _⟩
end Go.Proofs.Ytlmfiggmjpjpiaa
