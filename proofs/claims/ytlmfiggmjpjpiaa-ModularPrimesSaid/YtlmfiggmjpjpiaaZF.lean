/- Factors: no program. Factors: the iterator's walk. Factors: contracts; Prime. Prime. -/
import Derived.Test.YtlmfiggmjpjpiaaZI
import Derived.Test.YtlmfiggmjpjpiaaE2
import Derived.Test.YtlmfiggmjpjpiaaZE
namespace Go.Proofs.Ytlmfiggmjpjpiaa

def IsP (p : Nat) : Prop := 2 ≤ p ∧ ∀ d, 2 ≤ d → d < p → ¬ d ∣ p
def prodF : List (Nat × Nat) → Nat
  | [] => 1
  | x :: xs => x.1 ^ x.2 * prodF xs
theorem prodF_snoc (xs : List (Nat × Nat)) (x : Nat × Nat) : prodF (xs ++ [x]) = prodF xs * x.1 ^ x.2 := by
  induction xs with
  | nil => simp [prodF]
  | cons y ys ih => simp only [List.cons_append, prodF, ih, Nat.mul_assoc]

/-- What is known when p comes next and r is left. -/
structure Fac (v p r : Nat) (pre : List (Nat × Nat)) : Prop where
  prod : prodF pre * r = v
  pos : 0 < r
  two : 2 ≤ p
  none : ∀ d, 2 ≤ d → d < p → ¬ d ∣ r
  mem : ∀ x ∈ pre, IsP x.1 ∧ 0 < x.2 ∧ x.1 < p
  ord : pre.Pairwise (fun a b => a.1 < b.1)

theorem isP_coprime {p q : Nat} (hp : IsP p) (hq : IsP q) (h : p ≠ q) : Nat.Coprime p q := by
  have h1 := Nat.gcd_dvd_left p q
  have h2 := Nat.gcd_dvd_right p q
  have hpp : 0 < p := by have := hp.1; omega
  have hqp : 0 < q := by have := hq.1; omega
  have l1 := Nat.le_of_dvd hpp h1
  have l2 := Nat.le_of_dvd hqp h2
  have g0 : 0 < Nat.gcd p q := Nat.gcd_pos_of_pos_left _ hpp
  show Nat.gcd p q = 1
  rcases Nat.lt_or_ge (Nat.gcd p q) 2 with g | g
  · omega
  · rcases Nat.lt_or_ge (Nat.gcd p q) p with a | a
    · exact absurd h1 (hp.2 _ g a)
    · rcases Nat.lt_or_ge (Nat.gcd p q) q with b | b
      · exact absurd h2 (hq.2 _ g b)
      · omega

theorem coprime_prodF {p k : Nat} (hp : IsP p) (pre : List (Nat × Nat)) (h : ∀ x ∈ pre, IsP x.1 ∧ x.1 ≠ p) : Nat.Coprime (p ^ k) (prodF pre) := by
  induction pre with
  | nil => exact Nat.coprime_one_right _
  | cons x xs ih =>
    refine Nat.Coprime.mul_right ?_ (ih fun y hy => h y (List.mem_cons_of_mem _ hy))
    have hx := h x List.mem_cons_self
    exact Nat.Coprime.pow _ _ (isP_coprime hp hx.1 (fun e => hx.2 e.symm))

theorem Fac.le {v p r : Nat} {pre : List (Nat × Nat)} (h : Fac v p r pre) (h1 : 1 < r) : p ≤ r ∧ r ≤ v := by
  refine ⟨Nat.le_of_not_lt fun hl => h.none r h1 hl (Nat.dvd_refl _), ?_⟩
  rw [← h.prod]
  refine Nat.le_mul_of_pos_left _ (Nat.pos_of_ne_zero fun e => ?_)
  have h3 := h.prod
  rw [e, Nat.zero_mul] at h3
  have key : ∀ l : List (Nat × Nat), (∀ x ∈ l, IsP x.1 ∧ 0 < x.2 ∧ x.1 < p) → 0 < prodF l := by
    intro l
    induction l with
    | nil => intro _; exact Nat.one_pos
    | cons x xs ih =>
      intro hm
      refine Nat.mul_pos (Nat.pow_pos ?_) (ih fun y hy => hm y (List.mem_cons_of_mem _ hy))
      have := (hm x List.mem_cons_self).1.1
      omega
  have := key pre h.mem
  omega

/-- No number between p and the rest divides it. -/
theorem Fac.jump {v p r : Nat} {pre : List (Nat × Nat)} (h : Fac v p r pre) (h1 : 1 < r) (hp : r < p * p) : Fac v r r pre := by
  have hpr := (h.le h1).1
  refine ⟨h.prod, h.pos, h1, fun d hd hdr hdv => ?_, fun x hx => ?_, h.ord⟩
  · obtain ⟨k, hk⟩ := hdv
    have hdp : p ≤ d := Nat.le_of_not_lt fun hl => h.none d hd hl ⟨k, hk⟩
    have hk2 : 2 ≤ k := by
      rcases k with _ | _ | k
      · omega
      · omega
      · omega
    have hkp : p ≤ k := Nat.le_of_not_lt fun hl => h.none k hk2 hl ⟨d, by rw [hk, Nat.mul_comm]⟩
    have := Nat.mul_le_mul hdp hkp
    omega
  · obtain ⟨a, b, c⟩ := h.mem x hx
    exact ⟨a, b, by omega⟩

/-- p does not divide what is left. -/
theorem Fac.skip {v p r : Nat} {pre : List (Nat × Nat)} (h : Fac v p r pre) (hp : ¬ p ∣ r) : Fac v (p + 1) r pre := by
  refine ⟨h.prod, h.pos, by have := h.two; omega, fun d hd hdp => ?_, fun x hx => ?_, h.ord⟩
  · by_cases e : d = p
    · rw [e]; exact hp
    · exact h.none d hd (by omega)
  · obtain ⟨a, b, c⟩ := h.mem x hx
    exact ⟨a, b, by omega⟩

theorem Fac.isP {v p r : Nat} {pre : List (Nat × Nat)} (h : Fac v p r pre) (hp : p ∣ r) : IsP p :=
  ⟨h.two, fun d hd hdp hdv => h.none d hd hdp (Nat.dvd_trans hdv hp)⟩

/-- p divides what is left e times. -/
theorem Fac.take {v p r s e : Nat} {pre : List (Nat × Nat)} (h : Fac v p r pre) (he : 0 < e) (hr : r = p ^ e * s) (hs : ¬ p ∣ s) : Fac v (p + 1) s (pre ++ [(p, e)]) := by
  have hpr : p ∣ r := by
    rw [hr]
    exact Nat.dvd_trans (by have := Nat.pow_dvd_pow p he; rw [Nat.pow_one] at this; exact this) (Nat.dvd_mul_right _ _)
  refine ⟨?_, ?_, by have := h.two; omega, fun d hd hdp => ?_, fun x hx => ?_, ?_⟩
  · rw [prodF_snoc, Nat.mul_assoc, ← hr]; exact h.prod
  · refine Nat.pos_of_ne_zero fun e0 => hs ?_
    rw [e0]; exact Nat.dvd_zero _
  · by_cases ed : d = p
    · rw [ed]; exact hs
    · exact fun hds => h.none d hd (by omega) (by rw [hr]; exact Nat.dvd_trans hds (Nat.dvd_mul_left _ _))
  · rcases List.mem_append.1 hx with hx | hx
    · obtain ⟨a, b, c⟩ := h.mem x hx
      exact ⟨a, b, by omega⟩
    · simp at hx; subst hx
      exact ⟨h.isP hpr, he, by simp⟩
  · rw [List.pairwise_append]
    exact ⟨h.ord, List.pairwise_singleton _ _, fun a ha b hb => by simp at hb; subst hb; exact (h.mem a ha).2.2⟩

/-- A prime and how often it divides v. -/
def FP (v : Nat) : Type := { x : Nat × Nat // IsP x.1 ∧ 0 < x.2 ∧ x.1 ^ x.2 ∣ v ∧ ¬ x.1 ^ (x.2 + 1) ∣ v }
def vals {v : Nat} (pre : List (FP v)) : List (Nat × Nat) := pre.map (fun x => x.1)
theorem vals_snoc {v : Nat} (pre : List (FP v)) (x : FP v) : vals (pre ++ [x]) = vals pre ++ [x.1] := by simp [vals]

theorem Fac.fp {v p r s e : Nat} {pre : List (Nat × Nat)} (h : Fac v p r pre) (he : 0 < e) (hr : r = p ^ e * s) (hs : ¬ p ∣ s) :
    IsP p ∧ 0 < e ∧ p ^ e ∣ v ∧ ¬ p ^ (e + 1) ∣ v := by
  have hpr : p ∣ r := by
    rw [hr]
    exact Nat.dvd_trans (by have := Nat.pow_dvd_pow p he; rw [Nat.pow_one] at this; exact this) (Nat.dvd_mul_right _ _)
  have hP := h.isP hpr
  refine ⟨hP, he, ?_, fun hd => ?_⟩
  · rw [← h.prod, hr]
    exact Nat.dvd_trans (Nat.dvd_mul_right _ s) (Nat.dvd_mul_left _ _)
  · rw [← h.prod] at hd
    have hc : Nat.Coprime (p ^ (e + 1)) (prodF pre) := coprime_prodF hP pre fun x hx => ⟨(h.mem x hx).1, by have := (h.mem x hx).2.2; omega⟩
    have h2 : p ^ (e + 1) ∣ r := hc.dvd_of_dvd_mul_left hd
    rw [hr, Nat.pow_succ] at h2
    exact hs (Nat.dvd_of_mul_dvd_mul_left (Nat.pow_pos (by have := hP.1; omega)) h2)

theorem prodF_len {pre : List (Nat × Nat)} {v p r : Nat} (h : Fac v p r pre) : 2 ^ pre.length ≤ prodF pre := by
  have key : ∀ l : List (Nat × Nat), (∀ x ∈ l, IsP x.1 ∧ 0 < x.2 ∧ x.1 < p) → 2 ^ l.length ≤ prodF l := by
    intro l
    induction l with
    | nil => intro _; exact Nat.le_refl _
    | cons x xs ih =>
      intro hm
      have h1 := ih fun y hy => hm y (List.mem_cons_of_mem _ hy)
      have h2 := hm x List.mem_cons_self
      rw [List.length_cons, Nat.pow_succ, Nat.mul_comm]
      refine Nat.mul_le_mul ?_ h1
      have h3 : x.1 ^ 1 ≤ x.1 ^ x.2 := Nat.pow_le_pow_right (by have := h2.1.1; omega) h2.2.1
      rw [Nat.pow_one] at h3
      exact Nat.le_trans h2.1.1 h3
  exact key pre h.mem

theorem Fac.len {v p r : Nat} {pre : List (Nat × Nat)} (h : Fac v p r pre) (hv : v < 2 ^ 32) : pre.length < 32 := by
  have h1 := prodF_len h
  have h2 : prodF pre ≤ v := by rw [← h.prod]; exact Nat.le_mul_of_pos_right _ h.pos
  exact (Nat.pow_lt_pow_iff_right (show 1 < 2 by omega)).1 (Nat.lt_of_le_of_lt (Nat.le_trans h1 h2) hv)

theorem Fac.start {v : Nat} (h : 0 < v) : Fac v 2 v [] :=
  ⟨by simp [prodF], h, Nat.le_refl _, fun d h1 h2 => by omega, fun x hx => by simp at hx, List.Pairwise.nil⟩
end Go.Proofs.Ytlmfiggmjpjpiaa

namespace Go.Proofs.Ytlmfiggmjpjpiaa
open Go.RowKit Go.Shelf

attribute [local go_sem] Oper.semAt_some

section
variable {F : Fence} {n : Nat} {P : Program} {b : Frame} {a : Act} {k : List Item} {cs : List Frame} {w : World} {Q : Exit → Act → World → Prop}
theorem stepR_scope {c : Code} : step P (lone (b.atR a (.code (.scope c) :: k)) cs w) = .next (lone (b.atR a (.code c :: .inScope c :: k)) cs w) :=
  step_lone_go (by simp [stepG, stepG.exec, Frame.atR])
theorem stepR_inScope {c : Code} : step P (lone (b.atR a (.inScope c :: k)) cs w) = .next (lone (b.atR a k) cs w) :=
  step_lone_go (by simp [stepG, stepG.exec, Frame.atR])
/-- A scope whose code never jumps, inside a fence. -/
theorem wpIn_scope_straight {c : Code} (h : c.wpIn F n P (Exit.noGoto Q) a w) : (Code.scope c).wpIn F n P Q a w := by
  intro b k cs hro hb hr
  have h0 : (lone (b.atR a (.code (.scope c) :: k)) cs w).fenced P F := fenced_calm hb hr rfl
  obtain ⟨e, a₁, w₁, hq, harr⟩ := h b (.inScope c :: k) cs hro hb hr
  cases e with
  | normal => exact ⟨.normal, a₁, w₁, hq, .head h0 stepR_scope (StepsIn.trans harr (.one (fenced_calm hb hr rfl) stepR_inScope))⟩
  | exit id =>
    have hx : exitTo id (.inScope c :: k) = exitTo id k := by simp [exitTo]
    exact ⟨.exit id, a₁, w₁, hq, fun k' hk => .head h0 stepR_scope (harr.1 k' (by rw [hx]; exact hk)),
      fun hr' hk => let ⟨k₁, h1, h2⟩ := harr.2 hr' (by rw [hx]; exact hk); ⟨k₁, h1, .head h0 stepR_scope h2⟩⟩
  | goto l => exact hq.elim
  | ret => exact ⟨_, a₁, w₁, hq, .of_steps (.one h0 stepR_scope) harr⟩
  | panic ch => exact ⟨_, a₁, w₁, hq, .of_steps (.one h0 stepR_scope) harr⟩
  | outgrown => exact ⟨_, a₁, w₁, hq, .of_steps (.one h0 stepR_scope) harr⟩
end

def AllF (v : Nat) (xs : List (FP v)) : Prop := ∃ p, Fac v p 1 (vals xs)
def SomeF (v : Nat) (xs : List (FP v)) : Prop := ∃ p r, Fac v p r (vals xs)

/-- What the outer loop holds. -/
def OutF (v : Nat) (J : List (FP v) → World → Prop) (sr sp : Value) (wr : World) : Prop :=
  ∃ (r p : Nat) (pre : List (FP v)), sr = .int .i64 (r : Nat) ∧ sp = .int .i64 (p : Nat) ∧ Fac v p r (vals pre) ∧ p ≤ v + 1 ∧ r ≤ v ∧ (1 < r → p ≤ 65537) ∧ J pre wr
/-- What the inner loop holds. -/
def InF (v p r : Nat) (pre : List (FP v)) (J : List (FP v) → World → Prop) (sr se : Value) (wr : World) : Prop :=
  ∃ (s e : Nat), sr = .int .i64 (s : Nat) ∧ se = .int .i64 (e : Nat) ∧ r = p ^ e * s ∧ J pre wr

theorem next_small {q r s e : Nat} (h : q = r ∨ q ≤ 65535) (hr : r = q ^ e * s) (hs : ¬ q ∣ s) (h2 : 2 ≤ q) (h1 : 1 < s) : q + 1 ≤ 65537 := by
  rcases h with h | h
  · rcases e with _ | e
    · rw [Nat.pow_zero, Nat.one_mul] at hr
      exact absurd (by rw [h, hr]; exact Nat.dvd_refl _) hs
    · have h3 : q ^ 1 ≤ q ^ (e + 1) := Nat.pow_le_pow_right (by omega) (by omega)
      rw [Nat.pow_one] at h3
      have h4 : q * 2 ≤ q ^ (e + 1) * s := Nat.mul_le_mul h3 h1
      omega
  · omega
theorem div_wrap {s q : Nat} (h : s < 4294967296) : wrap64 ((s : Int) / (q : Int)) = ((s / q : Nat) : Int) := by
  rw [← Int.natCast_ediv]
  have h1 : s / q ≤ s := Nat.div_le_self _ _
  generalize s / q = y at *
  unfold wrap64
  omega
theorem exp_small {q r s e : Nat} (hr : r = q ^ e * s) (hs : 0 < s) (h2 : 2 ≤ q) (h : r < 2 ^ 32) : e < 32 := by
  have h3 : 2 ^ e ≤ q ^ e := Nat.pow_le_pow_left h2 e
  have h4 : q ^ e ≤ q ^ e * s := Nat.le_mul_of_pos_right _ hs
  exact (Nat.pow_lt_pow_iff_right (show 1 < 2 by omega)).1 (by omega)
theorem sq_small {q r : Nat} (h : q * q ≤ r) (hr : r < 2 ^ 32) : q ≤ 65535 := by
  refine Nat.le_of_not_lt fun hl => ?_
  have := Nat.mul_le_mul (show 65536 ≤ q from hl) (show 65536 ≤ q from hl)
  omega

set_option maxRecDepth 100000 in
set_option maxHeartbeats 1000000 in
theorem factors1_in (n : Nat) (l Bn v : Nat) (h2 : 2 ≤ v) (hv : v < 2 ^ 32) (J Jx : List (FP v) → World → Prop) (W : World) (hBn : W.cell? ⟨Bn, 0, none⟩ = some (.int .i64 (v : Nat)))
    (hY : ∀ pre x W, J pre W → pre.length < 32 → YieldAt Fence.wide (n - 1) Try.prog l #[.int .i64 (x : FP v).1.1, .int .i64 x.1.2] W fun e W' =>
      (e = .returned (.bool true) ∧ J (pre ++ [x]) W' ∧ True) ∨ (e = .returned (.bool false) ∧ Jx (pre ++ [x]) W'))
    (h0 : J [] W) :
    CallsIn Fence.wide n Try.prog 53 #[.func (.yield l) #[] #[], .pointer (some ⟨Bn, 0, none⟩)] W fun e W' => (∃ v, e = .returned v) ∧
      ((∃ ys, AllF v ys ∧ J ys W') ∨ (∃ pre, SomeF v pre ∧ Jx pre W')) := by
  have HY := Lib.hid hY
  have HV := Lib.hid hv
  have H2 := Lib.hid h2
  have H0 := Lib.hid h0
  clear hY hv h0 h2
  have a1 : decide (((v : Nat) : Int) < 2) = false := by have := H2.out; simp; omega
  have a2 : decide (((v : Nat) : Int) ≥ 4294967296) = false := by have := HV.out; simp; omega
  have a2' : decide (4294967296 ≤ ((v : Nat) : Int)) = false := a2
  refine callsIn_of_wp Try.func53 rfl trivial ?_ rfl
  simp only [Try.ntmps53, List.size_toArray, List.length_cons, List.length_nil, Nat.reduceAdd, Nat.reduceSub, Array.replicate_succ, Array.replicate_zero, List.push_toArray, List.append_toArray, List.nil_append, List.cons_append]
  refine wpIn_scope_straight ?_
  gi_wp2_with fail
  refine wpIn_label ?_
  gi_wp2_with fail
  gi_loopw [3, 4] (fun sr sp wr => OutF v J sr sp wr) (fun _ sp _ => ((v : Int) + 1 - intOf sp).toNat)
  case atStart =>
    have h2 := H2.out
    exact ⟨v, 2, [], rfl, rfl, Fac.start (by omega), by omega, Nat.le_refl _, fun _ => by omega, H0.out⟩
  case round =>
    obtain ⟨r, p, pre, rfl, rfl, hf, hpv, hrv, hps, hj⟩ := hrel
    have HF := Lib.hid hf
    have HJ := Lib.hid hj
    have HPS := Lib.hid hps
    have hr0 : 0 < r := hf.pos
    have hp2 : 2 ≤ p := hf.two
    clear hf hj hps
    by_cases h1 : r = 1
    · have g1 : decide (((r : Nat) : Int) > 1) = false := by simp; omega
      gi_wp2_with fail
      rw [Exit.noGoto_normal]
      go_end0
      exact ⟨⟨_, rfl⟩, .inl ⟨pre, ⟨p, by have := HF.out; rw [h1] at this; exact this⟩, HJ.out⟩⟩
    · have g1 : decide (((r : Nat) : Int) > 1) = true := by simp; omega
      have hp6 : p ≤ 65537 := HPS.out (by omega)
      have hpr : p ≤ r := (HF.out.le (by omega)).1
      obtain ⟨pp, hpp⟩ : ∃ pp, p * p = pp := ⟨_, rfl⟩
      have hw : IntKind.i64.wrap ((p : Int) * (p : Int)) = ((pp : Nat) : Int) := by
        have h3 := Nat.mul_le_mul hp6 hp6
        rw [hpp] at h3
        have h4 : (p : Int) * (p : Int) = ((pp : Nat) : Int) := by rw [← hpp, Int.natCast_mul]
        rw [h4, IntKind.wrap_i64]
        omega
      have HPP := Lib.hid hpp
      clear hpp
      by_cases h3 : r < pp
      · have FJ := Lib.hid (HF.out.jump (by omega) (by rw [HPP.out]; exact h3))
        have h3' : (r : Int) < (pp : Int) := by omega
        gi_wp2_with fail
        have FQ := Lib.hid (FJ.out)
        have HQ := Lib.hid (show r = r ∨ r ≤ 65535 from .inl rfl)
        have HLE := Lib.hid (show p ≤ r by exact hpr)
        have hqv : r ≤ v := by omega
        have hqb : r ≤ 4294967295 := by have := HV.out; omega
        clear h3 h3' hw g1
        gi_loopw [3, 5] (fun sr se wr => InF v r r pre J sr se wr) (fun sr _ _ => (intOf sr).toNat)
        case atStart => exact ⟨r, 0, rfl, rfl, by rw [Nat.pow_zero, Nat.one_mul], HJ.out⟩
        case round =>
          obtain ⟨s, e, rfl, rfl, hrs, hj⟩ := hrel
          have hs0 : 0 < s := Nat.pos_of_ne_zero fun h => by rw [h, Nat.mul_zero] at hrs; omega
          have he := exp_small hrs hs0 FQ.out.two (Nat.lt_of_le_of_lt hrv HV.out)
          have hsv : s ≤ v := Nat.le_trans (by rw [hrs]; exact Nat.le_mul_of_pos_left _ (Nat.pow_pos (by have := FQ.out.two; omega))) hrv
          have HRS := Lib.hid hrs
          have HJ2 := Lib.hid hj
          clear hj
          clear hrs
          by_cases hd : r ∣ s
          · gi_wp2_with fail
            have hw2 := div_wrap (s := s) (q := r) (by have := HV.out; omega)
            rw [hw2]
            refine ⟨⟨s / r, e + 1, rfl, rfl, ?_, HJ2.out⟩, ?_⟩
            · rw [Nat.pow_succ, Nat.mul_assoc, Nat.mul_div_cancel' hd]; exact HRS.out
            · simp only [intOf, Int.toNat_natCast]
              exact Nat.div_lt_self hs0 FQ.out.two
          · have HN := Lib.hid (fun h1 => next_small HQ.out HRS.out hd FQ.out.two h1)
            by_cases he0 : e = 0
            · gi_wp2_with fail
              have hsr : r = s := by have := HRS.out; rw [he0, Nat.pow_zero, Nat.one_mul] at this; exact this
              have h9 : ¬ r ∣ r := fun h => hd (by rw [← hsr]; exact h)
              refine ⟨⟨s, r + 1, pre, rfl, rfl, (by rw [← hsr]; exact FQ.out.skip h9), by omega, hsv, HN.out, HJ2.out⟩, ?_⟩
              have := HLE.out
              simp only [intOf]
              omega
            · have HX := Lib.hid (FQ.out.fp (Nat.pos_of_ne_zero he0) HRS.out hd)
              have HT := Lib.hid (FQ.out.take (Nat.pos_of_ne_zero he0) HRS.out hd)
              obtain ⟨x, hx⟩ : ∃ x : FP v, x = ⟨(r, e), HX.out⟩ := ⟨_, rfl⟩
              have hx1 : x.1 = (r, e) := by rw [hx]
              obtain ⟨fn, tmps, assign, body, hy, hR⟩ := HY.out pre x wr HJ2.out (by have := FQ.out.len HV.out; rw [vals, List.length_map] at this; exact this)
              rw [hx1] at hy
              have HRR := Lib.hid hR
              have HTX := Lib.hid (show Fac v (r + 1) s (vals (pre ++ [x])) by rw [vals_snoc, hx1]; exact HT.out)
              clear hR hx hx1
              dsimp only at hy
              gi_wp2_with fail
              refine ⟨(fun h => by cases h), ?_⟩
              refine HRR.out.mono ?_
              rintro e3 W3 (⟨rfl, hJ3, hk3⟩ | ⟨rfl, hJx3⟩)
              · have HJ3 := Lib.hid hJ3
                clear hJ3 hk3
                gi_wp2_with fail
                refine ⟨⟨s, r + 1, pre ++ [x], rfl, rfl, HTX.out, by omega, hsv, HN.out, HJ3.out⟩, ?_⟩
                have := HLE.out
                simp only [intOf]
                omega
              · have HJX := Lib.hid hJx3
                clear hJx3
                gi_wp2_with fail
                rw [Exit.noGoto_normal]
                go_end0
                exact ⟨⟨_, rfl⟩, .inr ⟨pre ++ [x], ⟨_, _, HTX.out⟩, HJX.out⟩⟩
      · have h3' : ¬ (r : Int) < (pp : Int) := by omega
        have hsq := sq_small (q := p) (r := r) (by rw [HPP.out]; omega) (Nat.lt_of_le_of_lt hrv HV.out)
        gi_wp2_with fail
        have FQ := Lib.hid (HF.out)
        have HQ := Lib.hid (show p = r ∨ p ≤ 65535 from .inr hsq)
        have HLE := Lib.hid (show p ≤ p by omega)
        have hqv : p ≤ v := by omega
        have hqb : p ≤ 4294967295 := by have := HV.out; omega
        clear h3 h3' hw g1
        gi_loopw [3, 5] (fun sr se wr => InF v p r pre J sr se wr) (fun sr _ _ => (intOf sr).toNat)
        case atStart => exact ⟨r, 0, rfl, rfl, by rw [Nat.pow_zero, Nat.one_mul], HJ.out⟩
        case round =>
          obtain ⟨s, e, rfl, rfl, hrs, hj⟩ := hrel
          have hs0 : 0 < s := Nat.pos_of_ne_zero fun h => by rw [h, Nat.mul_zero] at hrs; omega
          have he := exp_small hrs hs0 FQ.out.two (Nat.lt_of_le_of_lt hrv HV.out)
          have hsv : s ≤ v := Nat.le_trans (by rw [hrs]; exact Nat.le_mul_of_pos_left _ (Nat.pow_pos (by have := FQ.out.two; omega))) hrv
          have HRS := Lib.hid hrs
          have HJ2 := Lib.hid hj
          clear hj
          clear hrs
          by_cases hd : p ∣ s
          · gi_wp2_with fail
            have hw2 := div_wrap (s := s) (q := p) (by have := HV.out; omega)
            rw [hw2]
            refine ⟨⟨s / p, e + 1, rfl, rfl, ?_, HJ2.out⟩, ?_⟩
            · rw [Nat.pow_succ, Nat.mul_assoc, Nat.mul_div_cancel' hd]; exact HRS.out
            · simp only [intOf, Int.toNat_natCast]
              exact Nat.div_lt_self hs0 FQ.out.two
          · have HN := Lib.hid (fun h1 => next_small HQ.out HRS.out hd FQ.out.two h1)
            by_cases he0 : e = 0
            · gi_wp2_with fail
              have hsr : r = s := by have := HRS.out; rw [he0, Nat.pow_zero, Nat.one_mul] at this; exact this
              have h9 : ¬ p ∣ r := fun h => hd (by rw [← hsr]; exact h)
              refine ⟨⟨s, p + 1, pre, rfl, rfl, (by rw [← hsr]; exact FQ.out.skip h9), by omega, hsv, HN.out, HJ2.out⟩, ?_⟩
              have := HLE.out
              simp only [intOf]
              omega
            · have HX := Lib.hid (FQ.out.fp (Nat.pos_of_ne_zero he0) HRS.out hd)
              have HT := Lib.hid (FQ.out.take (Nat.pos_of_ne_zero he0) HRS.out hd)
              obtain ⟨x, hx⟩ : ∃ x : FP v, x = ⟨(p, e), HX.out⟩ := ⟨_, rfl⟩
              have hx1 : x.1 = (p, e) := by rw [hx]
              obtain ⟨fn, tmps, assign, body, hy, hR⟩ := HY.out pre x wr HJ2.out (by have := FQ.out.len HV.out; rw [vals, List.length_map] at this; exact this)
              rw [hx1] at hy
              have HRR := Lib.hid hR
              have HTX := Lib.hid (show Fac v (p + 1) s (vals (pre ++ [x])) by rw [vals_snoc, hx1]; exact HT.out)
              clear hR hx hx1
              dsimp only at hy
              gi_wp2_with fail
              refine ⟨(fun h => by cases h), ?_⟩
              refine HRR.out.mono ?_
              rintro e3 W3 (⟨rfl, hJ3, hk3⟩ | ⟨rfl, hJx3⟩)
              · have HJ3 := Lib.hid hJ3
                clear hJ3 hk3
                gi_wp2_with fail
                refine ⟨⟨s, p + 1, pre ++ [x], rfl, rfl, HTX.out, by omega, hsv, HN.out, HJ3.out⟩, ?_⟩
                have := HLE.out
                simp only [intOf]
                omega
              · have HJX := Lib.hid hJx3
                clear hJx3
                gi_wp2_with fail
                rw [Exit.noGoto_normal]
                go_end0
                exact ⟨⟨_, rfl⟩, .inr ⟨pre ++ [x], ⟨_, _, HTX.out⟩, HJX.out⟩⟩
end Go.Proofs.Ytlmfiggmjpjpiaa

namespace Go.Proofs.Ytlmfiggmjpjpiaa
open Go.RowKit Go.Shelf

attribute [local go_sem] Oper.semAt_some

def encF {v : Nat} (x : FP v) : Array Value := #[.int .i64 x.1.1, .int .i64 x.1.2]
def NoKp (_ _ : World) : Prop := True

theorem factors1_stops (n Bn v : Nat) (h2 : 2 ≤ v) (hv : v < 2 ^ 32) (w : World) (hBn : rowN w Bn = some #[.int .i64 (v : Nat)]) :
    SeqStopsK Fence.wide n Try.prog 53 #[.pointer (some ⟨Bn, 0, none⟩)] (encF (v := v)) NoKp (AllF v) (SomeF v) 32 w := by
  intro l J Jx W hW _ _ hY h0
  have hrow : rowN W Bn = some #[.int .i64 (v : Nat)] := by rw [brow hW _ (rowN_lt hBn)]; exact hBn
  have hc := (rowN_cell hrow).1 0
  exact factors1_in n l Bn v h2 hv J Jx W (by simpa using hc) hY h0

set_option maxRecDepth 100000 in
theorem factors1_low (n l Bn : Nat) (z : Int) (hz : z < 2 ∨ 4294967296 ≤ z) (W : World) (hBn : W.cell? ⟨Bn, 0, none⟩ = some (.int .i64 z)) :
    CallsIn Fence.wide n Try.prog 53 #[.func (.yield l) #[] #[], .pointer (some ⟨Bn, 0, none⟩)] W fun e W' => (∃ v, e = .returned v) ∧ W' = W := by
  refine callsIn_of_wp Try.func53 rfl trivial ?_ rfl
  simp only [Try.ntmps53, List.size_toArray, List.length_cons, List.length_nil, Nat.reduceAdd, Nat.reduceSub, Array.replicate_succ, Array.replicate_zero, List.push_toArray, List.append_toArray, List.nil_append, List.cons_append]
  refine wpIn_scope_straight ?_
  by_cases h : z < 2
  · have a1 : decide (z < 2) = true := by simp [h]
    gi_wp2_with fail
    try rw [Exit.noGoto_ret]
    refine bodyPost_ret (results_none rfl _ _ _) rfl ?_
    exact ⟨⟨_, rfl⟩, rfl⟩
  · have a1 : decide (z < 2) = false := by simp [h]
    have a2 : 4294967296 ≤ z := by omega
    have a3 : decide (z ≥ 4294967296) = true := by simp [a2]
    gi_wp2_with fail
    try rw [Exit.noGoto_ret]
    refine bodyPost_ret (results_none rfl _ _ _) rfl ?_
    exact ⟨⟨_, rfl⟩, rfl⟩

theorem factors1_none (v n Bn : Nat) (z : Int) (hz : z < 2 ∨ 4294967296 ≤ z) (w : World) (hBn : rowN w Bn = some #[.int .i64 z]) :
    SeqStopsK Fence.wide n Try.prog 53 #[.pointer (some ⟨Bn, 0, none⟩)] (encF (v := v)) NoKp (fun xs => xs = []) (fun _ => False) 0 w := by
  intro l J Jx W hW _ _ hY h0
  have hrow : rowN W Bn = some #[.int .i64 z] := by rw [brow hW _ (rowN_lt hBn)]; exact hBn
  have hc := (rowN_cell hrow).1 0
  refine (factors1_low n l Bn z hz W (by simpa using hc)).mono ?_
  rintro e W' ⟨he, rfl⟩
  exact ⟨he, .inl ⟨[], rfl, h0⟩⟩

set_option maxRecDepth 100000 in
theorem factors_any (z : Int) (w : World) : Calls Try.prog 28 #[.int .i64 z] w fun e w' => e = .returned (.func (.func 53) #[] #[.pointer (some ⟨w.heap.size, 0, none⟩)]) ∧ w' = w.alloc (.cells #[.int .i64 z] 3) := by
  have hmf : ∀ (fn : Fn) (first cap : Array Value) (w : World), (Instr.makeFunc fn first cap).run Try.prog w = .ok (.func fn first cap) w := fun _ _ _ _ => rfl
  go_enter Try.func28, Try.ntmps28
  go_wp2
  go_ret
  exact ⟨rfl, rfl⟩

theorem results_two {fn : Func} {p q : Tmp} (tmps : Array Value) {w : World} (g k : Nat) {b : Bool} {i : Int} (h : fn.results = #[.cell p 4, .cell q 30])
    (hp : tmps.getD p undef = .pointer (some ⟨g, 0, none⟩)) (hq : tmps.getD q undef = .pointer (some ⟨k, 0, none⟩)) (hr : rowN w g = some #[.bool b]) (hs : rowN w k = some #[.int .i64 i]) :
    (results fn tmps).run Try.prog w = .ok (.tuple #[.bool b, .int .i64 i]) w := by
  have hp' : tmps[p]?.getD undef = .pointer (some ⟨g, 0, none⟩) := by simpa using hp
  have hq' : tmps[q]?.getD undef = .pointer (some ⟨k, 0, none⟩) := by simpa using hq
  have hc := (rowN_cell hr).1 0
  have hd := (rowN_cell hs).1 0
  simp [results, h, hp', hq', asAddr, hc, hd, go_sem]
end Go.Proofs.Ytlmfiggmjpjpiaa

namespace Go.Proofs.Ytlmfiggmjpjpiaa
open Go.RowKit Go.Shelf

attribute [local go_sem] Oper.semAt_some

def primeB (v : Nat) : Bool := decide (2 ≤ v) && (List.range v).all (fun d => decide (d < 2) || !(decide (d ∣ v)))
theorem primeB_iff (v : Nat) : primeB v = true ↔ IsP v := by
  simp only [primeB, IsP, Bool.and_eq_true, decide_eq_true_eq, List.all_eq_true, List.mem_range, Bool.or_eq_true, Bool.not_eq_true', decide_eq_false_iff_not]
  constructor
  · rintro ⟨h1, h2⟩
    exact ⟨h1, fun d h3 h4 => (h2 d h4).resolve_left (by omega)⟩
  · rintro ⟨h1, h2⟩
    refine ⟨h1, fun d h4 => ?_⟩
    by_cases h : d < 2
    · exact .inl h
    · exact .inr (h2 d (by omega) h4)

theorem fp_prime {v : Nat} (h2 : 2 ≤ v) (x : FP v) : decide (x.1.1 = v) = primeB v := by
  obtain ⟨hp, h0, hd, _⟩ := x.2
  have hdv : x.1.1 ∣ v := Nat.dvd_trans (by have := Nat.pow_dvd_pow x.1.1 h0; rw [Nat.pow_one] at this; exact this) hd
  by_cases e : x.1.1 = v
  · have : primeB v = true := (primeB_iff v).2 (by rw [← e]; exact hp)
    rw [this]; simp [e]
  · have : ¬ primeB v = true := fun h => ((primeB_iff v).1 h).2 x.1.1 hp.1 (by have := Nat.le_of_dvd (by omega) hdv; omega) hdv
    simp only [Bool.not_eq_true] at this
    rw [this]; simp [e]

/-- What holds before the only round, and behind it. -/
def PrI (v z : Nat) (w : World) (pre : List (FP v)) (W : World) : Prop :=
  (pre = [] ∧ rowN W w.heap.size = some #[.int .i64 (z : Nat)] ∧ rowN W (w.heap.size + 1) = some #[.bool false] ∧ rowN W (w.heap.size + 1 + 1) = some #[.int .i64 0]) ∧ Below w.heap.size w W
def PrX (v : Nat) (w : World) (c : Code) (pre : List (FP v)) (W : World) : Prop :=
  (c = .ret ∧ ∃ x, pre = [x] ∧ rowN W (w.heap.size + 1) = some #[.bool (primeB v)] ∧ rowN W (w.heap.size + 1 + 1) = some #[.int .i64 0]) ∧ Below w.heap.size w W

theorem prI_own (v z : Nat) (w : World) {B : Nat} (h : w.heap.size ≤ B) : OwnFrom B (PrI v z w) :=
  OwnFrom.and (Own.from (fun _ _ _ _ hs hg hr => ⟨hs.1, row_kept hs.2.1 hg hr, row_kept hs.2.2.1 hg hr, row_kept hs.2.2.2 hg hr⟩) _) (ownFrom_below (Nat.le_refl _) h)
theorem prX_own (v : Nat) (w : World) {B : Nat} (h : w.heap.size ≤ B) (c : Code) : OwnFrom B (PrX v w c) :=
  OwnFrom.and (Own.from (fun _ _ _ _ hs hg hr => ⟨hs.1, by obtain ⟨x, e1, e2, e3⟩ := hs.2; exact ⟨x, e1, row_kept e2 hg hr, row_kept e3 hg hr⟩⟩) _) (ownFrom_below (Nat.le_refl _) h)

theorem pr_end {w W : World} {D : Nat} {b : Bool} (hD : w.heap.size ≤ D) (h1 : rowN W (w.heap.size + 1) = some #[.bool b]) (h2 : rowN W (w.heap.size + 1 + 1) = some #[.int .i64 0]) (hB : Below w.heap.size w W) (hK : W.heap[D]? = some (.deferred (some []))) :
    rowN (W.putObj D (.deferred none)) (w.heap.size + 1) = some #[.bool b] ∧ rowN (W.putObj D (.deferred none)) (w.heap.size + 1 + 1) = some #[.int .i64 0] ∧ Below w.heap.size w (W.putObj D (.deferred none)) :=
  ⟨row_kept h1 (grownBy_putObj' W D (.deferred none)) (fun k e => by cases e; exact ⟨_, hK, rfl⟩), row_kept h2 (grownBy_putObj' W D (.deferred none)) (fun k e => by cases e; exact ⟨_, hK, rfl⟩),
    hB.grown (grownBy_putObj' _ D (.deferred none)) hB.size (fun k e => by cases e; omega)⟩

theorem beq_nat (a b : Nat) : ((a : Int) == (b : Int)) = decide (a = b) := by
  by_cases h : a = b
  · simp [h]
  · have : ¬ (a : Int) = (b : Int) := by omega
    simp [h, this]
theorem pr_world (w : World) (z : Int) : ∃ W, (((w.alloc (.cells #[.int .i64 z] 3)).alloc (.cells #[.bool false] 4)).alloc (.cells #[.int .i64 0] 30)).alloc (.cells #[.int .i64 z] 3) = W ∧ Below w.heap.size w W ∧ rowN W w.heap.size = some #[.int .i64 z] ∧
    rowN W (w.heap.size + 1) = some #[.bool false] ∧ rowN W (w.heap.size + 1 + 1) = some #[.int .i64 0] ∧ rowN W (w.heap.size + 1 + 1 + 1) = some #[.int .i64 z] ∧ W.heap.size = w.heap.size + 1 + 1 + 1 + 1 := by
  refine ⟨_, rfl, ((((Below.refl _ w).alloc (Nat.le_refl _) _).alloc (by simp) _).alloc (by simp <;> omega) _).alloc (by simp <;> omega) _, ?_, ?_, ?_, ?_, ?_⟩
  · simp only [rowN_alloc, World.size_alloc, if_true]; (repeat rw [if_neg (by omega)])
  · simp only [rowN_alloc, World.size_alloc, if_true]; (repeat rw [if_neg (by omega)])
  · simp only [rowN_alloc, World.size_alloc, if_true]; (repeat rw [if_neg (by omega)])
  · simp only [rowN_alloc, World.size_alloc, if_true]
  · simp
theorem pr_step {v : Nat} {w W : World} {x : FP v} {b : Bool} (hr1 : rowN W (w.heap.size + 1) = some #[.bool false]) (hr2 : rowN W (w.heap.size + 1 + 1) = some #[.int .i64 0]) (hB : Below w.heap.size w W) (hb : b = primeB v) :
    KeepsOthers W ((W.setCell ⟨w.heap.size + 1, 0, none⟩ (.bool b)).setCell ⟨w.heap.size + 1 + 1, 0, none⟩ (.int .i64 0)) ∧ PrX v w .ret ([] ++ [x]) ((W.setCell ⟨w.heap.size + 1, 0, none⟩ (.bool b)).setCell ⟨w.heap.size + 1 + 1, 0, none⟩ (.int .i64 0)) := by
  refine ⟨(KeepsOthers.setCell _ _ _).trans (KeepsOthers.setCell _ _ _), ⟨rfl, x, rfl, ?_, ?_⟩, (hB.setCell (p := ⟨w.heap.size + 1, 0, none⟩) (by show w.heap.size ≤ w.heap.size + 1; omega) _).setCell (p := ⟨w.heap.size + 1 + 1, 0, none⟩) (by show w.heap.size ≤ w.heap.size + 1 + 1; omega) _⟩
  · rw [← hb]; exact row_cell0 (row_set0 hr1) (by omega)
  · exact row_set0 (row_cell0 hr2 (by omega))

set_option maxRecDepth 100000 in
set_option maxHeartbeats 1000000 in
theorem prime_two (v : Nat) (h2 : 2 ≤ v) (hv : v < 2 ^ 32) (w : World) : Calls Try.prog 27 #[.int .i64 (v : Nat)] w fun e w' => e = .returned (.tuple #[.bool (primeB v), .int .i64 0]) ∧ Below w.heap.size w w' := by
  have H2 := Lib.hid h2
  have HV := Lib.hid hv
  have g1 : decide (((v : Nat) : Int) < 0) = false := by simp
  have g2 : ¬ (4294967296 ≤ ((v : Nat) : Int)) := by omega
  clear h2 hv
  refine (callsIn_wide (n := 5)).1 ?_
  refine callsIn_of_wp_marks Try.func27 rfl trivial ?_ rfl
  simp only [Try.ntmps27, List.size_toArray, List.length_cons, List.length_nil, Nat.reduceAdd, Nat.reduceSub, Array.replicate_succ, Array.replicate_zero, List.push_toArray, List.append_toArray, List.nil_append, List.cons_append]
  refine wpIn_wide.2 ?_
  go_wp2_with fail
  refine (factors_any _ _).mono ?_
  rintro e w1 ⟨rfl, rfl⟩
  go_wp2_with fail
  obtain ⟨W0, hW, hB0, r0, r1, r2, r3, hs⟩ := pr_world w (v : Nat)
  rw [hW]
  clear hW
  have HI0 := Lib.hid (show PrI v v w [] W0 from ⟨⟨rfl, r0, r1, r2⟩, hB0⟩)
  clear r0 r1 r2 hB0
  refine (wpIn_wide (n := 5)).1 ?_
  refine wpIn_rangeFunc_ownF rfl (by omega) (gf := 53) (lb := #[.pointer (some ⟨w.heap.size + 1 + 1 + 1, 0, none⟩)]) rfl trivial (enters_of Try.func53 (by kernel_rfl) rfl)
    (factors1_stops (5 - 1) (w.heap.size + 1 + 1 + 1) v H2.out HV.out _ r3) (fun {A B C} _ _ => trivial) (fun _ _ _ _ _ _ _ _ => trivial) (Below.refl _ _) (fun _ => rfl)
    (PrI v v w) (PrX v w) (prI_own v v w (by omega)) (prX_own v w (by omega)) HI0.out ?a1 ?assign ?body ?done ?stop
  case assign =>
    intro l x W K hK
    gi_wp2
    exact hK
  case body =>
    rintro l pre x W ⟨⟨rfl, hr0, hr1, hr2⟩, hB⟩ _
    have c0 := (rowN_cell hr0).1 0
    have c1 := (rowN_cell hr1).1 0
    have f1 := (rowN_cell hr1).2 0
    have c2 := (rowN_cell hr2).1 0
    have f2 := (rowN_cell hr2).2 0
    have hx := fp_prime H2.out x
    obtain ⟨xp, hxp⟩ : ∃ xp, x.1.1 = xp := ⟨_, rfl⟩
    rw [hxp] at hx
    have HX := Lib.hid hx
    have HB := Lib.hid hB
    have HR1 := Lib.hid hr1
    have HR2 := Lib.hid hr2
    simp only [encF, hxp]
    clear hx hB hr0 hr1 hr2 hxp
    gi_wp2_with fail
    exact pr_step HR1.out HR2.out HB.out (by rw [← HX.out, beq_nat])
  case done =>
    rintro D xs W hD ⟨p, hp⟩ ⟨⟨rfl, hr0, hr1, hr2⟩, hB⟩ hK
    have h1 := hp.prod
    have h3 := H2.out
    simp [vals, prodF] at h1
    omega
  case stop =>
    rintro D c pre W hD hSp ⟨⟨rfl, x, rfl, hr1, hr2⟩, hB⟩ hK
    obtain ⟨k1, k2, k3⟩ := pr_end (by omega) hr1 hr2 hB hK
    have HK := Lib.hid hK
    clear hK hr1 hr2 hB
    gi_wp2_with fail
    refine ⟨by simp, .inl ⟨_, _, rfl, run_takeDeferred HK.out, ?_⟩⟩
    exact ⟨_, results_two _ _ _ rfl rfl rfl k1 k2, rfl, k3⟩

set_option maxRecDepth 100000 in
set_option maxHeartbeats 1000000 in
theorem prime_low (v : Nat) (h2 : v < 2) (w : World) : Calls Try.prog 27 #[.int .i64 (v : Nat)] w fun e w' => e = .returned (.tuple #[.bool false, .int .i64 0]) ∧ Below w.heap.size w w' := by
  have g1 : decide (((v : Nat) : Int) < 0) = false := by simp
  have g2 : ¬ (4294967296 ≤ ((v : Nat) : Int)) := by omega
  refine (callsIn_wide (n := 5)).1 ?_
  refine callsIn_of_wp_marks Try.func27 rfl trivial ?_ rfl
  simp only [Try.ntmps27, List.size_toArray, List.length_cons, List.length_nil, Nat.reduceAdd, Nat.reduceSub, Array.replicate_succ, Array.replicate_zero, List.push_toArray, List.append_toArray, List.nil_append, List.cons_append]
  refine wpIn_wide.2 ?_
  go_wp2_with fail
  refine (factors_any _ _).mono ?_
  rintro e w1 ⟨rfl, rfl⟩
  go_wp2_with fail
  obtain ⟨W0, hW, hB0, r0, r1, r2, r3, hs⟩ := pr_world w (v : Nat)
  rw [hW]
  clear hW
  have HI0 := Lib.hid (show PrI v v w [] W0 from ⟨⟨rfl, r0, r1, r2⟩, hB0⟩)
  clear r0 r1 r2 hB0
  refine (wpIn_wide (n := 5)).1 ?_
  refine wpIn_rangeFunc_ownF rfl (by omega) (gf := 53) (lb := #[.pointer (some ⟨w.heap.size + 1 + 1 + 1, 0, none⟩)]) rfl trivial (enters_of Try.func53 (by kernel_rfl) rfl)
    (factors1_none v (5 - 1) (w.heap.size + 1 + 1 + 1) v (.inl (by omega)) _ r3) (fun {A B C} _ _ => trivial) (fun _ _ _ _ _ _ _ _ => trivial) (Below.refl _ _) (fun _ => rfl)
    (PrI v v w) (PrX v w) (prI_own v v w (by omega)) (prX_own v w (by omega)) HI0.out ?a1 ?assign ?body ?done ?stop
  case assign =>
    intro l x W K hK
    gi_wp2
    exact hK
  case body =>
    rintro l pre x W _ hl
    omega
  case done =>
    rintro D xs W hD _ ⟨⟨rfl, hr0, hr1, hr2⟩, hB⟩ hK
    have c1 := (rowN_cell hr1).1 0
    have f1 := (rowN_cell hr1).2 0
    have c2 := (rowN_cell hr2).1 0
    have f2 := (rowN_cell hr2).2 0
    have q1 : rowN ((W.setCell ⟨w.heap.size + 1, 0, none⟩ (.bool false)).setCell ⟨w.heap.size + 1 + 1, 0, none⟩ (.int .i64 0)) (w.heap.size + 1) = some #[.bool false] := row_cell0 (row_set0 hr1) (by omega)
    have q2 : rowN ((W.setCell ⟨w.heap.size + 1, 0, none⟩ (.bool false)).setCell ⟨w.heap.size + 1 + 1, 0, none⟩ (.int .i64 0)) (w.heap.size + 1 + 1) = some #[.int .i64 0] := row_set0 (row_cell0 hr2 (by omega))
    have n1 : D ≠ w.heap.size + 1 := by
      rintro rfl
      obtain ⟨t, ht⟩ := rowN_some hr1
      rw [hK] at ht; cases ht
    have n2 : D ≠ w.heap.size + 1 + 1 := by
      rintro rfl
      obtain ⟨t, ht⟩ := rowN_some hr2
      rw [hK] at ht; cases ht
    have q3 : ((W.setCell ⟨w.heap.size + 1, 0, none⟩ (.bool false)).setCell ⟨w.heap.size + 1 + 1, 0, none⟩ (.int .i64 0)).heap[D]? = some (.deferred (some [])) :=
      ((Below.heap_setCell _ _ _ _ n2).trans (Below.heap_setCell W _ _ _ n1)).trans hK
    have q4 : Below w.heap.size w ((W.setCell ⟨w.heap.size + 1, 0, none⟩ (.bool false)).setCell ⟨w.heap.size + 1 + 1, 0, none⟩ (.int .i64 0)) :=
      (hB.setCell (p := ⟨w.heap.size + 1, 0, none⟩) (by show w.heap.size ≤ w.heap.size + 1; omega) _).setCell (p := ⟨w.heap.size + 1 + 1, 0, none⟩) (by show w.heap.size ≤ w.heap.size + 1 + 1; omega) _
    obtain ⟨k1, k2, k3⟩ := pr_end (D := D) (by omega) q1 q2 q4 q3
    have HK := Lib.hid q3
    clear hK hr1 hr2 hB q1 q2 q3 q4 n1 n2
    go_wp2_with fail
    refine ⟨by simp, .inl ⟨_, _, rfl, run_takeDeferred HK.out, ?_⟩⟩
    exact ⟨_, results_two _ _ _ rfl rfl rfl k1 k2, rfl, k3⟩
  case stop =>
    rintro D c pre W hD hSp _ _
    exact hSp.elim

theorem primeB_low {v : Nat} (h : v < 2) : primeB v = false := by
  unfold primeB
  have : ¬ 2 ≤ v := by omega
  simp [this]
theorem prime_any (v : Nat) (hv : v < 2 ^ 32) (w : World) : Calls Try.prog 27 #[.int .i64 (v : Nat)] w fun e w' => e = .returned (.tuple #[.bool (primeB v), .int .i64 0]) ∧ Below w.heap.size w w' := by
  by_cases h : v < 2
  · rw [primeB_low h]; exact prime_low v h w
  · exact prime_two v (by omega) hv w
set_option maxRecDepth 100000 in
theorem prime_neg (z : Int) (hz : z < 0) (w : World) : Calls Try.prog 27 #[.int .i64 z] w fun e w' => e = .returned (.tuple #[.bool false, .int .i64 2]) ∧ Below w.heap.size w w' := by
  have g1 : decide (z < 0) = true := by simp [hz]
  go_enter Try.func27, Try.ntmps27
  go_wp2_with fail
  refine bodyPost_ret (results_two _ (w.heap.size + 1) (w.heap.size + 1 + 1) rfl rfl rfl ?_ ?_) rfl ⟨rfl, ?_⟩
  · simp only [rowN_alloc, World.size_alloc, if_true] <;> (repeat rw [if_neg (by omega)])
  · simp only [rowN_alloc, World.size_alloc, if_true]
  · exact (((Below.refl _ w).alloc (Nat.le_refl _) _).alloc (by simp) _).alloc (by simp <;> omega) _
set_option maxRecDepth 100000 in
theorem prime_big (z : Int) (hz : 4294967296 ≤ z) (w : World) : Calls Try.prog 27 #[.int .i64 z] w fun e w' => e = .returned (.tuple #[.bool false, .int .i64 3]) ∧ Below w.heap.size w w' := by
  have g1 : ¬ z < 0 := by omega
  go_enter Try.func27, Try.ntmps27
  go_wp2_with fail
  refine bodyPost_ret (results_two _ (w.heap.size + 1) (w.heap.size + 1 + 1) rfl rfl rfl ?_ ?_) rfl ⟨rfl, ?_⟩
  · simp only [rowN_alloc, World.size_alloc, if_true] <;> (repeat rw [if_neg (by omega)])
  · simp only [rowN_alloc, World.size_alloc, if_true]
  · exact (((Below.refl _ w).alloc (Nat.le_refl _) _).alloc (by simp) _).alloc (by simp <;> omega) _
end Go.Proofs.Ytlmfiggmjpjpiaa
