/- The iterator over the bits of a number that are 1. -/
import Derived.RangeFuncNested
import Derived.RangeFuncBound
import Derived.RangeFuncCalls
import Derived.RangeFuncLeaves
import Derived.Shelf.Abstract
import Derived.Shelf.RegionOpen
import Derived.WalkKit
import Derived.OwnWalkIn
import Derived.TacticsInMore
import Derived.LoopNIn
import Derived.LoopIn
import Derived.Test.YtlmfiggmjpjpiaaE1
import Derived.Test.YtlmfiggmjpjpiaaZC
namespace Go.Proofs.Ytlmfiggmjpjpiaa
open Go.RowKit Go.Shelf

attribute [local go_sem] Oper.semAt_some

/-- The places of bits of v. -/
abbrev Bit (v : Nat) : Type := { x : Nat // x < dlen 2 v }

/-- What lay in block b lies there. -/
def KeepB (b : Nat) (A B : World) : Prop := B.heap[b]? = A.heap[b]?

/-- The bits from c on that are 1, in decreasing order. -/
structure Cov (v c : Nat) (pre : List (Bit v)) : Prop where
  mem : ∀ x ∈ pre, v.testBit x.1 = true ∧ c ≤ x.1
  all : ∀ y : Bit v, v.testBit y.1 = true → c ≤ y.1 → y ∈ pre
  desc : pre.Pairwise (fun a b => b.1 < a.1)

theorem Cov.lower {v c c' : Nat} {pre : List (Bit v)} (h : Cov v c pre) (hc : c' ≤ c) (hn : ∀ y, c' ≤ y → y < c → v.testBit y = false) : Cov v c' pre :=
  ⟨fun x hx => ⟨(h.mem x hx).1, by have := (h.mem x hx).2; omega⟩, fun y hy hcy => by
    by_cases e : c ≤ y.1
    · exact h.all y hy e
    · exact absurd hy (by rw [hn y.1 hcy (by omega)]; simp), h.desc⟩

theorem Cov.step {v c : Nat} {pre : List (Bit v)} (h : Cov v c pre) (x : Bit v) (hx : v.testBit x.1 = true) (hc : x.1 < c) (hn : ∀ y, x.1 < y → y < c → v.testBit y = false) : Cov v x.1 (pre ++ [x]) := by
  refine ⟨fun y hy => ?_, fun y hy hcy => ?_, ?_⟩
  · rcases List.mem_append.1 hy with hy | hy
    · exact ⟨(h.mem y hy).1, by have := (h.mem y hy).2; omega⟩
    · simp at hy; subst hy; exact ⟨hx, Nat.le_refl _⟩
  · by_cases e : c ≤ y.1
    · exact List.mem_append.2 (.inl (h.all y hy e))
    · by_cases e2 : y.1 = x.1
      · exact List.mem_append.2 (.inr (by simp; exact Subtype.ext e2))
      · exact absurd hy (by rw [hn y.1 (by omega) (by omega)]; simp)
  · rw [List.pairwise_append]
    exact ⟨h.desc, List.pairwise_singleton _ _, fun a ha b hb => by simp at hb; subst hb; have := (h.mem a ha).2; omega⟩

theorem Cov.nil (v : Nat) {c : Nat} (hc : dlen 2 v ≤ c) : Cov v c ([] : List (Bit v)) :=
  ⟨fun x hx => absurd hx (by simp), fun y _ hcy => absurd y.2 (by omega), List.Pairwise.nil⟩

/-- All bits that are 1, in decreasing order; the first ones of them. -/
def AllBits (v : Nat) (xs : List (Bit v)) : Prop := Cov v 0 xs
def SomeBits (v : Nat) (pre : List (Bit v)) : Prop := ∃ (pre' : List (Bit v)) (x : Bit v), pre = pre' ++ [x] ∧ Cov v x.1 pre

theorem andNot_top (a t : Nat) (ht : t < 64) (h1 : a < 2 ^ (t + 1)) :
    bits .andNot .u64 (a : Int) (IntKind.u64.wrap ((2 : Int) ^ t)) = ((a % 2 ^ t : Nat) : Int) := by
  have h3 : 2 ^ (t + 1) ≤ 2 ^ 64 := Nat.pow_le_pow_right (by omega) (by omega)
  have h4 : 2 ^ t < 2 ^ 64 := Nat.pow_lt_pow_right (by omega) ht
  have hw : IntKind.u64.wrap ((2 : Int) ^ t) = ((2 ^ t : Nat) : Int) := by
    rw [show ((2 : Int) ^ t) = ((2 ^ t : Nat) : Int) by simp, IntKind.wrap_u64]
    generalize 2 ^ t = p at *
    omega
  have e1 : (BitVec.ofInt 64 (a : Int)).toNat = a := by
    rw [BitVec.ofInt_natCast, BitVec.toNat_ofNat]; exact Nat.mod_eq_of_lt (by omega)
  have e2 : (BitVec.ofInt 64 ((2 ^ t : Nat) : Int)).toNat = 2 ^ t := by
    rw [BitVec.ofInt_natCast, BitVec.toNat_ofNat]; exact Nat.mod_eq_of_lt h4
  have hb : ((BitVec.ofInt 64 (a : Int)) &&& ~~~(BitVec.ofInt 64 ((2 ^ t : Nat) : Int))).toNat = a % 2 ^ t := by
    refine Nat.eq_of_testBit_eq fun j => ?_
    rw [← BitVec.getLsbD, BitVec.getLsbD_and, BitVec.getLsbD_not, BitVec.getLsbD, BitVec.getLsbD, e1, e2, Nat.testBit_mod_two_pow, Nat.testBit_two_pow]
    by_cases hj : j < t
    · have : ¬ t = j := by omega
      simp [hj, this]; intro; omega
    · by_cases e : t = j
      · subst e; simp
      · have : a.testBit j = false := Nat.testBit_lt_two_pow (Nat.lt_of_lt_of_le h1 (Nat.pow_le_pow_right (by omega) (by omega)))
        simp [this]
  rw [hw]
  show IntKind.u64.wrap ((((BitVec.ofInt 64 (a : Int)) &&& ~~~(BitVec.ofInt 64 ((2 ^ t : Nat) : Int))).toNat : Nat) : Int) = _
  rw [hb, IntKind.wrap_u64]
  have : a % 2 ^ t ≤ a := Nat.mod_le _ _
  generalize a % 2 ^ t = q at *
  omega

/-- The first bit of what is left of a digit. -/
theorem top_bit {v i t ρ b : Nat} (ht : t ≤ 64) (hρ : dgt P64 v i % 2 ^ t = ρ) (hb : Lib.bitLen ρ = b) (h0 : ρ ≠ 0) :
    1 ≤ b ∧ b ≤ t ∧ ρ < 2 ^ b ∧ v.testBit (64 * i + (b - 1)) = true ∧ (∀ y, 64 * i + (b - 1) < y → y < 64 * i + t → v.testBit y = false) ∧ ρ % 2 ^ (b - 1) = dgt P64 v i % 2 ^ (b - 1) ∧ 2 ^ (b - 1) ≤ ρ := by
  have hlt : ρ < 2 ^ t := by rw [← hρ]; exact Nat.mod_lt _ (Nat.pow_pos (by omega))
  have h64 : ρ < 2 ^ 64 := Nat.lt_of_lt_of_le hlt (Nat.pow_le_pow_right (by omega) ht)
  obtain ⟨b1, b2, b3⟩ := Lib.bitLenAux_bounds 64 ρ h64 h0
  have hb' : Lib.bitLenAux 64 ρ = b := hb
  rw [hb'] at b1 b2 b3
  have hbt : b ≤ t := by
    have : 2 ^ (b - 1) < 2 ^ t := Nat.lt_of_le_of_lt b2 hlt
    have := (Nat.pow_lt_pow_iff_right (show 1 < 2 by omega)).1 this
    omega
  have hbit : ∀ j, j < t → v.testBit (64 * i + j) = ρ.testBit j := fun j hj => by
    rw [← dgt_testBit v i j (by omega), ← P64_pow, ← hρ, Nat.testBit_mod_two_pow]
    simp [hj]
  refine ⟨b1, hbt, b3, ?_, fun y h1 h2 => ?_, ?_, b2⟩
  · rw [hbit (b - 1) (by omega)]
    exact testBit_top (by rw [Nat.sub_add_cancel b1]; exact b3) b2
  · obtain ⟨j, rfl⟩ : ∃ j, y = 64 * i + j := ⟨y - 64 * i, by omega⟩
    rw [hbit j (by omega)]
    exact Nat.testBit_lt_two_pow (Nat.lt_of_lt_of_le b3 (Nat.pow_le_pow_right (by omega) (by omega)))
  · rw [← hρ, Nat.mod_mod_of_dvd _ (Nat.pow_dvd_pow 2 (by omega))]

theorem no_bits {v i t : Nat} (ht : t ≤ 64) (hρ : dgt P64 v i % 2 ^ t = 0) : ∀ y, 64 * i ≤ y → y < 64 * i + t → v.testBit y = false := by
  intro y h1 h2
  obtain ⟨j, rfl⟩ : ∃ j, y = 64 * i + j := ⟨y - 64 * i, by omega⟩
  have h3 := Nat.testBit_mod_two_pow (dgt P64 v i) t j
  rw [hρ, Nat.zero_testBit] at h3
  rw [← dgt_testBit v i j (by omega), ← P64_pow]
  have hj : decide (j < t) = true := by simp; omega
  rw [hj, Bool.true_and] at h3
  exact h3.symm

/-- What the outer loop holds when the digits below m are still to come. -/
def OnRel (v Bn : Nat) (J : List (Bit v) → World → Prop) (s : Value) (wr : World) : Prop :=
  ∃ (m : Nat) (pre : List (Bit v)), m ≤ natLen v ∧ s = .int .i64 ((m : Int) - 1) ∧ Cov v (64 * m) pre ∧ pre.length + min (64 * m) (dlen 2 v) ≤ dlen 2 v ∧ J pre wr ∧ rowN wr Bn = some (natA v)
/-- What the inner loop holds when t bits of digit i are still to come. -/
def InRel (v Bn i : Nat) (J : List (Bit v) → World → Prop) (s : Value) (wr : World) : Prop :=
  ∃ (t : Nat) (pre : List (Bit v)), t ≤ 64 ∧ s = .int .u64 (dgt P64 v i % 2 ^ t : Nat) ∧ Cov v (64 * i + t) pre ∧ pre.length + min (64 * i + t) (dlen 2 v) ≤ dlen 2 v ∧ J pre wr ∧ rowN wr Bn = some (natA v)

set_option maxRecDepth 100000 in
set_option maxHeartbeats 1000000 in
theorem ones1_in (n : Nat) (l Bn v : Nat) (hv : v < P64 ^ 16) (J Jx : List (Bit v) → World → Prop) (W : World) (hBn : rowN W Bn = some (natA v)) (hJ : AbidesFrom W.heap.size J)
    (hY : ∀ pre x W, J pre W → pre.length < dlen 2 v → YieldAt Fence.wide (n - 1) Try.prog l #[.int .i64 (x : Bit v).1] W fun e W' =>
      (e = .returned (.bool true) ∧ J (pre ++ [x]) W' ∧ KeepB Bn W W') ∨ (e = .returned (.bool false) ∧ Jx (pre ++ [x]) W'))
    (h0 : J [] W) :
    CallsIn Fence.wide n Try.prog 93 #[.func (.yield l) #[] #[], .pointer (some ⟨Bn, 0, none⟩)] W fun e W' => (∃ v, e = .returned v) ∧
      ((∃ ys, AllBits v ys ∧ J ys W') ∨ (∃ pre, SomeBits v pre ∧ Jx pre W')) := by
  have HY := Lib.hid hY
  have HJ := Lib.hid hJ
  have HV := Lib.hid hv
  have H0 := Lib.hid h0
  clear hY hJ hv h0
  refine callsIn_of_wp Try.func93 rfl trivial ?_ rfl
  simp only [Try.ntmps93, List.size_toArray, List.length_cons, List.length_nil, Nat.reduceAdd, Nat.reduceSub, Array.replicate_succ, Array.replicate_zero, List.push_toArray, List.append_toArray, List.nil_append, List.cons_append]
  gi_wp2_with fail
  refine ⟨trivial, (fun h => by cases h), ?_⟩
  refine (callsIn_wide.2 (length_any v HV.out _)).mono ?_
  rintro e w1 ⟨rfl, hb1⟩
  have hrow1 : rowN w1 Bn = some (natA v) := by rw [brow hb1 _ (rowN_lt hBn)]; exact hBn
  have H1 := Lib.hid (HJ.out [] W w1 none H0.out (below_none hb1) (fun r e => by cases e))
  have hlen : natLen v ≤ 16 := dlen_le (by rw [P64_eq]; decide) HV.out
  have HROW := Lib.hid hrow1
  clear hrow1 hb1 hBn
  gi_wp2_with fail
  gi_loopw [3] (fun s wr => OnRel v Bn J s wr) (fun s _ => (intOf s + 1).toNat)
  case atStart =>
    refine ⟨natLen v, [], Nat.le_refl _, rfl, Cov.nil v ?_, by simp; omega, H1.out, HROW.out⟩
    have := lt_dlen (show 2 ≤ P64 by rw [P64_eq]; decide) v
    rw [P64_pow, ← Nat.pow_mul] at this
    have h2 : dlen P64 v = natLen v := rfl
    rw [← P64_pow] at this
    rw [h2] at this
    exact dlen_le (by omega) this
  case round =>
    obtain ⟨m, pre, hm, rfl, hcov, hlenp, hj, hrow⟩ := hrel
    have HC := Lib.hid hcov
    have HL := Lib.hid hlenp
    have HJ1 := Lib.hid hj
    clear hcov hlenp hj
    cases m with
    | zero =>
      gi_wp2_with fail
      go_end0
      exact ⟨⟨_, rfl⟩, .inl ⟨pre, HC.out, HJ1.out⟩⟩
    | succ i =>
      have e1 : ((i + 1 : Nat) : Int) - 1 = (i : Int) := by omega
      rw [e1]
      clear e1
      have hi16 : i < 16 := by omega
      have hcell := ((rowN_cell hrow).1 i).trans (natA_get v i hi16)
      have HR := Lib.hid hrow
      clear hrow
      gi_wp2_with fail
      obtain ⟨wo, rfl⟩ : ∃ wo : World, wo = wr := ⟨_, rfl⟩
      gi_loopw [4] (fun s wr => InRel v Bn i J s wr) (fun s _ => (intOf s).toNat)
      case atStart =>
        refine ⟨64, pre, Nat.le_refl _, ?_, by have := HC.out; rw [Nat.mul_add] at this; exact this, by have := HL.out; rw [Nat.mul_add] at this; exact this, HJ1.out, HR.out⟩
        rw [← P64_pow, Nat.mod_eq_of_lt (dgt_lt P64_pos)]
      case round =>
        obtain ⟨t, pre, ht, rfl, hcov, hlenp, hj, hrow⟩ := hrel
        have HC2 := Lib.hid hcov
        have HL2 := Lib.hid hlenp
        have HJ2 := Lib.hid hj
        have HR2 := Lib.hid hrow
        clear hcov hlenp hj hcell hrow
        generalize hρ : dgt P64 v i % 2 ^ t = ρ at *
        have HP := Lib.hid hρ
        have hρlt : ρ < 2 ^ 64 := by rw [← hρ]; exact Nat.lt_of_lt_of_le (Nat.mod_lt _ (Nat.pow_pos (by omega))) (Nat.pow_le_pow_right (by omega) ht)
        clear hρ
        by_cases h0 : ρ = 0
        · have hne : (((ρ : Nat) : Int) != 0) = false := by simp [h0]
          have H0' := Lib.hid h0
          clear h0
          gi_wp2_with fail
          have hno := no_bits ht (by rw [HP.out]; exact H0'.out)
          refine ⟨⟨i, pre, by omega, rfl, HC2.out.lower (by omega) hno, by have := HL2.out; omega, HJ2.out, HR2.out⟩, by simp [intOf]⟩
        · have hne : (((ρ : Nat) : Int) != 0) = true := by simp [h0]
          obtain ⟨b, hb⟩ : ∃ b, Lib.bitLen ρ = b := ⟨_, rfl⟩
          obtain ⟨b1, b2, b3, b4, b5, b6, b7⟩ := top_bit ht HP.out hb h0
          have hxL := two_pow_dlen b4
          have HB := Lib.hid hb
          have H0' := Lib.hid h0
          have HB4 := Lib.hid b4
          have HB5 := Lib.hid b5
          have HB6 := Lib.hid b6
          have HB3 := Lib.hid b3
          have HB7 := Lib.hid b7
          clear hb h0 b4 b5 b6 b3 b7
          obtain ⟨fn, tmps, assign, body, hy, hR⟩ := HY.out pre ⟨64 * i + (b - 1), hxL⟩ wr HJ2.out (by have := HL2.out; omega)
          have hxe : (((64 * i + (b - 1) : Nat)) : Int) = (i : Int) * 64 + ((b : Int) - 1) := by omega
          dsimp only at hy
          rw [hxe] at hy
          clear hxe
          have hρ0 : (0 : Int) ≤ (ρ : Int) := by omega
          have hρ1 : (ρ : Int) ≤ 18446744073709551615 := by omega
          have HRR := Lib.hid hR
          clear hR
          gi_wp2_with fail
          refine ⟨trivial, (fun h => by cases h), ?_⟩
          refine (callsIn_wide.2 (Try.bits_Len64 _ _ hρ0 hρ1)).mono ?_
          rintro e w2 ⟨rfl, rfl⟩
          rw [Int.toNat_natCast, HB.out]
          gi_wp2_with fail
          refine ⟨(fun h => by cases h), ?_⟩
          refine HRR.out.mono ?_
          rintro e W3 (⟨rfl, hJ3, hk3⟩ | ⟨rfl, hJx3⟩)
          · have hr3 : rowN W3 Bn = some (natA v) := by
              unfold KeepB at hk3
              have := HR2.out
              unfold rowN at this ⊢
              rw [hk3]; exact this
            have HJ3 := Lib.hid hJ3
            have HR3 := Lib.hid hr3
            clear hJ3 hr3 hk3
            have hbb : ((b : Int) - 1).toNat = b - 1 := by omega
            gi_wp2_with fail
            have hat := andNot_top ρ (b - 1) (by omega) (by rw [Nat.sub_add_cancel b1]; exact HB3.out)
            rw [hat, HB6.out]
            refine ⟨⟨b - 1, pre ++ [⟨64 * i + (b - 1), hxL⟩], by omega, rfl, HC2.out.step (⟨64 * i + (b - 1), hxL⟩ : Bit v) HB4.out (by show 64 * i + (b - 1) < 64 * i + t; omega) HB5.out, ?_, HJ3.out, HR3.out⟩, ?_⟩
            · rw [List.length_append, List.length_singleton]
              have := HL2.out
              omega
            · have h1 : dgt P64 v i % 2 ^ (b - 1) < 2 ^ (b - 1) := Nat.mod_lt _ (Nat.pow_pos (by omega))
              have h2 := HB7.out
              simp only [intOf, Int.toNat_natCast]
              omega
          · have HJX := Lib.hid hJx3
            clear hJx3
            gi_wp2_with fail
            refine bodyPost_ret (results_none rfl _ _ _) rfl ?_
            exact ⟨⟨_, rfl⟩, .inr ⟨_, ⟨pre, ⟨64 * i + (b - 1), hxL⟩, rfl, HC2.out.step (⟨64 * i + (b - 1), hxL⟩ : Bit v) HB4.out (by show 64 * i + (b - 1) < 64 * i + t; omega) HB5.out⟩, HJX.out⟩⟩

/-- The iterator's contract, as the loop's law wants it. -/
theorem ones1_stops (n Bn v : Nat) (hv : v < P64 ^ 16) (w : World) (hBn : rowN w Bn = some (natA v)) :
    SeqStopsK Fence.wide n Try.prog 93 #[.pointer (some ⟨Bn, 0, none⟩)] (fun x : Bit v => #[.int .i64 x.1]) (KeepB Bn) (AllBits v) (SomeBits v) (dlen 2 v) w := by
  intro l J Jx W hW hJ _ hY h0
  have hrow : rowN W Bn = some (natA v) := by rw [brow hW _ (rowN_lt hBn)]; exact hBn
  exact ones1_in n l Bn v hv J Jx W hrow hJ hY h0

set_option maxRecDepth 100000 in
theorem ones_any (v : Nat) (w : World) : Calls Try.prog 83 #[.agg (natA v)] w fun e w' => e = .returned (.func (.func 93) #[] #[.pointer (some ⟨w.heap.size, 0, none⟩)]) ∧ w' = w.alloc (.cells (natA v) 28) := by
  have hmf : ∀ (fn : Fn) (first cap : Array Value) (w : World), (Instr.makeFunc fn first cap).run Try.prog w = .ok (.func fn first cap) w := fun _ _ _ _ => rfl
  go_enter Try.func83, Try.ntmps83
  go_wp2
  go_ret
  exact ⟨rfl, rfl⟩
end Go.Proofs.Ytlmfiggmjpjpiaa
