/- Single bits, and the next bit that is 1. -/
import Derived.Test.YtlmfiggmjpjpiaaZE
import Derived.Test.YtlmfiggmjpjpiaaM1
import Derived.Test.YtlmfiggmjpjpiaaN1
import Derived.Test.YtlmfiggmjpjpiaaF1
import Derived.Test.YtlmfiggmjpjpiaaT0
namespace Go.Proofs.Ytlmfiggmjpjpiaa
open Go.RowKit

theorem bit_dec (v i : Nat) : (v / 2 ^ i % 2 = 1) ↔ v.testBit i = true := by
  rw [Nat.testBit_eq_decide_div_mod_eq, decide_eq_true_eq]
theorem bit_one {v i : Nat} (h : v.testBit i = true) : v / 2 ^ i % 2 = 1 := (bit_dec v i).2 h
theorem bit_zero {v i : Nat} (h : v.testBit i = false) : v / 2 ^ i % 2 = 0 := by
  have h1 : ¬ v / 2 ^ i % 2 = 1 := fun e => by rw [(bit_dec v i).1 e] at h; cases h
  omega

/-- Is the bit i 1? False where there is none. -/
def bitAt (v : Nat) (i : Int) : Bool := decide (0 ≤ i) && v.testBit i.toNat
def bitI (v : Nat) (i : Int) : Int := if bitAt v i then 1 else 0

theorem testBit_far {v i : Nat} (hv : v < P64 ^ 16) (h : 1024 ≤ i) : v.testBit i = false := by
  obtain ⟨n, hn⟩ : ∃ n, n = 64 * 16 := ⟨_, rfl⟩
  rw [P64_two n hn] at hv
  exact Nat.testBit_lt_two_pow (Nat.lt_of_lt_of_le hv (Nat.pow_le_pow_right (by omega) (by omega)))
set_option maxRecDepth 100000 in
theorem rbit_neg (s : Value) (i : Int) (w : World) (hi : i < 0) : Calls Try.prog 50 #[s, .int .i64 i] w fun e w' => e = .returned (.int .i64 0) ∧ w' = w := by
  go_enter Try.func50, Try.ntmps50
  go_wp2_with fail
  go_ret
  exact ⟨rfl, rfl⟩
theorem rbit_at (v n : Nat) (i : Int) (s : Value) (w : World) (h : DigN v n s w) (hi : i ≤ 9223372036854775807) : Calls Try.prog 50 #[s, .int .i64 i] w fun e w' => e = .returned (.int .i64 (bitI v i)) ∧ w' = w := by
  unfold bitI bitAt
  by_cases h0 : 0 ≤ i
  · obtain ⟨k, rfl⟩ := Int.eq_ofNat_of_zero_le h0
    have h1 := rbit_any v n k s w h (by omega)
    rw [decide_eq_true h0, Bool.true_and, Int.toNat_natCast]
    cases hb : v.testBit k with
    | true => rw [bit_one hb] at h1; exact h1
    | false => rw [bit_zero hb] at h1; exact h1
  · rw [decide_eq_false h0, Bool.false_and]
    exact rbit_neg s i w (by omega)

/-- The greatest bit below c that is 1; -1: there is none. -/
def nx (v c : Nat) : Int := (dlen 2 (v % 2 ^ c) : Int) - 1

theorem nx_bd (v c : Nat) : -1 ≤ nx v c ∧ nx v c < c := by
  have h : dlen 2 (v % 2 ^ c) ≤ c := dlen_le (by omega) (Nat.mod_lt _ (Nat.two_pow_pos c))
  unfold nx; omega
theorem nx_none {v c : Nat} (h : ∀ y, y < c → v.testBit y = false) : nx v c = -1 := by
  have e : v % 2 ^ c = 0 := by
    refine Nat.eq_of_testBit_eq fun j => ?_
    rw [Nat.testBit_mod_two_pow, Nat.zero_testBit]
    by_cases hj : j < c
    · rw [h j hj, Bool.and_false]
    · simp [hj]
  unfold nx
  rw [e, dlen_zero]; rfl
theorem nx_is {v c m : Nat} (hm : m < c) (h1 : v.testBit m = true) (h2 : ∀ y, m < y → y < c → v.testBit y = false) : nx v c = m := by
  have a1 : v % 2 ^ c < 2 ^ (m + 1) := by
    refine Nat.lt_of_not_le fun hle => ?_
    obtain ⟨i, hi, hb⟩ := Nat.exists_ge_and_testBit_of_ge_two_pow hle
    rw [Nat.testBit_mod_two_pow, Bool.and_eq_true, decide_eq_true_eq] at hb
    rw [h2 i (by omega) hb.1] at hb
    cases hb.2
  have a2 : 2 ^ m ≤ v % 2 ^ c := Nat.ge_two_pow_of_testBit (by rw [Nat.testBit_mod_two_pow, h1]; simp [hm])
  unfold nx
  rw [dlen_eq (by omega) a1 (.inr (by simpa using a2))]
  omega
theorem nx_set {v c m : Nat} (h : nx v c = m) : m < c ∧ v.testBit m = true ∧ ∀ y, m < y → y < c → v.testBit y = false := by
  unfold nx at h
  have hd : dlen 2 (v % 2 ^ c) = m + 1 := by omega
  have h0 : v % 2 ^ c ≠ 0 := by
    intro e; rw [e, dlen_zero] at hd; omega
  obtain ⟨_, h1⟩ := dlen_le_of (B := 2) (by omega) h0
  have h2 := lt_dlen (show 2 ≤ 2 by omega) (v % 2 ^ c)
  rw [hd] at h1 h2
  have h3 := testBit_top h2 h1
  have hb := nx_bd v c
  unfold nx at hb
  rw [Nat.testBit_mod_two_pow, Bool.and_eq_true, decide_eq_true_eq] at h3
  refine ⟨h3.1, h3.2, fun y hy hc => ?_⟩
  have h4 : (v % 2 ^ c).testBit y = false := Nat.testBit_lt_two_pow (Nat.lt_of_lt_of_le h2 (Nat.pow_le_pow_right (by omega) (by omega)))
  rw [Nat.testBit_mod_two_pow] at h4
  simpa [hc] using h4
theorem nx_top (v : Nat) : nx v (dlen 2 v) = (dlen 2 v : Int) - 1 := by
  unfold nx
  rw [Nat.mod_eq_of_lt (lt_dlen (by omega) v)]
theorem nx_down {v m : Nat} (h : v.testBit m = false) : nx v (m + 1) = nx v m := by
  have e : v % 2 ^ (m + 1) = v % 2 ^ m := by
    refine Nat.eq_of_testBit_eq fun j => ?_
    rw [Nat.testBit_mod_two_pow, Nat.testBit_mod_two_pow]
    by_cases hj : j = m
    · subst hj; rw [h]; simp
    · have : (j < m + 1) ↔ (j < m) := by omega
      simp [this]
  unfold nx
  rw [e]
theorem nx_here {v m : Nat} (h : v.testBit m = true) : nx v (m + 1) = m := nx_is (by omega) h (fun y h1 h2 => by omega)
theorem nx_zero (v : Nat) : nx v 0 = -1 := nx_none fun y h => by omega

/-- The last bit that has come; the number of bits: none has. -/
def low {v : Nat} (pre : List (Bit v)) : Nat := match pre.getLast? with
  | some x => x.1
  | none => dlen 2 v
theorem low_nil (v : Nat) : low ([] : List (Bit v)) = dlen 2 v := rfl
theorem low_snoc {v : Nat} (pre : List (Bit v)) (x : Bit v) : low (pre ++ [x]) = x.1 := by
  unfold low; rw [List.getLast?_append]; rfl
/-- What has come are the first bits that are 1. -/
def Good {v : Nat} (pre : List (Bit v)) : Prop := Cov v (low pre) pre
theorem good_nil (v : Nat) : Good ([] : List (Bit v)) := Cov.nil v (by rw [low_nil]; exact Nat.le_refl _)
theorem good_step {v : Nat} {pre : List (Bit v)} {x : Bit v} (h : Good pre) (e : nx v (low pre) = x.1) : Good (pre ++ [x]) := by
  obtain ⟨h1, h2, h3⟩ := nx_set e
  unfold Good
  rw [low_snoc]
  exact Cov.step h x h2 h1 h3
theorem good_last {v : Nat} {pre : List (Bit v)} {x : Bit v} (h : Good pre) (hc : Cov v x.1 (pre ++ [x])) : nx v (low pre) = x.1 := by
  have hx := (hc.mem x (by simp)).1
  have hlow : ∀ y ∈ pre, low pre ≤ y.1 := fun y hy => (h.mem y hy).2
  have hd := hc.desc
  rw [List.pairwise_append] at hd
  have hlt : ∀ y ∈ pre, x.1 < y.1 := fun y hy => hd.2.2 y hy x (by simp)
  have hxl : x.1 < low pre := by
    cases hl : pre.getLast? with
    | none => unfold low; rw [hl]; exact x.2
    | some z =>
      unfold low; rw [hl]
      exact hlt z (List.mem_of_getLast? hl)
  refine nx_is hxl hx fun y h1 h2 => ?_
  cases hb : v.testBit y with
  | false => rfl
  | true =>
    have hy := hc.all ⟨y, two_pow_dlen hb⟩ hb (by show x.1 ≤ y; omega)
    rcases List.mem_append.1 hy with hy | hy
    · have := hlow _ hy
      have h3 : low pre ≤ y := this
      omega
    · simp at hy
      have h3 : y = x.1 := congrArg Subtype.val hy
      omega
theorem good_all {v : Nat} {pre : List (Bit v)} (h : Good pre) (ha : AllBits v pre) : nx v (low pre) = -1 := by
  refine nx_none fun y hy => ?_
  cases hb : v.testBit y with
  | false => rfl
  | true =>
    have h1 := ha.all ⟨y, two_pow_dlen hb⟩ hb (Nat.zero_le _)
    have h2 := (h.mem _ h1).2
    have h3 : low pre ≤ y := h2
    omega
end Go.Proofs.Ytlmfiggmjpjpiaa
