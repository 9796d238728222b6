/- What the ladder comes to: n times an element. -/
import Derived.Test.YtlmfiggmjpjpiaaA4
import Derived.Test.YtlmfiggmjpjpiaaN6
namespace Go.Proofs.Ytlmfiggmjpjpiaa
open Go.RowKit Go.Shelf

theorem low_le_mem {v : Nat} {pre : List (Bit v)} (h : pre.Pairwise (fun a b => b.1 < a.1)) : ∀ y ∈ pre, low pre ≤ y.1 := by
  intro y hy
  rcases List.eq_nil_or_concat pre with e | ⟨p, z, e⟩
  · subst e; cases hy
  · have e' : pre = p ++ [z] := by simpa using e
    subst e'
    rw [low_snoc]
    rw [List.pairwise_append] at h
    rcases List.mem_append.1 hy with hy | hy
    · exact Nat.le_of_lt (h.2.2 y hy z (by simp))
    · simp at hy; subst hy; exact Nat.le_refl _
theorem low_gt {v : Nat} {pre : List (Bit v)} {b : Bit v} (h : (pre ++ [b]).Pairwise (fun a b => b.1 < a.1)) : b.1 < low pre := by
  rcases List.eq_nil_or_concat pre with e | ⟨p, z, e⟩
  · subst e; rw [low_nil]; exact b.2
  · have e' : pre = p ++ [z] := by simpa using e
    subst e'
    rw [low_snoc]
    rw [List.pairwise_append] at h
    exact h.2.2 z (by simp) b (by simp)
theorem good_prev {v : Nat} {pre : List (Bit v)} {b : Bit v} (h : Good (pre ++ [b])) : Good pre ∧ nx v (low pre) = b.1 := by
  unfold Good at h
  rw [low_snoc] at h
  have hlt := low_gt h.desc
  have hd := h.desc
  rw [List.pairwise_append] at hd
  have hg : Good pre := by
    refine ⟨fun y hy => ⟨(h.mem y (by simp [hy])).1, low_le_mem hd.1 y hy⟩, fun y hy hl => ?_, hd.1⟩
    rcases List.mem_append.1 (h.all y hy (by omega)) with h1 | h1
    · exact h1
    · simp at h1
      have h2 : y.1 = b.1 := congrArg Subtype.val h1
      omega
  exact ⟨hg, good_last hg h⟩
theorem good_of_all {v : Nat} {xs : List (Bit v)} (h : AllBits v xs) : Good xs :=
  ⟨fun y hy => ⟨(h.mem y hy).1, low_le_mem h.desc y hy⟩, fun y hy _ => h.all y hy (Nat.zero_le _), h.desc⟩

theorem dbl_J {op : Nat → Nat → Nat} {J : Nat → Nat} (h2 : ∀ k, op (J k) (J k) = J (k + k)) (n k : Nat) : dbl op n (J k) = J (k * 2 ^ n) := by
  induction n with
  | zero => rw [Nat.pow_zero, Nat.mul_one]; rfl
  | succ n ih =>
    show op (dbl op n (J k)) (dbl op n (J k)) = _
    rw [ih, h2, Nat.pow_succ, ← Nat.mul_assoc]
    congr 1
    omega
theorem div_next {v L b : Nat} (hb : b < L) (h1 : v.testBit b = true) (h0 : ∀ y, b < y → y < L → v.testBit y = false) : v / 2 ^ b = v / 2 ^ L * 2 ^ (L - b) + 1 := by
  have hm : v / 2 ^ b % 2 ^ (L - b) = 1 := by
    refine Nat.eq_of_testBit_eq fun j => ?_
    rw [Nat.testBit_mod_two_pow, Nat.testBit_div_two_pow]
    cases j with
    | zero =>
      have : 0 < L - b := by omega
      rw [Nat.add_comm, Nat.add_zero, h1]
      simp [this]
    | succ j =>
      have e1 : (1 : Nat).testBit (j + 1) = false := Nat.testBit_lt_two_pow (Nat.one_lt_two_pow (by omega))
      rw [e1]
      by_cases hj : j + 1 < L - b
      · rw [h0 _ (by omega) (by omega)]; simp
      · simp [hj]
  have hq : v / 2 ^ b / 2 ^ (L - b) = v / 2 ^ L := by
    rw [Nat.div_div_eq_div_mul, ← Nat.pow_add, show b + (L - b) = L by omega]
  have h := Nat.mod_add_div (v / 2 ^ b) (2 ^ (L - b))
  rw [hm, hq, Nat.mul_comm] at h
  omega

theorem ladS_good {op : Nat → Nat → Nat} {J : Nat → Nat} {x v : Nat} (h2 : ∀ k, op (J k) (J k) = J (k + k)) (h1 : ∀ k, op (J k) x = J (k + 1)) (pre : List (Bit v)) (hg : Good pre) :
    ladS op (J 0) x pre = (low pre, J (v / 2 ^ low pre)) := by
  obtain ⟨n, hn⟩ : ∃ n, pre.length = n := ⟨_, rfl⟩
  induction n generalizing pre with
  | zero =>
    have : pre = [] := List.length_eq_zero_iff.1 hn
    subst this
    rw [ladS_nil, low_nil, Nat.div_eq_of_lt (lt_dlen (by omega) v)]
  | succ n ih =>
    obtain ⟨p, b, rfl⟩ : ∃ p b, pre = p ++ [b] := by
      rcases List.eq_nil_or_concat pre with h | ⟨p, b, h⟩
      · subst h; simp at hn
      · exact ⟨p, b, by simpa using h⟩
    obtain ⟨hgp, hnx⟩ := good_prev hg
    obtain ⟨s1, s2, s3⟩ := nx_set hnx
    rw [ladS_snoc, ih p hgp (by simpa using hn), low_snoc]
    simp only
    rw [Nat.min_eq_right (Nat.le_of_lt s1), dbl_J h2, h1, ← div_next s1 s2 s3]

theorem ladder_val {op : Nat → Nat → Nat} {J : Nat → Nat} {x v : Nat} (h2 : ∀ k, op (J k) (J k) = J (k + k)) (h1 : ∀ k, op (J k) x = J (k + 1)) (xs : List (Bit v)) (ha : AllBits v xs) :
    dbl op ((ladS op (J 0) x xs).1 - 0) (ladS op (J 0) x xs).2 = J v := by
  have hg := good_of_all ha
  have hn := good_all hg ha
  rw [ladS_good h2 h1 xs hg]
  simp only
  rw [Nat.sub_zero, dbl_J h2]
  congr 1
  have hz : v % 2 ^ low xs = 0 := by
    unfold nx at hn
    have h0 : dlen 2 (v % 2 ^ low xs) = 0 := by omega
    have h := lt_dlen (show 2 ≤ 2 by omega) (v % 2 ^ low xs)
    rw [h0, Nat.pow_zero] at h
    omega
  have h := Nat.mod_add_div v (2 ^ low xs)
  rw [hz, Nat.mul_comm] at h
  omega

theorem ladder_any (K m : Nat) (op : Nat → Nat → Nat) (hJn : Joins K m op) (J : Nat → Nat) (v x : Nat) (hv : v < P64 ^ 16) (h0 : J 0 < m) (hx : x < m) (h2 : ∀ k, op (J k) (J k) = J (k + k)) (h1 : ∀ k, op (J k) x = J (k + 1)) (w : World) :
    Calls Try.prog 67 #[.agg (natA v), .agg (natA (J 0)), .agg (natA x), .func (.func K) #[.agg (natA m)] #[]] w fun e w' => e = .returned (.agg (natA (J v))) ∧ Below w.heap.size w w' := by
  refine (ladder_in K m op hJn v (J 0) x hv h0 hx w).mono fun e w' h => ?_
  obtain ⟨⟨xs, hxs, rfl⟩, hb⟩ := h
  exact ⟨by rw [ladder_val h2 h1 xs hxs], hb⟩
end Go.Proofs.Ytlmfiggmjpjpiaa
