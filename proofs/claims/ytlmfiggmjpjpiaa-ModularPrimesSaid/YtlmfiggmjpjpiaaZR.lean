/- The numbers of the reference: slices of digits of 16 bits, the least significant one first. What the reference makes: a number of an int, a number of bytes. The reference's bytes; are two numbers the same? Are two numbers the same? Shifting, by the reference. Adding, by the reference. Subtracting, by the reference. Comparing, by the reference. -/
import Derived.Test.YtlmfiggmjpjpiaaF0
import Derived.Test.YtlmfiggmjpjpiaaC3
namespace Go.Proofs.Ytlmfiggmjpjpiaa
open Go.RowKit

/-- A slice reads the digits of v: n of them; all above are 0. -/
def DigN (v n : Nat) (s : Value) (W : World) : Prop :=
  v < 65536 ^ n ∧ ∃ (a : Option Addr) (c : Nat), s = .slice a n c ∧ n ≤ c ∧ c ≤ maxLen ∧
    (n = 0 ∨ ∃ b off, a = some ⟨b, off, none⟩ ∧ b < W.heap.size ∧ ∀ j, j < n → W.cell? ⟨b, off + j, none⟩ = some (.int .i64 (dgt 65536 v j : Nat)))
/-- A number of the reference without superfluous digits. -/
def RefN (v : Nat) (s : Value) (W : World) : Prop := DigN v (dlen 65536 v) s W

theorem DigN.kept {v n : Nat} {s : Value} {W W' : World} (h : DigN v n s W) (hb : Below W.heap.size W W') : DigN v n s W' := by
  obtain ⟨h1, a, c, rfl, h2, h3, h4⟩ := h
  refine ⟨h1, a, c, rfl, h2, h3, ?_⟩
  rcases h4 with h4 | ⟨b, off, rfl, h5, h6⟩
  · exact .inl h4
  · exact .inr ⟨b, off, rfl, Nat.lt_of_lt_of_le h5 hb.size, fun j hj => by rw [(bcell hb).1 _ _ h5]; exact h6 j hj⟩

theorem dgt_ge {B v n i : Nat} (hB : 0 < B) (h : v < B ^ n) (hi : n ≤ i) : dgt B v i = 0 := by
  unfold dgt
  rw [Nat.div_eq_of_lt (Nat.lt_of_lt_of_le h (Nat.pow_le_pow_right hB hi)), Nat.zero_mod]

theorem d16_lt (v i : Nat) : dgt 65536 v i < 65536 := dgt_lt (by omega)

set_option maxRecDepth 100000 in
theorem digit_neg (s : Value) (i : Int) (hi : i < 0) (w : World) : Calls Try.prog 64 #[s, .int .i64 i] w fun e w' => e = .returned (.int .i64 0) ∧ w' = w := by
  go_enter Try.func64, Try.ntmps64
  go_wp2
  go_ret
  exact ⟨rfl, rfl⟩

theorem maxLen_le : maxLen ≤ 9223372036854775807 := by decide

set_option maxRecDepth 100000 in
theorem digit_any (v n i : Nat) (s : Value) (w : World) (h : DigN v n s w) (hi : i ≤ 9223372036854775807) : Calls Try.prog 64 #[s, .int .i64 (i : Nat)] w fun e w' => e = .returned (.int .i64 (dgt 65536 v i : Nat)) ∧ w' = w := by
  obtain ⟨h1, a, c, rfl, h2, h3, h4⟩ := h
  have hm := maxLen_le
  have hd := d16_lt v i
  by_cases hn : i < n
  · rcases h4 with h4 | ⟨b, off, rfl, h5, h6⟩
    · omega
    have h7 := h6 i hn
    clear h6 h1
    generalize dgt 65536 v i = d at *
    go_enter Try.func64, Try.ntmps64
    go_wp2
    go_ret
    exact ⟨rfl, rfl⟩
  · have h0 := dgt_ge (by omega) h1 (show n ≤ i by omega)
    rw [h0]
    clear h1 h4 h0 hd
    go_enter Try.func64, Try.ntmps64
    go_wp2
    go_ret
    exact ⟨rfl, rfl⟩

theorem digit_at (v n k : Nat) (i : Int) (s : Value) (w : World) (h : DigN v n s w) (hk : i = (k : Nat)) (hi : k ≤ 9223372036854775807) : Calls Try.prog 64 #[s, .int .i64 i] w fun e w' => e = .returned (.int .i64 (dgt 65536 v k : Nat)) ∧ w' = w := by
  subst hk
  exact digit_any v n k s w h hi

theorem bit_dgt (v i : Nat) : dgt 65536 v (i / 16) / 2 ^ (i % 16) % 2 = v / 2 ^ i % 2 := by
  have h := mod_div_mod (v / 2 ^ (16 * (i / 16))) 16 (i % 16) 1 (by omega)
  unfold dgt
  rw [show (65536 : Nat) = 2 ^ 16 by decide, ← Nat.pow_mul]
  have e : 2 ^ 16 = (65536 : Nat) := by decide
  rw [Nat.pow_one] at h
  rw [h, Nat.div_div_eq_div_mul, ← Nat.pow_add]
  congr 3
  omega

set_option maxRecDepth 100000 in
theorem rbit_any (v n i : Nat) (s : Value) (w : World) (h : DigN v n s w) (hi : i ≤ 9223372036854775807) : Calls Try.prog 50 #[s, .int .i64 (i : Nat)] w fun e w' => e = .returned (.int .i64 (v / 2 ^ i % 2 : Nat)) ∧ w' = w := by
  have hb := bit_dgt v i
  have hd := d16_lt v (i / 16)
  have HD := Lib.hid (digit_at v n (i / 16) ((i : Int) / 16) s w h (by omega) (by omega))
  generalize dgt 65536 v (i / 16) = d at *
  generalize v / 2 ^ i % 2 = r at *
  have HB := Lib.hid hb
  clear hb h
  go_enter Try.func50, Try.ntmps50
  go_wp2_with fail
  refine HD.out.mono ?_
  rintro e w1 ⟨rfl, rfl⟩
  go_wp2_with fail
  go_ret
  refine ⟨ret_eq (congrArg (Value.int .i64) ?_), rfl⟩
  show ((d : Int) / 2 ^ (i % 16)).tmod 2 = ((r : Nat) : Int)
  have h2 : ((d : Int) / 2 ^ (i % 16)) = ((d / 2 ^ (i % 16) : Nat) : Int) := by
    rw [Int.natCast_ediv, Int.natCast_pow]; rfl
  rw [h2, ← HB.out]
  generalize d / 2 ^ (i % 16) = q
  rw [Int.tmod_eq_emod_of_nonneg (by omega)]
  omega

/-- What BitLen's loop holds: nothing but 0 from i on. -/
theorem bits_above {v i : Nat} (h : v < 2 ^ (i + 1)) (h0 : v / 2 ^ i % 2 = 0) : v < 2 ^ i := by
  by_cases e : v < 2 ^ i
  · exact e
  · have h1 : v / 2 ^ i < 2 := by
      rw [Nat.div_lt_iff_lt_mul (Nat.two_pow_pos i), Nat.mul_comm, ← Nat.pow_succ]; exact h
    have h2 : 0 < v / 2 ^ i := Nat.div_pos (by omega) (Nat.two_pow_pos i)
    omega
theorem bit_set {v i : Nat} (h0 : ¬ v / 2 ^ i % 2 = 0) : 2 ^ i ≤ v := by
  by_cases e : v < 2 ^ i
  · exact absurd (by rw [Nat.div_eq_of_lt e]) h0
  · omega

set_option maxRecDepth 100000 in
theorem rbitLen_any (v n : Nat) (s : Value) (w : World) (h : DigN v n s w) (hn : n ≤ 100000000) : Calls Try.prog 49 #[s] w fun e w' => e = .returned (.int .i64 (dlen 2 v : Nat)) ∧ w' = w := by
  have HD := Lib.hid (fun (i : Nat) (j : Int) (hj : j = (i : Nat)) (hi : i ≤ 9223372036854775807) => (by subst hj; exact rbit_any v n i s w h hi : Calls Try.prog 50 #[s, .int .i64 j] w fun e w' => e = .returned (.int .i64 (v / 2 ^ i % 2 : Nat)) ∧ w' = w))
  have HV := Lib.hid (show v < 2 ^ (16 * n) by rw [Nat.pow_mul]; exact h.1)
  obtain ⟨h1, a, c, rfl, h2, h3, h4⟩ := h
  clear h1 h4
  go_enter Try.func49, Try.ntmps49
  go_wp2_with fail
  go_loop [3] (fun x => ∃ i : Nat, i ≤ 16 * n ∧ x = .int .i64 i ∧ v < 2 ^ i) (fun x => (intOf x).toNat)
  case atStart => exact ⟨16 * n, Nat.le_refl _, by simp, HV.out⟩
  case round =>
    obtain ⟨i, hi, rfl, hlt⟩ := hrel
    have HLT := Lib.hid hlt
    clear hlt
    by_cases h0 : 0 < i
    · obtain ⟨b, Hb⟩ : ∃ b, v / 2 ^ (i - 1) % 2 = b := ⟨_, rfl⟩
      have hb2 : b < 2 := by omega
      have hb := Lib.hid Hb
      clear Hb
      have HC := Lib.hid (HD.out (i - 1) ((i : Int) - 1) (by omega) (by omega))
      rw [hb.out] at HC
      go_wp2_with fail
      refine HC.out.mono ?_
      rintro e w1 ⟨rfl, rfl⟩
      go_wp2_with fail
      · have hz : ((b : Int) == 0) = true := by assumption
        have hz2 : b = 0 := by simpa using hz
        refine ⟨⟨i - 1, by omega, by rw [Int.ofNat_sub (by omega)]; rfl, ?_⟩, by simp [intOf]; omega⟩
        refine bits_above ?_ (hb.out.trans hz2)
        rw [Nat.sub_add_cancel h0]; exact HLT.out
      · have hz : ((b : Int) == 0) = false := by assumption
        have hz2 : b ≠ 0 := by simpa using hz
        go_ret
        refine ⟨ret_eq (congrArg (Value.int .i64) ?_), rfl⟩
        rw [dlen_eq (by omega) HLT.out (.inr (bit_set (by rw [hb.out]; exact hz2)))]
    · obtain rfl : i = 0 := by omega
      go_wp2_with fail
      go_ret
      refine ⟨ret_eq (congrArg (Value.int .i64) ?_), rfl⟩
      rw [dlen_eq (by omega) HLT.out (.inl rfl)]
      rfl

theorem dlen_1024 {v : Nat} : decide (v < P64 ^ 16) = decide (dlen 2 v ≤ 1024) := by
  obtain ⟨n, hn⟩ : ∃ n, n = 64 * 16 := ⟨_, rfl⟩
  rw [decide_eq_decide]
  constructor
  · exact fun h => dlen2_le h
  · intro h
    rw [P64_two n hn]
    exact Nat.lt_of_lt_of_le (lt_dlen (by omega) v) (Nat.pow_le_pow_right (by omega) (by omega))

theorem refN_take {v n c i : Nat} {a : Option Addr} {w : World} (h : DigN v n (.slice a n c) w) (hi : i ≤ n) (ht : (i = 0 ∧ v < 65536 ^ i) ∨ (dgt 65536 v (i - 1) ≠ 0 ∧ v < 65536 ^ i)) : RefN v (.slice a i c) w := by
  obtain ⟨h1, a', c', he, h2, h3, h4⟩ := h
  cases he
  have hlt : v < 65536 ^ i := by rcases ht with ht | ht <;> exact ht.2
  have e : dlen 65536 v = i := by
    refine dlen_of_dgt (m := n) (by omega) hi h1 (fun j hj _ => dgt_ge (by omega) hlt hj) (fun h0 => ?_)
    rcases ht with ht | ht
    · omega
    · exact ht.1
  unfold RefN
  rw [e]
  refine ⟨hlt, a, c, rfl, by omega, h3, ?_⟩
  rcases h4 with h4 | ⟨b, off, rfl, h5, h6⟩
  · exact .inl (by omega)
  · exact .inr ⟨b, off, rfl, h5, fun j hj => h6 j (by omega)⟩

set_option maxRecDepth 100000 in
theorem trim_any (v n : Nat) (s : Value) (w : World) (h : DigN v n s w) : Calls Try.prog 40 #[s] w fun e w' => ∃ s', e = .returned s' ∧ RefN v s' w ∧ w' = w := by
  have HD := Lib.hid h
  obtain ⟨h1, a, c, rfl, h2, h3, h4⟩ := h
  have hm := maxLen_le
  clear h1
  go_enter Try.func40, Try.ntmps40
  go_wp2_with fail
  go_loop [3] (fun x => ∃ i : Nat, i ≤ n ∧ x = .int .i64 i ∧ v < 65536 ^ i) (fun x => (intOf x).toNat)
  case atStart => exact ⟨n, Nat.le_refl _, rfl, HD.out.1⟩
  case round =>
    obtain ⟨i, hi, rfl, hlt⟩ := hrel
    have HLT := Lib.hid hlt
    clear hlt
    by_cases h0 : 0 < i
    · rcases h4 with h4 | ⟨b, off, rfl, h5, h6⟩
      · omega
      have hcell := h6 (i - 1) (by omega)
      have hd := d16_lt v (i - 1)
      obtain ⟨d, Hd⟩ : ∃ d, dgt 65536 v (i - 1) = d := ⟨_, rfl⟩
      have hdd := Lib.hid Hd
      rw [hdd.out] at hcell hd
      clear Hd h6
      go_wp2_with fail
      · have hz : ((d : Int) == 0) = true := by assumption
        have hz2 : d = 0 := by simpa using hz
        refine ⟨⟨i - 1, by omega, by rw [Int.ofNat_sub (by omega)]; rfl, ?_⟩, by simp [intOf]; omega⟩
        refine lt_pow_of_dgt (by omega) (by omega) HLT.out fun j hj hj2 => ?_
        obtain rfl : j = i - 1 := by omega
        exact hdd.out.trans hz2
      · have hz : ((d : Int) == 0) = false := by assumption
        have hz2 : d ≠ 0 := by simpa using hz
        go_ret
        exact ⟨_, rfl, refN_take HD.out hi (.inr ⟨by rw [hdd.out]; exact hz2, HLT.out⟩), rfl⟩
    · obtain rfl : i = 0 := by omega
      clear h4
      go_wp2_with fail
      go_ret
      exact ⟨_, rfl, refN_take HD.out hi (.inl ⟨rfl, HLT.out⟩), rfl⟩
end Go.Proofs.Ytlmfiggmjpjpiaa

namespace Go.Proofs.Ytlmfiggmjpjpiaa
open Go.RowKit

theorem Try.info3 : (Try.prog.info? 3).map (fun i => (i.zero, i.size, i.bytes)) = some (some (.int .i64 0), 1, 8) := by kernel_rfl

/-- The first n digits, as cells. -/
def dcells (v n : Nat) : List Value := (List.range n).map fun j => .int .i64 (dgt 65536 v j : Nat)
theorem dcells_length (v n : Nat) : (dcells v n).length = n := by simp [dcells]
theorem dcells_succ (v n : Nat) : dcells v (n + 1) = dcells v n ++ [.int .i64 (dgt 65536 v n : Nat)] := by simp [dcells, List.range_succ]

theorem digN_owns {v n base : Nat} {s : Value} {W : World} (h : W.ownsRow base 3 1 s n (dcells v n)) (hv : v < 65536 ^ n) : DigN v n s W := by
  obtain ⟨_, h2⟩ := h
  refine ⟨hv, ?_⟩
  rcases h2 with ⟨rfl, rfl⟩ | ⟨g, cap, cur, rfl, hb, hg, hn, hc, hs, ht⟩
  · exact ⟨none, 0, rfl, Nat.le_refl _, by decide, .inl rfl⟩
  · refine ⟨_, cap, rfl, hn, hc, .inr ⟨g, 0, rfl, (Array.getElem?_eq_some_iff.1 hg).1, fun j hj => ?_⟩⟩
    rw [Nat.zero_add, cell_of_row W g j cur 3 (0, 0) hg]
    have e : (cur.toList.take (n * 1))[j]? = cur[j]? := by
      rw [List.getElem?_take, if_pos (by omega), Array.getElem?_toList]
    rw [← e, ht]
    simp [dcells, hj]

theorem dgt_next (x k : Nat) : x / 65536 ^ k % 65536 = dgt 65536 x k ∧ x / 65536 ^ k / 65536 = x / 65536 ^ (k + 1) := ⟨rfl, by rw [Nat.div_div_eq_div_mul, ← Nat.pow_succ]⟩

theorem pow_k {x k : Nat} (hx : x ≤ 9223372036854775807) (h : k = 0 ∨ 65536 ^ (k - 1) ≤ x) : k ≤ 4 := by
  rcases h with rfl | h
  · omega
  · rcases Nat.lt_or_ge 4 k with hk | hk
    · have := Nat.pow_le_pow_right (n := 65536) (by omega) (show 4 ≤ k - 1 by omega)
      omega
    · exact hk

set_option maxRecDepth 100000 in
set_option maxHeartbeats 800000 in
theorem rof_any (x : Nat) (hx : x ≤ 9223372036854775807) (w : World) : Calls Try.prog 65 #[.int .i64 (x : Nat)] w fun e w' => ∃ s, e = .returned s ∧ RefN x s w' ∧ Below w.heap.size w w' := by
  obtain ⟨i0, hi, hz0, hz1, hz2⟩ := info_parts Try.info3
  go_enter Try.func65, Try.ntmps65
  go_wp2_with fail
  go_loopw [0, 3] (fun s v wr => ∃ k q : Nat, x / 65536 ^ k = q ∧ q ≤ x ∧ k ≤ 4 ∧ (k = 0 ∨ 65536 ^ (k - 1) ≤ x) ∧ s = .int .i64 (q : Nat) ∧ wr.ownsRow w.heap.size 3 1 v k (dcells x k) ∧ Below w.heap.size w wr)
    (fun s _ _ => (intOf s).toNat)
  case atStart => exact ⟨0, x, by simp, Nat.le_refl _, by omega, .inl rfl, rfl, World.ownsRow_nil _ _ _ _, Below.refl _ _⟩
  case round =>
    obtain ⟨k, q, hq, hqx, hk4, hk, rfl, hown, hbel⟩ := hrel
    obtain ⟨hn1, hn2⟩ := dgt_next x k
    rw [hq] at hn1 hn2
    have HQ := Lib.hid hq
    have HN1 := Lib.hid hn1
    have HN2 := Lib.hid hn2
    have HK := Lib.hid hk
    clear hq hn1 hn2 hk
    have hsz := hbel.size
    go_wp2_with (first
      | (at_builtin; refine wpList_append_own _ rfl _ _ 34 rfl w.heap.size 3 i0 (.int .i64 0) 1 8 Try.underlying34 hi hz0 hz1 hz2 rfl (by decide) _ _ _ rfl (hown.alloc _) ⟨wr.heap.size, 0, none⟩ 1 1 [.int .i64 ((q : Int) % 65536)] rfl rfl (cell_one_new _ _ _) (fun x hx => by simp at hx; subst hx; rfl) (by unfold maxLen; omega) (by omega) (by simp; omega) ?_; intro v' w3 hown' hgrow3 hnil3))
    · have hq0 : 0 < q := by assumption
      have hpow : 65536 ^ k ≤ x := by
        rcases Nat.lt_or_ge x (65536 ^ k) with h | h
        · have := Nat.div_eq_of_lt h
          have := HQ.out
          omega
        · exact h
      have hk1 := pow_k hx (k := k + 1) (.inr (by simpa using hpow))
      refine ⟨⟨k + 1, q / 65536, HN2.out.symm, by omega, hk1, .inr (by simpa using hpow), by rw [Int.natCast_ediv]; rfl, ?_, (hbel.alloc hsz _).grown hgrow3 (by simp; omega) (fun j hj => (hown.lt j hj).1)⟩, by simp [intOf]; omega⟩
      rw [dcells_succ, ← HN1.out, Int.natCast_emod]
      exact hown'
    · have hq0 : ¬ 0 < q := by assumption
      have hlt : x < 65536 ^ k := by
        rcases Nat.lt_or_ge x (65536 ^ k) with h | h
        · exact h
        · have := Nat.div_pos h (Nat.pow_pos (show 0 < 65536 by omega))
          have := HQ.out
          omega
      go_ret
      refine ⟨_, rfl, ?_, hbel⟩
      unfold RefN
      rw [dlen_eq (by omega) hlt HK.out]
      exact digN_owns hown hlt

theorem valBE_append (B : Nat) (l1 l2 : List Nat) : valBE B (l1 ++ l2) = valBE B l1 * B ^ l2.length + valBE B l2 := by
  have h : valBE B (l1 ++ l2) = l2.foldl (fun a x => a * B + x) (valBE B l1) := by simp [valBE]
  rw [h, foldl_lin]
theorem take_step (zs : List Nat) (j : Nat) (hj : j < zs.length) : valBE 256 (zs.take (j + 1)) = valBE 256 (zs.take j) * 256 + zs.getD j 0 := by
  have h : zs.take (j + 1) = zs.take j ++ [zs.getD j 0] := by
    rw [List.take_add_one]; simp [List.getD, hj]
  rw [h, valBE_snoc]
theorem take_div (zs : List Nat) (h256 : ∀ x ∈ zs, x < 256) (m : Nat) (hm : m ≤ zs.length) : valBE 256 zs / 256 ^ m = valBE 256 (zs.take (zs.length - m)) := by
  have h := valBE_append 256 (zs.take (zs.length - m)) (zs.drop (zs.length - m))
  have hl : (zs.drop (zs.length - m)).length = m := by simp; omega
  have hlt := valBE_lt 256 (by omega) (zs.drop (zs.length - m)) (fun x hx => h256 x (List.mem_of_mem_drop hx))
  rw [List.take_append_drop, hl] at h
  rw [hl] at hlt
  rw [h, Nat.mul_comm, Nat.mul_add_div (Nat.pow_pos (by omega)), Nat.div_eq_of_lt hlt, Nat.add_zero]
theorem p16 (k : Nat) : (65536 : Nat) ^ k = 256 ^ (2 * k) := by rw [Nat.pow_mul]
/-- What From's loop comes to: the digits of the bytes, from the last one on. -/
theorem from_digit (zs : List Nat) (h256 : ∀ x ∈ zs, x < 256) (k i : Nat) (hk : i + 2 + 2 * k = zs.length) : dgt 65536 (valBE 256 zs) k = zs.getD (i + 1) 0 + 256 * zs.getD i 0 := by
  have h1 := take_div zs h256 (2 * k) (by omega)
  have h2 := take_step zs (i + 1) (by omega)
  have h3 := take_step zs i (by omega)
  have ha : zs.getD (i + 1) 0 < 256 := h256 _ (by rw [List.getD, List.getElem?_eq_getElem (by omega)]; exact List.getElem_mem _)
  have hb : zs.getD i 0 < 256 := h256 _ (by rw [List.getD, List.getElem?_eq_getElem (by omega)]; exact List.getElem_mem _)
  rw [show zs.length - 2 * k = i + 1 + 1 by omega, h2, h3] at h1
  unfold dgt
  rw [p16, h1]
  omega
theorem from_digit_odd (zs : List Nat) (h256 : ∀ x ∈ zs, x < 256) (k : Nat) (hk : 1 + 2 * k = zs.length) : dgt 65536 (valBE 256 zs) k = zs.getD 0 0 := by
  have h1 := take_div zs h256 (2 * k) (by omega)
  have h2 := take_step zs 0 (by omega)
  have ha : zs.getD 0 0 < 256 := h256 _ (by rw [List.getD, List.getElem?_eq_getElem (by omega)]; exact List.getElem_mem _)
  rw [show zs.length - 2 * k = 0 + 1 by omega, h2] at h1
  unfold dgt
  rw [p16, h1]
  simp [valBE]
  simp at ha
  omega
theorem from_all (zs : List Nat) (h256 : ∀ x ∈ zs, x < 256) (k : Nat) (hk : zs.length ≤ 2 * k) : valBE 256 zs < 65536 ^ k := by
  rw [p16]
  exact Nat.lt_of_lt_of_le (valBE_lt 256 (by omega) zs h256) (Nat.pow_le_pow_right (by omega) hk)

/-- A slice reads bytes. -/
def BytesAt (zs : List Nat) (s : Value) (w : World) : Prop :=
  (∀ x ∈ zs, x < 256) ∧ ∃ (a : Option Addr) (c : Nat), s = .slice a zs.length c ∧ zs.length ≤ c ∧
    (zs.length = 0 ∨ ∃ b off, a = some ⟨b, off, none⟩ ∧ b < w.heap.size ∧ ∀ j, j < zs.length → w.cell? ⟨b, off + j, none⟩ = some (.int .u8 (zs.getD j 0 : Nat)))
theorem BytesAt.kept {zs : List Nat} {s : Value} {W W' : World} (h : BytesAt zs s W) (hb : Below W.heap.size W W') : BytesAt zs s W' := by
  obtain ⟨h1, a, c, rfl, h2, h4⟩ := h
  refine ⟨h1, a, c, rfl, h2, ?_⟩
  rcases h4 with h4 | ⟨b, off, rfl, h5, h6⟩
  · exact .inl h4
  · exact .inr ⟨b, off, rfl, Nat.lt_of_lt_of_le h5 hb.size, fun j hj => by rw [(bcell hb).1 _ _ h5]; exact h6 j hj⟩

set_option maxRecDepth 100000 in
set_option maxHeartbeats 800000 in
theorem from_any (zs : List Nat) (s : Value) (w : World) (h : BytesAt zs s w) (hn : zs.length ≤ 1000000) :
    Calls Try.prog 15 #[s] w fun e w' => ∃ s, e = .returned s ∧ RefN (valBE 256 zs) s w' ∧ Below w.heap.size w w' := by
  obtain ⟨i0, hi, hz0, hz1, hz2⟩ := info_parts Try.info3
  obtain ⟨h256, a, c, rfl, hnc, hat⟩ := h
  obtain ⟨n, hz⟩ : ∃ n, zs.length = n := ⟨_, rfl⟩
  have HC := Lib.hid hat
  clear hat
  rw [hz] at HC hn hnc ⊢
  have HZ := Lib.hid hz
  have H256 := Lib.hid h256
  clear hz h256 hnc
  go_enter Try.func15, Try.ntmps15
  go_wp2_with fail
  go_loopw [3, 4] (fun v s wr => ∃ k : Nat, 2 * k ≤ n + 1 ∧ s = .int .i64 ((n : Int) - 1 - 2 * k) ∧ wr.ownsRow w.heap.size 3 1 v k (dcells (valBE 256 zs) k) ∧ Below w.heap.size w wr)
    (fun _ s _ => (intOf s + 1).toNat)
  case atStart => exact ⟨0, by omega, by simp, World.ownsRow_nil _ _ _ _, Below.refl _ _⟩
  case round =>
    obtain ⟨k, hk, rfl, hown, hbel⟩ := hrel
    have hsz := hbel.size
    by_cases h1 : n ≤ 2 * k
    · go_wp2_with fail
      have HA := Lib.hid (from_all zs H256.out k (by rw [HZ.out]; omega))
      refine (trim_any _ k u3 wr (digN_owns hown HA.out)).mono ?_
      rintro e w2 ⟨s', rfl, hR, rfl⟩
      go_wp2_with fail
      go_ret
      exact ⟨_, rfl, hR, hbel⟩
    · obtain ⟨i, hle, hge⟩ : ∃ i, n ≤ i + 1 + 2 * k ∧ i + 1 + 2 * k ≤ n := ⟨n - 1 - 2 * k, by omega, by omega⟩
      rcases HC.out with h0 | ⟨b, off, rfl, hblk, hcell⟩
      · omega
      have HCL := Lib.hid (fun j hj => by rw [(bcell hbel).1 _ _ hblk]; exact hcell j hj : ∀ j, j < n → wr.cell? ⟨b, off + j, none⟩ = some (.int .u8 (zs.getD j 0 : Nat)))
      clear hcell
      rw [show (n : Int) - 1 - 2 * k = ((i : Nat) : Int) by omega]
      by_cases hi0 : 0 < i
      · have hc0 := HCL.out i (by omega)
        have hc1 := HCL.out (i - 1) (by omega)
        have hd := from_digit zs H256.out k (i - 1) (by rw [HZ.out]; omega)
        rw [Nat.sub_add_cancel (by omega)] at hd
        have hx0 : zs.getD i 0 < 256 := H256.out _ (by rw [List.getD, List.getElem?_eq_getElem (by rw [HZ.out]; omega)]; exact List.getElem_mem _)
        have hx1 : zs.getD (i - 1) 0 < 256 := H256.out _ (by rw [List.getD, List.getElem?_eq_getElem (by rw [HZ.out]; omega)]; exact List.getElem_mem _)
        generalize zs.getD i 0 = x at *
        generalize zs.getD (i - 1) 0 = y at *
        have HDG := Lib.hid hd
        clear hd
        go_wp2_with (first
          | (at_builtin; refine wpList_append_own _ rfl _ _ 34 rfl w.heap.size 3 i0 (.int .i64 0) 1 8 Try.underlying34 hi hz0 hz1 hz2 rfl (by decide) _ _ _ rfl (hown.alloc _) ⟨wr.heap.size, 0, none⟩ 1 1 [.int .i64 ((x : Int) + 256 * (y : Int))] rfl rfl (cell_one_new _ _ _) (fun x hx => by simp at hx; subst hx; rfl) (by unfold maxLen; omega) (by omega) (by simp; omega) ?_; intro v' w3 hown' hgrow3 hnil3))
        refine ⟨⟨k + 1, by omega, congrArg (Value.int .i64) (by omega), ?_, (hbel.alloc hsz _).grown hgrow3 (by simp; omega) (fun j hj => (hown.lt j hj).1)⟩, by simp [intOf] <;> omega⟩
        rw [dcells_succ, HDG.out, Int.natCast_add, Int.natCast_mul]
        exact hown'
      · obtain rfl : i = 0 := by omega
        have hc0 := HCL.out 0 (by omega)
        rw [Nat.add_zero] at hc0
        have hd := from_digit_odd zs H256.out k (by rw [HZ.out]; omega)
        have hx0 : zs.getD 0 0 < 256 := H256.out _ (by rw [List.getD, List.getElem?_eq_getElem (by rw [HZ.out]; omega)]; exact List.getElem_mem _)
        generalize zs.getD 0 0 = x at *
        have HDG := Lib.hid hd
        clear hd
        go_wp2_with (first
          | (at_builtin; refine wpList_append_own _ rfl _ _ 34 rfl w.heap.size 3 i0 (.int .i64 0) 1 8 Try.underlying34 hi hz0 hz1 hz2 rfl (by decide) _ _ _ rfl (hown.alloc _) ⟨wr.heap.size, 0, none⟩ 1 1 [.int .i64 (x : Nat)] rfl rfl (cell_one_new _ _ _) (fun x hx => by simp at hx; subst hx; rfl) (by unfold maxLen; omega) (by omega) (by simp; omega) ?_; intro v' w3 hown' hgrow3 hnil3))
        refine ⟨⟨k + 1, by omega, congrArg (Value.int .i64) (by omega), ?_, (hbel.alloc hsz _).grown hgrow3 (by simp; omega) (fun j hj => (hown.lt j hj).1)⟩, by simp [intOf] <;> omega⟩
        rw [dcells_succ, HDG.out]
        exact hown'

theorem fromBytes_any (zs : List Nat) (s : Value) (w : World) (h : BytesAt zs s w) (hn : zs.length ≤ 1000000) :
    Calls Try.prog 34 #[s] w fun e w' => e = .returned (.tuple #[.agg (natA (fbV zs)), .int .i64 (fbE zs)]) ∧ Below w.heap.size w w' := by
  obtain ⟨h256, a, c, rfl, hnc, h0 | ⟨b, off, rfl, hb, hc⟩⟩ := h
  · have hz : zs = [] := List.length_eq_zero_iff.1 h0
    subst hz
    have h := fromBytes_nil a c w
    have e : fbV [] = 0 ∧ fbE [] = 0 := by
      have h2 : valBE 256 [] < P64 ^ 16 := p64_16_pos
      unfold fbV fbE
      exact ⟨if_pos h2, if_pos h2⟩
    rw [e.1, e.2]
    exact h
  · refine fromBytes_some b off zs.length c zs w rfl (fun j => ?_) (by omega) hnc hb hc
    by_cases hj : j < zs.length
    · exact h256 _ (by rw [List.getD, List.getElem?_eq_getElem hj]; exact List.getElem_mem _)
    · rw [List.getD, List.getElem?_eq_none (by omega)]; exact (by decide : (0 : Nat) < 256)
end Go.Proofs.Ytlmfiggmjpjpiaa

namespace Go.Proofs.Ytlmfiggmjpjpiaa
open Go.RowKit

theorem byte_dgt (v i : Nat) : dgt 65536 v (i / 2) / 2 ^ (8 * (i % 2)) % 256 = v / 2 ^ (i * 8) % 256 := by
  have h := mod_div_mod (v / 2 ^ (16 * (i / 2))) 16 (8 * (i % 2)) 8 (by omega)
  unfold dgt
  rw [show (65536 : Nat) = 2 ^ 16 by decide, ← Nat.pow_mul]
  rw [show (2 : Nat) ^ 8 = 256 by decide] at h
  rw [h, Nat.div_div_eq_div_mul, ← Nat.pow_add]
  congr 3
  omega

/-- The first m bytes of a number, as cells. -/
def bcells (v m : Nat) : List Value := ((bytesN v).take m).map fun x => .int .u8 (x : Nat)
theorem bcells_succ (v m : Nat) (h : m < nBytes v) : bcells v (m + 1) = bcells v m ++ [.int .u8 (v / 2 ^ ((nBytes v - 1 - m) * 8) % 256 : Nat)] := by
  have h2 : m < (bytesN v).length := by rw [bytesN_length]; exact h
  have e : (bytesN v)[m]? = some (v / 2 ^ ((nBytes v - 1 - m) * 8) % 256) := by
    rw [bytesN, List.getElem?_map, List.getElem?_range h]; rfl
  unfold bcells
  rw [List.take_add_one, e]
  simp
theorem bcells_all (v : Nat) : bcells v (nBytes v) = (bytesN v).map fun x => .int .u8 (x : Nat) := by
  unfold bcells
  rw [List.take_of_length_le (by rw [bytesN_length]; exact Nat.le_refl _)]

set_option maxRecDepth 100000 in
set_option maxHeartbeats 800000 in
theorem rbytes_any (v n : Nat) (s : Value) (w : World) (h : DigN v n s w) (hn : n ≤ 100000000) : Calls Try.prog 42 #[s] w (Owns 5 .u8 (bytesN v) w) := by
  obtain ⟨i0, hi, hz0, hz1, hz2⟩ := info_parts Try.info5
  have HD := Lib.hid h
  have HBL := Lib.hid (rbitLen_any v n s w h hn)
  have hL : dlen 2 v ≤ 16 * n := dlen_le (by omega) (by rw [Nat.pow_mul]; exact h.1)
  obtain ⟨nb, hnb⟩ : ∃ nb, nBytes v = nb := ⟨_, rfl⟩
  have hnb' := hnb
  unfold nBytes at hnb'
  generalize dlen 2 v = L at *
  have HNB := Lib.hid hnb
  have hnbi : ((L : Int) + 7) / 8 = ((nb : Nat) : Int) := by omega
  have HNI := Lib.hid hnbi
  have hnb2 : nb ≤ 200000001 := by omega
  clear hnb hnb' hnbi h
  go_enter Try.func42, Try.ntmps42
  go_wp2_with fail
  refine HBL.out.mono ?_
  rintro e w1 ⟨rfl, rfl⟩
  go_wp2_with fail
  rw [HNI.out]
  go_loopw [4, 5] (fun x i wr => ∃ m : Nat, m ≤ nb ∧ i = .int .i64 ((nb : Int) - 1 - m) ∧ wr.ownsRow w1.heap.size 5 1 x m (bcells v m) ∧ Below w1.heap.size w1 wr)
    (fun _ i _ => (intOf i + 1).toNat)
  case atStart => exact ⟨0, by omega, by simp, World.ownsRow_nil _ _ _ _, Below.refl _ _⟩
  case round =>
    obtain ⟨m, hm, rfl, hown, hbel⟩ := hrel
    have hsz := hbel.size
    by_cases hlt : m < nb
    · obtain ⟨i, hle, hge⟩ : ∃ i, nb ≤ i + 1 + m ∧ i + 1 + m ≤ nb := ⟨nb - 1 - m, by omega, by omega⟩
      rw [show (nb : Int) - 1 - m = ((i : Nat) : Int) by omega]
      have hd := d16_lt v (i / 2)
      have HB := Lib.hid (byte_dgt v i)
      have HDG := Lib.hid (digit_at v n (i / 2) ((i : Int) / 2) s wr (HD.out.kept hbel) (by omega) (by omega))
      generalize dgt 65536 v (i / 2) = d at *
      have hbyte : ((d : Int) / 2 ^ (8 * (i % 2))).tmod 256 % 256 = ((v / 2 ^ (i * 8) % 256 : Nat) : Int) := by
        rw [← HB.out]
        have h2 : ((d : Int) / 2 ^ (8 * (i % 2))) = ((d / 2 ^ (8 * (i % 2)) : Nat) : Int) := by
          rw [Int.natCast_ediv, Int.natCast_pow]; rfl
        rw [h2]
        generalize d / 2 ^ (8 * (i % 2)) = q
        rw [Int.tmod_eq_emod_of_nonneg (by omega)]
        omega
      have HBY := Lib.hid hbyte
      clear hbyte
      go_wp2_with (first
        | (go_at_call 64; refine HDG.out.mono ?_; rintro e w2 ⟨rfl, rfl⟩)
        | (at_builtin; refine wpList_append_own _ rfl _ _ 22 rfl w1.heap.size 5 i0 (.int .u8 0) 1 1 Try.underlying22 hi hz0 hz1 hz2 rfl (by decide) _ _ _ rfl (hown.alloc _) ⟨w2.heap.size, 0, none⟩ 1 1 [.int .u8 (((d : Int) / 2 ^ (8 * (i % 2))).tmod 256 % 256)] rfl rfl (cell_one_new _ _ _) (fun x hx => by simp at hx; subst hx; rfl) (by unfold maxLen; omega) (by omega) (by simp; omega) ?_; intro v' w3 hown' hgrow3 hnil3))
      refine ⟨⟨m + 1, by omega, congrArg (Value.int .i64) (by omega), ?_, (hbel.alloc hsz _).grown hgrow3 (by simp; omega) (fun j hj => (hown.lt j hj).1)⟩, by simp [intOf] <;> omega⟩
      rw [bcells_succ v m (by rw [HNB.out]; exact hlt), HNB.out, show nb - 1 - m = i by omega, ← HBY.out]
      exact hown'
    · obtain rfl : m = nb := by omega
      go_wp2_with fail
      go_ret
      refine ⟨_, rfl, ?_, hbel⟩
      have e := bcells_all v
      rw [HNB.out] at e
      rw [bytesN_length, HNB.out, ← e]
      exact hown
end Go.Proofs.Ytlmfiggmjpjpiaa

namespace Go.Proofs.Ytlmfiggmjpjpiaa
open Go.RowKit

theorem conv_keeps {l : List Nat} {w w' : World} {s : Value} (h : w'.ownsRow w.heap.size 5 1 s l.length (l.map fun x => .int .u8 (x : Nat))) :
    ∀ W, Below w'.heap.size w' W → (convert 22 9 s).run Try.prog W = .ok (.string (strOf l)) W := fun W hW =>
  owns_str h W (fun g _ hg => hW.block g hg)

theorem dlen16 {v : Nat} (hv : v < P64 ^ 16) : dlen 65536 v ≤ 64 := by
  refine dlen_le (by omega) ?_
  have e : (65536 : Nat) ^ 64 = P64 ^ 16 := by
    rw [P64_16, p16]
  rw [e]; exact hv

theorem natA_lit (v : Nat) : (#[.int .u64 (dgt P64 v 0 : Nat), .int .u64 (dgt P64 v 1 : Nat), .int .u64 (dgt P64 v 2 : Nat), .int .u64 (dgt P64 v 3 : Nat), .int .u64 (dgt P64 v 4 : Nat), .int .u64 (dgt P64 v 5 : Nat), .int .u64 (dgt P64 v 6 : Nat), .int .u64 (dgt P64 v 7 : Nat), .int .u64 (dgt P64 v 8 : Nat), .int .u64 (dgt P64 v 9 : Nat), .int .u64 (dgt P64 v 10 : Nat), .int .u64 (dgt P64 v 11 : Nat), .int .u64 (dgt P64 v 12 : Nat), .int .u64 (dgt P64 v 13 : Nat), .int .u64 (dgt P64 v 14 : Nat), .int .u64 (dgt P64 v 15 : Nat)] : Array Value) = natA v := by
  refine Array.ext (by rw [natA_size]; rfl) fun i h1 h2 => ?_
  rw [natA_getElem]
  have h3 : i < 16 := h1
  rcases (by omega : i = 0 ∨ i = 1 ∨ i = 2 ∨ i = 3 ∨ i = 4 ∨ i = 5 ∨ i = 6 ∨ i = 7 ∨ i = 8 ∨ i = 9 ∨ i = 10 ∨ i = 11 ∨ i = 12 ∨ i = 13 ∨ i = 14 ∨ i = 15) with rfl | rfl | rfl | rfl | rfl | rfl | rfl | rfl | rfl | rfl | rfl | rfl | rfl | rfl | rfl | rfl <;> rfl

end Go.Proofs.Ytlmfiggmjpjpiaa

namespace Go.Proofs.Ytlmfiggmjpjpiaa
open Go.RowKit

/-- The carry into digit k of a number moved by r bits. -/
def shC (v r k : Nat) : Nat := (v % 65536 ^ k) * 2 ^ r / 65536 ^ k

theorem shC_zero (v r : Nat) : shC v r 0 = 0 := by unfold shC; simp [Nat.mod_one]

theorem sh_step (v r k : Nat) : dgt 65536 v k * 2 ^ r + shC v r k = dgt 65536 (v * 2 ^ r) k + 65536 * shC v r (k + 1) := by
  have hP : 0 < 65536 ^ k := Nat.pow_pos (by omega)
  unfold shC dgt
  rw [Nat.pow_succ]
  generalize 65536 ^ k = P at *
  generalize 2 ^ r = T at *
  have h1 : v % (P * 65536) = v % P + P * (v / P % 65536) := Nat.mod_mul
  have h2 : v = v % (P * 65536) + P * 65536 * (v / (P * 65536)) := (Nat.mod_add_div _ _).symm
  have h3 : v * T / P = v % (P * 65536) * T / P + 65536 * (v / (P * 65536) * T) := by
    conv => lhs; rw [h2]
    rw [Nat.add_mul, show P * 65536 * (v / (P * 65536)) * T = P * (65536 * (v / (P * 65536) * T)) by simp only [Nat.mul_assoc], Nat.add_mul_div_left _ _ hP]
  have h4 : v % (P * 65536) * T / P = v % P * T / P + v / P % 65536 * T := by
    rw [h1, Nat.add_mul, Nat.mul_assoc, Nat.add_mul_div_left _ _ hP]
  have h5 : v % (P * 65536) * T / (P * 65536) = (v % P * T / P + v / P % 65536 * T) / 65536 := by rw [← Nat.div_div_eq_div_mul, h4]
  rw [h3, h4, h5]
  generalize v % P * T / P = X
  generalize v / P % 65536 * T = Y
  generalize v / (P * 65536) * T = Z
  omega

theorem shC_lt (v r k : Nat) : shC v r k < 2 ^ r := by
  unfold shC
  have hP : 0 < 65536 ^ k := Nat.pow_pos (by omega)
  rw [Nat.div_lt_iff_lt_mul hP, Nat.mul_comm]
  exact Nat.mul_lt_mul_of_pos_left (Nat.mod_lt _ hP) (Nat.two_pow_pos r)

theorem sh_done {v r k : Nat} (hv : v < 65536 ^ k) (h : shC v r k = 0) : v * 2 ^ r < 65536 ^ k := by
  unfold shC at h
  rw [Nat.mod_eq_of_lt hv] at h
  rcases Nat.div_eq_zero_iff.1 h with h | h
  · exact absurd h (Nat.ne_of_gt (Nat.pow_pos (by omega)))
  · exact h
theorem shC_end {v r N : Nat} (hv : v < 65536 ^ N) (hr : r < 16) : shC v r (N + 1) = 0 := by
  unfold shC
  have e : (65536 : Nat) ^ (N + 1) = 65536 ^ N * 65536 := Nat.pow_succ ..
  have h2 : 2 ^ r ≤ 2 ^ 16 := Nat.pow_le_pow_right (by omega) (by omega)
  have h3 : (2 : Nat) ^ 16 = 65536 := by decide
  rw [Nat.mod_eq_of_lt (by omega), e]
  refine Nat.div_eq_of_lt ?_
  have := Nat.mul_le_mul_left v (h3 ▸ h2)
  have := Nat.mul_lt_mul_of_pos_right hv (show 0 < 65536 by omega)
  omega

/-- The digits of a number moved by q digits more. -/
theorem dgt_up (V q k : Nat) : dgt 65536 (V * 65536 ^ q) (q + k) = dgt 65536 V k := by
  unfold dgt
  rw [Nat.pow_add, ← Nat.div_div_eq_div_mul, Nat.mul_div_cancel _ (Nat.pow_pos (by omega))]
theorem dgt_low (V q k : Nat) (h : k < q) : dgt 65536 (V * 65536 ^ q) k = 0 := by
  unfold dgt
  obtain ⟨j, rfl⟩ : ∃ j, q = k + (j + 1) := ⟨q - k - 1, by omega⟩
  rw [Nat.pow_add, show V * (65536 ^ k * 65536 ^ (j + 1)) = 65536 ^ k * (V * 65536 ^ (j + 1)) by
    rw [← Nat.mul_assoc, Nat.mul_comm V, Nat.mul_assoc], Nat.mul_div_cancel_left _ (Nat.pow_pos (by omega)), Nat.pow_succ, ← Nat.mul_assoc, Nat.mul_mod_left]
theorem two_pow_16 (n : Nat) : (2 : Nat) ^ n = 2 ^ (n % 16) * 65536 ^ (n / 16) := by
  rw [show (65536 : Nat) = 2 ^ 16 by decide, ← Nat.pow_mul, ← Nat.pow_add]
  congr 1
  omega
theorem dcells_low (V q : Nat) : dcells (V * 65536 ^ q) q = List.replicate q (.int .i64 0) := by
  unfold dcells
  refine List.ext_getElem (by simp) fun i h1 h2 => ?_
  simp at h1
  simp [dgt_low V q i h1]

theorem made_zero (q : Nat) : (madeCells #[Value.int .i64 0] q).toList = List.replicate q (.int .i64 0) := by
  unfold madeCells
  refine List.ext_getElem (by simp) fun i h1 h2 => ?_
  simp [Nat.mod_one]
theorem wrap_id {z : Int} (h0 : -9223372036854775808 ≤ z) (h1 : z ≤ 9223372036854775807) : wrap64 z = z := by
  unfold wrap64
  omega

end Go.Proofs.Ytlmfiggmjpjpiaa

namespace Go.Proofs.Ytlmfiggmjpjpiaa
open Go.RowKit

theorem add_digits (v u k x y cy : Nat) (hx : dgt 65536 v k = x) (hy : dgt 65536 u k = y) (hc : addC 65536 v u k = cy) :
    (x + y + cy) % 65536 = dgt 65536 (v + u) k ∧ (x + y + cy) / 65536 = addC 65536 v u (k + 1) ∧ cy ≤ 1 := by
  have h := addC_step (show 0 < 65536 by omega) v u k
  have h1 := d16_lt (v + u) k
  have h2 := addC_le (show 0 < 65536 by omega) v u k
  rw [hx, hy, hc] at h
  rw [hc] at h2
  omega
theorem addC_end {v u N : Nat} (hv : v < 65536 ^ N) (hu : u < 65536 ^ N) : addC 65536 v u (N + 1) = 0 := by
  have e : (65536 : Nat) ^ (N + 1) = 65536 ^ N * 65536 := Nat.pow_succ ..
  rw [addC_top (by omega) (by omega)]
  exact Nat.div_eq_of_lt (by omega)
theorem add_done {v u k : Nat} (hv : v < 65536 ^ k) (hu : u < 65536 ^ k) (h : addC 65536 v u k = 0) : v + u < 65536 ^ k := by
  rw [addC_top hv hu] at h
  rcases Nat.div_eq_zero_iff.1 h with h | h
  · exact absurd h (Nat.ne_of_gt (Nat.pow_pos (by omega)))
  · exact h

set_option maxRecDepth 100000 in
set_option maxHeartbeats 1000000 in
theorem radd_any (v u n m : Nat) (s t : Value) (w : World) (hs : DigN v n s w) (ht : DigN u m t w) (hn : n ≤ 1000000) (hm : m ≤ 1000000) :
    Calls Try.prog 44 #[s, t] w fun e w' => ∃ r, e = .returned r ∧ RefN (v + u) r w' ∧ Below w.heap.size w w' := by
  obtain ⟨i0, hi, hz0, hz1, hz2⟩ := info_parts Try.info3
  have HS := Lib.hid hs
  have HT := Lib.hid ht
  have HV0 := Lib.hid hs.1
  have HU0 := Lib.hid ht.1
  obtain ⟨N, hnN, hmN, hN⟩ : ∃ N, n ≤ N ∧ m ≤ N ∧ N ≤ 1000000 := ⟨max n m, by omega, by omega, by omega⟩
  have HV := Lib.hid (show v < 65536 ^ N from Nat.lt_of_lt_of_le hs.1 (Nat.pow_le_pow_right (by omega) hnN))
  have HU := Lib.hid (show u < 65536 ^ N from Nat.lt_of_lt_of_le ht.1 (Nat.pow_le_pow_right (by omega) hmN))
  obtain ⟨_, a, c, rfl, h2, h3, h4⟩ := hs
  obtain ⟨_, a', c', rfl, h2', h3', h4'⟩ := ht
  clear h4 h4' h2 h2' h3 h3'
  rename_i hx1 hx2
  clear hx1 hx2
  go_enter Try.func44, Try.ntmps44
  go_wp2_with fail
  go_loopw [5, 6, 7] (fun x q i wr => ∃ k cy : Nat, k ≤ N + 1 ∧ addC 65536 v u k = cy ∧ q = .int .i64 (cy : Nat) ∧ i = .int .i64 (k : Nat) ∧ wr.ownsRow w.heap.size 3 1 x k (dcells (v + u) k) ∧ Below w.heap.size w wr)
    (fun _ _ i _ => N + 1 - (intOf i).toNat)
  case atStart => exact ⟨0, 0, by omega, addC_zero _ _ _, rfl, rfl, World.ownsRow_nil _ _ _ _, Below.refl _ _⟩
  case round =>
    obtain ⟨k, cy, hk, hcy, rfl, rfl, hown, hbel⟩ := hrel
    have hsz := hbel.size
    have HCY := Lib.hid hcy
    clear hcy
    by_cases hgo : k < n ∨ k < m ∨ 0 < cy
    · have hkN : k ≤ N := by
        rcases Nat.lt_or_ge N k with h | h
        · have hkk : k = N + 1 := by omega
          have h0 := addC_end HV.out HU.out
          rw [← hkk, HCY.out] at h0
          omega
        · exact h
      obtain ⟨x, hx⟩ : ∃ x, dgt 65536 v k = x := ⟨_, rfl⟩
      obtain ⟨y, hy⟩ : ∃ y, dgt 65536 u k = y := ⟨_, rfl⟩
      obtain ⟨hd1, hd2, hcy1⟩ := add_digits v u k x y cy hx hy HCY.out
      have hxl := d16_lt v k
      have hyl := d16_lt u k
      have HDk := Lib.hid (digit_any v n k _ wr (HS.out.kept hbel) (by omega))
      have HEk := Lib.hid (digit_any u m k _ wr (HT.out.kept hbel) (by omega))
      rw [hx] at hxl HDk
      rw [hy] at hyl HEk
      have HD1 := Lib.hid hd1
      have HD2 := Lib.hid hd2
      clear hx hy hd1 hd2
      by_cases h1 : k < n
      · clear hgo
        go_wp2_with (first
          | (go_at_call_of 64 (Value.slice a n c); refine HDk.out.mono ?_; rintro e w2 ⟨rfl, hw⟩; subst hw)
          | (go_at_call_of 64 (Value.slice a' m c'); refine HEk.out.mono ?_; rintro e w2 ⟨rfl, hw⟩; subst hw)
          | (at_builtin; refine wpList_append_own _ rfl _ _ 34 rfl w.heap.size 3 i0 (.int .i64 0) 1 8 Try.underlying34 hi hz0 hz1 hz2 rfl (by decide) _ _ _ rfl (hown.alloc _) ⟨w2.heap.size, 0, none⟩ 1 1 [.int .i64 (((x : Int) + (y : Int) + (cy : Int)) % 65536)] rfl rfl (cell_one_new _ _ _) (fun x hx => by simp at hx; subst hx; rfl) (by unfold maxLen; omega) (by omega) (by simp; omega) ?_; intro v' w3 hown' hgrow3 hnil3))
        refine ⟨⟨k + 1, (x + y + cy) / 65536, by omega, HD2.out.symm, congrArg (Value.int .i64) (by omega), rfl, ?_, (hbel.alloc hsz _).grown hgrow3 (by simp; omega) (fun j hj => (hown.lt j hj).1)⟩, by simp [intOf] <;> omega⟩
        rw [dcells_succ, ← HD1.out, show (((x + y + cy) % 65536 : Nat) : Int) = ((x : Int) + (y : Int) + (cy : Int)) % 65536 by omega]
        exact hown'
      · by_cases h2 : k < m
        · clear hgo
          go_wp2_with (first
            | (go_at_call_of 64 (Value.slice a n c); refine HDk.out.mono ?_; rintro e w2 ⟨rfl, hw⟩; subst hw)
            | (go_at_call_of 64 (Value.slice a' m c'); refine HEk.out.mono ?_; rintro e w2 ⟨rfl, hw⟩; subst hw)
            | (at_builtin; refine wpList_append_own _ rfl _ _ 34 rfl w.heap.size 3 i0 (.int .i64 0) 1 8 Try.underlying34 hi hz0 hz1 hz2 rfl (by decide) _ _ _ rfl (hown.alloc _) ⟨w2.heap.size, 0, none⟩ 1 1 [.int .i64 (((x : Int) + (y : Int) + (cy : Int)) % 65536)] rfl rfl (cell_one_new _ _ _) (fun x hx => by simp at hx; subst hx; rfl) (by unfold maxLen; omega) (by omega) (by simp; omega) ?_; intro v' w3 hown' hgrow3 hnil3))
          refine ⟨⟨k + 1, (x + y + cy) / 65536, by omega, HD2.out.symm, congrArg (Value.int .i64) (by omega), rfl, ?_, (hbel.alloc hsz _).grown hgrow3 (by simp; omega) (fun j hj => (hown.lt j hj).1)⟩, by simp [intOf] <;> omega⟩
          rw [dcells_succ, ← HD1.out, show (((x + y + cy) % 65536 : Nat) : Int) = ((x : Int) + (y : Int) + (cy : Int)) % 65536 by omega]
          exact hown'
        · have h3 : 0 < cy := by omega
          clear hgo
          go_wp2_with (first
            | (go_at_call_of 64 (Value.slice a n c); refine HDk.out.mono ?_; rintro e w2 ⟨rfl, hw⟩; subst hw)
            | (go_at_call_of 64 (Value.slice a' m c'); refine HEk.out.mono ?_; rintro e w2 ⟨rfl, hw⟩; subst hw)
            | (at_builtin; refine wpList_append_own _ rfl _ _ 34 rfl w.heap.size 3 i0 (.int .i64 0) 1 8 Try.underlying34 hi hz0 hz1 hz2 rfl (by decide) _ _ _ rfl (hown.alloc _) ⟨w2.heap.size, 0, none⟩ 1 1 [.int .i64 (((x : Int) + (y : Int) + (cy : Int)) % 65536)] rfl rfl (cell_one_new _ _ _) (fun x hx => by simp at hx; subst hx; rfl) (by unfold maxLen; omega) (by omega) (by simp; omega) ?_; intro v' w3 hown' hgrow3 hnil3))
          refine ⟨⟨k + 1, (x + y + cy) / 65536, by omega, HD2.out.symm, congrArg (Value.int .i64) (by omega), rfl, ?_, (hbel.alloc hsz _).grown hgrow3 (by simp; omega) (fun j hj => (hown.lt j hj).1)⟩, by simp [intOf] <;> omega⟩
          rw [dcells_succ, ← HD1.out, show (((x + y + cy) % 65536 : Nat) : Int) = ((x : Int) + (y : Int) + (cy : Int)) % 65536 by omega]
          exact hown'
    · have h1 : ¬ k < n := by omega
      have h2 : ¬ k < m := by omega
      obtain rfl : cy = 0 := by omega
      have HDone := Lib.hid (add_done (Nat.lt_of_lt_of_le HV0.out (Nat.pow_le_pow_right (by omega) (by omega : n ≤ k))) (Nat.lt_of_lt_of_le HU0.out (Nat.pow_le_pow_right (by omega) (by omega : m ≤ k))) HCY.out)
      clear hgo
      go_wp2_with fail
      refine (trim_any _ k _ wr (digN_owns hown HDone.out)).mono ?_
      rintro e w2 ⟨s', rfl, hR, rfl⟩
      go_wp2_with fail
      go_ret
      exact ⟨_, rfl, hR, hbel⟩
end Go.Proofs.Ytlmfiggmjpjpiaa

namespace Go.Proofs.Ytlmfiggmjpjpiaa
open Go.RowKit

theorem sub_digits (v u k x y cy : Nat) (h : u ≤ v) (hx : dgt 65536 v k = x) (hy : dgt 65536 u k = y) (hc : addC 65536 (v - u) u k = cy) :
    dgt 65536 (v - u) k + y + cy = x + 65536 * addC 65536 (v - u) u (k + 1) ∧ dgt 65536 (v - u) k < 65536 ∧ cy ≤ 1 ∧ addC 65536 (v - u) u (k + 1) ≤ 1 := by
  have h1 := addC_step (show 0 < 65536 by omega) (v - u) u k
  rw [Nat.sub_add_cancel h, hx, hy, hc] at h1
  have h2 := addC_le (show 0 < 65536 by omega) (v - u) u k
  rw [hc] at h2
  exact ⟨h1, d16_lt _ _, h2, addC_le (by omega) _ _ _⟩

set_option maxRecDepth 100000 in
set_option maxHeartbeats 1000000 in
theorem rsub_any (v u n m : Nat) (s t : Value) (w : World) (hs : DigN v n s w) (ht : DigN u m t w) (hn : n ≤ 1000000) (hle : u ≤ v) :
    Calls Try.prog 45 #[s, t] w fun e w' => ∃ r, e = .returned r ∧ RefN (v - u) r w' ∧ Below w.heap.size w w' := by
  obtain ⟨i0, hi, hz0, hz1, hz2⟩ := info_parts Try.info3
  have HS := Lib.hid hs
  have HT := Lib.hid ht
  have HV := Lib.hid hs.1
  have HLE := Lib.hid hle
  obtain ⟨hx1, a, c, rfl, h2, h3, h4⟩ := hs
  obtain ⟨hx2, a', c', rfl, h2', h3', h4'⟩ := ht
  clear h4 h4' h2 h2' h3 h3' hx1 hx2 hle
  go_enter Try.func45, Try.ntmps45
  go_wp2_with fail
  go_loopw [5, 6, 7] (fun x q i wr => ∃ k cy : Nat, k ≤ n ∧ addC 65536 (v - u) u k = cy ∧ q = .int .i64 (cy : Nat) ∧ i = .int .i64 (k : Nat) ∧ wr.ownsRow w.heap.size 3 1 x k (dcells (v - u) k) ∧ Below w.heap.size w wr)
    (fun _ _ i _ => n - (intOf i).toNat)
  case atStart => exact ⟨0, 0, by omega, addC_zero _ _ _, rfl, rfl, World.ownsRow_nil _ _ _ _, Below.refl _ _⟩
  case round =>
    obtain ⟨k, cy, hk, hcy, rfl, rfl, hown, hbel⟩ := hrel
    have hsz := hbel.size
    have HCY := Lib.hid hcy
    clear hcy
    by_cases h1 : k < n
    · obtain ⟨x, hx⟩ : ∃ x, dgt 65536 v k = x := ⟨_, rfl⟩
      obtain ⟨y, hy⟩ : ∃ y, dgt 65536 u k = y := ⟨_, rfl⟩
      obtain ⟨hd1, hd2, hcy1, hcy2⟩ := sub_digits v u k x y cy HLE.out hx hy HCY.out
      have hxl := d16_lt v k
      have hyl := d16_lt u k
      have HDk := Lib.hid (digit_any v n k _ wr (HS.out.kept hbel) (by omega))
      have HEk := Lib.hid (digit_any u m k _ wr (HT.out.kept hbel) (by omega))
      rw [hx] at hxl HDk
      rw [hy] at hyl HEk
      by_cases hneg : x < y + cy
      · have HD2 := Lib.hid (show addC 65536 (v - u) u (k + 1) = 1 by omega)
        have HD1 := Lib.hid (show dgt 65536 (v - u) k + y + cy = x + 65536 by omega)
        clear hx hy hd1 hd2 hcy2
        go_wp2_with (first
          | (go_at_call_of 64 (Value.slice a n c); refine HDk.out.mono ?_; rintro e w2 ⟨rfl, hw⟩; subst hw)
          | (go_at_call_of 64 (Value.slice a' m c'); refine HEk.out.mono ?_; rintro e w2 ⟨rfl, hw⟩; subst hw)
          | (at_builtin; refine wpList_append_own _ rfl _ _ 34 rfl w.heap.size 3 i0 (.int .i64 0) 1 8 Try.underlying34 hi hz0 hz1 hz2 rfl (by decide) _ _ _ rfl (hown.alloc _) ⟨w2.heap.size, 0, none⟩ 1 1 [.int .i64 ((x : Int) - (y : Int) - (cy : Int) + 65536)] rfl rfl (cell_one_new _ _ _) (fun x hx => by simp at hx; subst hx; rfl) (by unfold maxLen; omega) (by omega) (by simp; omega) ?_; intro v' w3 hown' hgrow3 hnil3))
        refine ⟨⟨k + 1, 1, by omega, HD2.out, by first | rfl | omega, rfl, ?_, (hbel.alloc hsz _).grown hgrow3 (by simp; omega) (fun j hj => (hown.lt j hj).1)⟩, by simp [intOf] <;> omega⟩
        rw [dcells_succ, show ((dgt 65536 (v - u) k : Nat) : Int) = (x : Int) - (y : Int) - (cy : Int) + 65536 by have := HD1.out; omega]
        exact hown'
      · have HD2 := Lib.hid (show addC 65536 (v - u) u (k + 1) = 0 by omega)
        have HD1 := Lib.hid (show dgt 65536 (v - u) k + y + cy = x by omega)
        clear hx hy hd1 hd2 hcy2
        go_wp2_with (first
          | (go_at_call_of 64 (Value.slice a n c); refine HDk.out.mono ?_; rintro e w2 ⟨rfl, hw⟩; subst hw)
          | (go_at_call_of 64 (Value.slice a' m c'); refine HEk.out.mono ?_; rintro e w2 ⟨rfl, hw⟩; subst hw)
          | (at_builtin; refine wpList_append_own _ rfl _ _ 34 rfl w.heap.size 3 i0 (.int .i64 0) 1 8 Try.underlying34 hi hz0 hz1 hz2 rfl (by decide) _ _ _ rfl (hown.alloc _) ⟨w2.heap.size, 0, none⟩ 1 1 [.int .i64 ((x : Int) - (y : Int) - (cy : Int))] rfl rfl (cell_one_new _ _ _) (fun x hx => by simp at hx; subst hx; rfl) (by unfold maxLen; omega) (by omega) (by simp; omega) ?_; intro v' w3 hown' hgrow3 hnil3))
        refine ⟨⟨k + 1, 0, by omega, HD2.out, by first | rfl | omega, rfl, ?_, (hbel.alloc hsz _).grown hgrow3 (by simp; omega) (fun j hj => (hown.lt j hj).1)⟩, by simp [intOf] <;> omega⟩
        rw [dcells_succ, show ((dgt 65536 (v - u) k : Nat) : Int) = (x : Int) - (y : Int) - (cy : Int) by have := HD1.out; omega]
        exact hown'
    · obtain rfl : k = n := by omega
      have HDone := Lib.hid (show v - u < 65536 ^ k from Nat.lt_of_le_of_lt (Nat.sub_le _ _) HV.out)
      go_wp2_with fail
      refine (trim_any _ k _ wr (digN_owns hown HDone.out)).mono ?_
      rintro e w2 ⟨s', rfl, hR, rfl⟩
      go_wp2_with fail
      go_ret
      exact ⟨_, rfl, hR, hbel⟩
end Go.Proofs.Ytlmfiggmjpjpiaa

namespace Go.Proofs.Ytlmfiggmjpjpiaa
open Go.RowKit

/-- What comparing digit by digit comes to. -/
theorem cmp16 (v u k : Nat) (n : Nat) (hv : v < 65536 ^ n) (hu : u < 65536 ^ n) (hk : k < n) (hz : ∀ j, k < j → j < n → dgt 65536 v j = dgt 65536 u j) :
    (dgt 65536 v k < dgt 65536 u k → cmpN v u = -1) ∧ (dgt 65536 u k < dgt 65536 v k → cmpN v u = 1) := by
  constructor
  · intro h
    have := lt_of_dgt (by omega) hv hu hk hz h
    unfold cmpN
    rw [if_pos this]
  · intro h
    have := lt_of_dgt (by omega) hu hv hk (fun j h1 h2 => (hz j h1 h2).symm) h
    unfold cmpN
    rw [if_neg (by omega), if_pos this]

set_option maxRecDepth 100000 in
set_option maxHeartbeats 400000 in
theorem rcompare_any (v u n m : Nat) (s t : Value) (w : World) (hs : DigN v n s w) (ht : DigN u m t w) (hn : n ≤ 100000000) (hm : m ≤ 100000000) :
    Calls Try.prog 52 #[s, t] w fun e w' => e = .returned (.int .i64 (cmpN v u)) ∧ w' = w := by
  have HS := Lib.hid hs
  have HT := Lib.hid ht
  have HD := Lib.hid (fun (i : Nat) (hi : i ≤ 9223372036854775807) => digit_any v n i s w hs hi)
  have HE := Lib.hid (fun (i : Nat) (hi : i ≤ 9223372036854775807) => digit_any u m i t w ht hi)
  have HV := Lib.hid (show v < 65536 ^ (max n m) from Nat.lt_of_lt_of_le hs.1 (Nat.pow_le_pow_right (by omega) (by omega)))
  have HU := Lib.hid (show u < 65536 ^ (max n m) from Nat.lt_of_lt_of_le ht.1 (Nat.pow_le_pow_right (by omega) (by omega)))
  obtain ⟨_, a, c, rfl, h2, h3, h4⟩ := hs
  obtain ⟨_, a', c', rfl, h2', h3', h4'⟩ := ht
  clear h4 h4' h2 h2' h3 h3'
  have hmax : max (n : Int) (m : Int) = ((max n m : Nat) : Int) := by omega
  obtain ⟨N, hN⟩ : ∃ N, max n m = N := ⟨_, rfl⟩
  have hN1 : N ≤ 100000000 := by omega
  rw [hN] at hmax HV HU
  clear hN
  go_enter Try.func52, Try.ntmps52
  go_wp2_with fail
  go_loop [5] (fun x => ∃ i : Nat, i ≤ N ∧ x = .int .i64 ((i : Int) - 1) ∧ ∀ j, i ≤ j → j < N → dgt 65536 v j = dgt 65536 u j) (fun x => (intOf x + 1).toNat)
  case atStart => exact ⟨N, Nat.le_refl _, by simp, fun j h1 h2 => by omega⟩
  case round =>
    obtain ⟨i, hi, rfl, hz⟩ := hrel
    have HZ := Lib.hid hz
    clear hz
    by_cases h0 : 0 < i
    · obtain ⟨k, rfl⟩ : ∃ k, i = k + 1 := ⟨i - 1, by omega⟩
      rw [show ((k + 1 : Nat) : Int) - 1 = (k : Nat) by omega]
      have hC := cmp16 v u k N HV.out HU.out (by omega) (fun j h1 h2 => HZ.out j (by omega) h2)
      have HC := Lib.hid hC
      clear hC
      have HDk := Lib.hid (HD.out k (by omega))
      have HEk := Lib.hid (HE.out k (by omega))
      have hd1 := d16_lt v k
      have hd2 := d16_lt u k
      obtain ⟨x, hx⟩ : ∃ x, dgt 65536 v k = x := ⟨_, rfl⟩
      obtain ⟨y, hy⟩ : ∃ y, dgt 65536 u k = y := ⟨_, rfl⟩
      have HX := Lib.hid hx
      have HY := Lib.hid hy
      rw [hx] at HC HDk hd1
      rw [hy] at HC HEk hd2
      clear hx hy
      go_wp2_with (first
        | (go_at_call_of 64 (Value.slice a n c); refine HDk.out.mono ?_; rintro e w2 ⟨rfl, hw⟩; subst hw)
        | (go_at_call_of 64 (Value.slice a' m c'); refine HEk.out.mono ?_; rintro e w2 ⟨rfl, hw⟩; subst hw))
      · have hlt : x < y := by assumption
        go_ret
        refine ⟨ret_eq (congrArg (Value.int .i64) ?_), rfl⟩
        exact (HC.out.1 hlt).symm
      · have hlt : y < x := by assumption
        go_ret
        refine ⟨ret_eq (congrArg (Value.int .i64) ?_), rfl⟩
        exact (HC.out.2 hlt).symm
      · have h1 : ¬ x < y := by assumption
        have h2 : ¬ y < x := by assumption
        have he : dgt 65536 v k = dgt 65536 u k := by rw [HX.out, HY.out]; omega
        refine ⟨⟨k, by omega, rfl, fun j h1 h2 => ?_⟩, by simp [intOf]⟩
        by_cases e : j = k
        · subst e; exact he
        · exact HZ.out j (by omega) h2
    · obtain rfl : i = 0 := by omega
      go_wp2_with fail
      go_ret
      refine ⟨ret_eq (congrArg (Value.int .i64) ?_), rfl⟩
      have he : v = u := dgt_ext (by omega) N HV.out HU.out (fun j hj => HZ.out j (Nat.zero_le _) hj)
      unfold cmpN
      rw [if_neg (by omega), if_neg (by omega)]
end Go.Proofs.Ytlmfiggmjpjpiaa
