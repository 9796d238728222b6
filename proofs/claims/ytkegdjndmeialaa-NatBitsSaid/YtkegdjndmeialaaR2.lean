/- What the reference makes: a number of an int, a number of bytes. -/
import Derived.Test.YtkegdjndmeialaaR1
namespace Go.Proofs.Ytkegdjndmeialaa
open Go.RowKit

theorem Try.info3 : (Try.prog.info? 3).map (fun i => (i.zero, i.size, i.bytes)) = some (some (.int .i64 0), 1, 8) := by kernel_rfl

/-- The first n digits, as cells. -/
def dcells (v n : Nat) : List Value := (List.range n).map fun j => .int .i64 (dgt 65536 v j : Nat)
theorem dcells_length (v n : Nat) : (dcells v n).length = n := by simp [dcells]
theorem dcells_succ (v n : Nat) : dcells v (n + 1) = dcells v n ++ [.int .i64 (dgt 65536 v n : Nat)] := by simp [dcells, List.range_succ]

theorem digN_owns {v n base : Nat} {s : Value} {W : World} (h : W.ownsRow base 3 1 s n (dcells v n)) (hv : v < 65536 ^ n) : DigN v n s W := by
  obtain ⟨_, h2⟩ := h
  refine ⟨hv, ?_⟩
  rcases h2 with ⟨rfl, rfl⟩ | ⟨g, cap, cur, rfl, hb, hg, hn, hc, hs, ht⟩
  · exact ⟨none, 0, rfl, Nat.le_refl _, by decide, .inl rfl⟩
  · refine ⟨_, cap, rfl, hn, hc, .inr ⟨g, 0, rfl, (Array.getElem?_eq_some_iff.1 hg).1, fun j hj => ?_⟩⟩
    rw [Nat.zero_add, cell_of_row W g j cur 3 (0, 0) hg]
    have e : (cur.toList.take (n * 1))[j]? = cur[j]? := by
      rw [List.getElem?_take, if_pos (by omega), Array.getElem?_toList]
    rw [← e, ht]
    simp [dcells, hj]

theorem dgt_next (x k : Nat) : x / 65536 ^ k % 65536 = dgt 65536 x k ∧ x / 65536 ^ k / 65536 = x / 65536 ^ (k + 1) := ⟨rfl, by rw [Nat.div_div_eq_div_mul, ← Nat.pow_succ]⟩

theorem pow_k {x k : Nat} (hx : x ≤ 9223372036854775807) (h : k = 0 ∨ 65536 ^ (k - 1) ≤ x) : k ≤ 4 := by
  rcases h with rfl | h
  · omega
  · rcases Nat.lt_or_ge 4 k with hk | hk
    · have := Nat.pow_le_pow_right (n := 65536) (by omega) (show 4 ≤ k - 1 by omega)
      omega
    · exact hk

set_option maxRecDepth 100000 in
set_option maxHeartbeats 800000 in
theorem rof_any (x : Nat) (hx : x ≤ 9223372036854775807) (w : World) : Calls Try.prog 22 #[.int .i64 (x : Nat)] w fun e w' => ∃ s, e = .returned s ∧ RefN x s w' ∧ Below w.heap.size w w' := by
  obtain ⟨i0, hi, hz0, hz1, hz2⟩ := info_parts Try.info3
  go_enter Try.func22, Try.ntmps22
  go_wp2_with fail
  go_loopw [0, 3] (fun s v wr => ∃ k q : Nat, x / 65536 ^ k = q ∧ q ≤ x ∧ k ≤ 4 ∧ (k = 0 ∨ 65536 ^ (k - 1) ≤ x) ∧ s = .int .i64 (q : Nat) ∧ wr.ownsRow w.heap.size 3 1 v k (dcells x k) ∧ Below w.heap.size w wr)
    (fun s _ _ => (intOf s).toNat)
  case atStart => exact ⟨0, x, by simp, Nat.le_refl _, by omega, .inl rfl, rfl, World.ownsRow_nil _ _ _ _, Below.refl _ _⟩
  case round =>
    obtain ⟨k, q, hq, hqx, hk4, hk, rfl, hown, hbel⟩ := hrel
    obtain ⟨hn1, hn2⟩ := dgt_next x k
    rw [hq] at hn1 hn2
    have HQ := Lib.hid hq
    have HN1 := Lib.hid hn1
    have HN2 := Lib.hid hn2
    have HK := Lib.hid hk
    clear hq hn1 hn2 hk
    have hsz := hbel.size
    go_wp2_with (first
      | (at_builtin; refine wpList_append_own _ rfl _ _ 32 rfl w.heap.size 3 i0 (.int .i64 0) 1 8 Try.underlying32 hi hz0 hz1 hz2 rfl (by decide) _ _ _ rfl (hown.alloc _) ⟨wr.heap.size, 0, none⟩ 1 1 [.int .i64 ((q : Int) % 65536)] rfl rfl (cell_one_new _ _ _) (fun x hx => by simp at hx; subst hx; rfl) (by unfold maxLen; omega) (by omega) (by simp; omega) ?_; intro v' w3 hown' hgrow3 hnil3))
    · have hq0 : 0 < q := by assumption
      have hpow : 65536 ^ k ≤ x := by
        rcases Nat.lt_or_ge x (65536 ^ k) with h | h
        · have := Nat.div_eq_of_lt h
          have := HQ.out
          omega
        · exact h
      have hk1 := pow_k hx (k := k + 1) (.inr (by simpa using hpow))
      refine ⟨⟨k + 1, q / 65536, HN2.out.symm, by omega, hk1, .inr (by simpa using hpow), by rw [Int.natCast_ediv]; rfl, ?_, (hbel.alloc hsz _).grown hgrow3 (by simp; omega) (fun j hj => (hown.lt j hj).1)⟩, by simp [intOf]; omega⟩
      rw [dcells_succ, ← HN1.out, Int.natCast_emod]
      exact hown'
    · have hq0 : ¬ 0 < q := by assumption
      have hlt : x < 65536 ^ k := by
        rcases Nat.lt_or_ge x (65536 ^ k) with h | h
        · exact h
        · have := Nat.div_pos h (Nat.pow_pos (show 0 < 65536 by omega))
          have := HQ.out
          omega
      go_ret
      refine ⟨_, rfl, ?_, hbel⟩
      unfold RefN
      rw [dlen_eq (by omega) hlt HK.out]
      exact digN_owns hown hlt

theorem valBE_append (B : Nat) (l1 l2 : List Nat) : valBE B (l1 ++ l2) = valBE B l1 * B ^ l2.length + valBE B l2 := by
  have h : valBE B (l1 ++ l2) = l2.foldl (fun a x => a * B + x) (valBE B l1) := by simp [valBE]
  rw [h, foldl_lin]
theorem take_step (zs : List Nat) (j : Nat) (hj : j < zs.length) : valBE 256 (zs.take (j + 1)) = valBE 256 (zs.take j) * 256 + zs.getD j 0 := by
  have h : zs.take (j + 1) = zs.take j ++ [zs.getD j 0] := by
    rw [List.take_add_one]; simp [List.getD, hj]
  rw [h, valBE_snoc]
theorem take_div (zs : List Nat) (h256 : ∀ x ∈ zs, x < 256) (m : Nat) (hm : m ≤ zs.length) : valBE 256 zs / 256 ^ m = valBE 256 (zs.take (zs.length - m)) := by
  have h := valBE_append 256 (zs.take (zs.length - m)) (zs.drop (zs.length - m))
  have hl : (zs.drop (zs.length - m)).length = m := by simp; omega
  have hlt := valBE_lt 256 (by omega) (zs.drop (zs.length - m)) (fun x hx => h256 x (List.mem_of_mem_drop hx))
  rw [List.take_append_drop, hl] at h
  rw [hl] at hlt
  rw [h, Nat.mul_comm, Nat.mul_add_div (Nat.pow_pos (by omega)), Nat.div_eq_of_lt hlt, Nat.add_zero]
theorem p16 (k : Nat) : (65536 : Nat) ^ k = 256 ^ (2 * k) := by rw [Nat.pow_mul]
/-- What From's loop comes to: the digits of the bytes, from the last one on. -/
theorem from_digit (zs : List Nat) (h256 : ∀ x ∈ zs, x < 256) (k i : Nat) (hk : i + 2 + 2 * k = zs.length) : dgt 65536 (valBE 256 zs) k = zs.getD (i + 1) 0 + 256 * zs.getD i 0 := by
  have h1 := take_div zs h256 (2 * k) (by omega)
  have h2 := take_step zs (i + 1) (by omega)
  have h3 := take_step zs i (by omega)
  have ha : zs.getD (i + 1) 0 < 256 := h256 _ (by rw [List.getD, List.getElem?_eq_getElem (by omega)]; exact List.getElem_mem _)
  have hb : zs.getD i 0 < 256 := h256 _ (by rw [List.getD, List.getElem?_eq_getElem (by omega)]; exact List.getElem_mem _)
  rw [show zs.length - 2 * k = i + 1 + 1 by omega, h2, h3] at h1
  unfold dgt
  rw [p16, h1]
  omega
theorem from_digit_odd (zs : List Nat) (h256 : ∀ x ∈ zs, x < 256) (k : Nat) (hk : 1 + 2 * k = zs.length) : dgt 65536 (valBE 256 zs) k = zs.getD 0 0 := by
  have h1 := take_div zs h256 (2 * k) (by omega)
  have h2 := take_step zs 0 (by omega)
  have ha : zs.getD 0 0 < 256 := h256 _ (by rw [List.getD, List.getElem?_eq_getElem (by omega)]; exact List.getElem_mem _)
  rw [show zs.length - 2 * k = 0 + 1 by omega, h2] at h1
  unfold dgt
  rw [p16, h1]
  simp [valBE]
  simp at ha
  omega
theorem from_all (zs : List Nat) (h256 : ∀ x ∈ zs, x < 256) (k : Nat) (hk : zs.length ≤ 2 * k) : valBE 256 zs < 65536 ^ k := by
  rw [p16]
  exact Nat.lt_of_lt_of_le (valBE_lt 256 (by omega) zs h256) (Nat.pow_le_pow_right (by omega) hk)

/-- A slice reads bytes. -/
def BytesAt (zs : List Nat) (s : Value) (w : World) : Prop :=
  (∀ x ∈ zs, x < 256) ∧ ∃ (a : Option Addr) (c : Nat), s = .slice a zs.length c ∧ zs.length ≤ c ∧
    (zs.length = 0 ∨ ∃ b off, a = some ⟨b, off, none⟩ ∧ b < w.heap.size ∧ ∀ j, j < zs.length → w.cell? ⟨b, off + j, none⟩ = some (.int .u8 (zs.getD j 0 : Nat)))
theorem BytesAt.kept {zs : List Nat} {s : Value} {W W' : World} (h : BytesAt zs s W) (hb : Below W.heap.size W W') : BytesAt zs s W' := by
  obtain ⟨h1, a, c, rfl, h2, h4⟩ := h
  refine ⟨h1, a, c, rfl, h2, ?_⟩
  rcases h4 with h4 | ⟨b, off, rfl, h5, h6⟩
  · exact .inl h4
  · exact .inr ⟨b, off, rfl, Nat.lt_of_lt_of_le h5 hb.size, fun j hj => by rw [(bcell hb).1 _ _ h5]; exact h6 j hj⟩

set_option maxRecDepth 100000 in
set_option maxHeartbeats 800000 in
theorem from_any (zs : List Nat) (s : Value) (w : World) (h : BytesAt zs s w) (hn : zs.length ≤ 1000000) :
    Calls Try.prog 13 #[s] w fun e w' => ∃ s, e = .returned s ∧ RefN (valBE 256 zs) s w' ∧ Below w.heap.size w w' := by
  obtain ⟨i0, hi, hz0, hz1, hz2⟩ := info_parts Try.info3
  obtain ⟨h256, a, c, rfl, hnc, hat⟩ := h
  obtain ⟨n, hz⟩ : ∃ n, zs.length = n := ⟨_, rfl⟩
  have HC := Lib.hid hat
  clear hat
  rw [hz] at HC hn hnc ⊢
  have HZ := Lib.hid hz
  have H256 := Lib.hid h256
  clear hz h256 hnc
  go_enter Try.func13, Try.ntmps13
  go_wp2_with fail
  go_loopw [3, 4] (fun v s wr => ∃ k : Nat, 2 * k ≤ n + 1 ∧ s = .int .i64 ((n : Int) - 1 - 2 * k) ∧ wr.ownsRow w.heap.size 3 1 v k (dcells (valBE 256 zs) k) ∧ Below w.heap.size w wr)
    (fun _ s _ => (intOf s + 1).toNat)
  case atStart => exact ⟨0, by omega, by simp, World.ownsRow_nil _ _ _ _, Below.refl _ _⟩
  case round =>
    obtain ⟨k, hk, rfl, hown, hbel⟩ := hrel
    have hsz := hbel.size
    by_cases h1 : n ≤ 2 * k
    · go_wp2_with fail
      have HA := Lib.hid (from_all zs H256.out k (by rw [HZ.out]; omega))
      refine (trim_any _ k u3 wr (digN_owns hown HA.out)).mono ?_
      rintro e w2 ⟨s', rfl, hR, rfl⟩
      go_wp2_with fail
      go_ret
      exact ⟨_, rfl, hR, hbel⟩
    · obtain ⟨i, hle, hge⟩ : ∃ i, n ≤ i + 1 + 2 * k ∧ i + 1 + 2 * k ≤ n := ⟨n - 1 - 2 * k, by omega, by omega⟩
      rcases HC.out with h0 | ⟨b, off, rfl, hblk, hcell⟩
      · omega
      have HCL := Lib.hid (fun j hj => by rw [(bcell hbel).1 _ _ hblk]; exact hcell j hj : ∀ j, j < n → wr.cell? ⟨b, off + j, none⟩ = some (.int .u8 (zs.getD j 0 : Nat)))
      clear hcell
      rw [show (n : Int) - 1 - 2 * k = ((i : Nat) : Int) by omega]
      by_cases hi0 : 0 < i
      · have hc0 := HCL.out i (by omega)
        have hc1 := HCL.out (i - 1) (by omega)
        have hd := from_digit zs H256.out k (i - 1) (by rw [HZ.out]; omega)
        rw [Nat.sub_add_cancel (by omega)] at hd
        have hx0 : zs.getD i 0 < 256 := H256.out _ (by rw [List.getD, List.getElem?_eq_getElem (by rw [HZ.out]; omega)]; exact List.getElem_mem _)
        have hx1 : zs.getD (i - 1) 0 < 256 := H256.out _ (by rw [List.getD, List.getElem?_eq_getElem (by rw [HZ.out]; omega)]; exact List.getElem_mem _)
        generalize zs.getD i 0 = x at *
        generalize zs.getD (i - 1) 0 = y at *
        have HDG := Lib.hid hd
        clear hd
        go_wp2_with (first
          | (at_builtin; refine wpList_append_own _ rfl _ _ 32 rfl w.heap.size 3 i0 (.int .i64 0) 1 8 Try.underlying32 hi hz0 hz1 hz2 rfl (by decide) _ _ _ rfl (hown.alloc _) ⟨wr.heap.size, 0, none⟩ 1 1 [.int .i64 ((x : Int) + 256 * (y : Int))] rfl rfl (cell_one_new _ _ _) (fun x hx => by simp at hx; subst hx; rfl) (by unfold maxLen; omega) (by omega) (by simp; omega) ?_; intro v' w3 hown' hgrow3 hnil3))
        refine ⟨⟨k + 1, by omega, congrArg (Value.int .i64) (by omega), ?_, (hbel.alloc hsz _).grown hgrow3 (by simp; omega) (fun j hj => (hown.lt j hj).1)⟩, by simp [intOf] <;> omega⟩
        rw [dcells_succ, HDG.out, Int.natCast_add, Int.natCast_mul]
        exact hown'
      · obtain rfl : i = 0 := by omega
        have hc0 := HCL.out 0 (by omega)
        rw [Nat.add_zero] at hc0
        have hd := from_digit_odd zs H256.out k (by rw [HZ.out]; omega)
        have hx0 : zs.getD 0 0 < 256 := H256.out _ (by rw [List.getD, List.getElem?_eq_getElem (by rw [HZ.out]; omega)]; exact List.getElem_mem _)
        generalize zs.getD 0 0 = x at *
        have HDG := Lib.hid hd
        clear hd
        go_wp2_with (first
          | (at_builtin; refine wpList_append_own _ rfl _ _ 32 rfl w.heap.size 3 i0 (.int .i64 0) 1 8 Try.underlying32 hi hz0 hz1 hz2 rfl (by decide) _ _ _ rfl (hown.alloc _) ⟨wr.heap.size, 0, none⟩ 1 1 [.int .i64 (x : Nat)] rfl rfl (cell_one_new _ _ _) (fun x hx => by simp at hx; subst hx; rfl) (by unfold maxLen; omega) (by omega) (by simp; omega) ?_; intro v' w3 hown' hgrow3 hnil3))
        refine ⟨⟨k + 1, by omega, congrArg (Value.int .i64) (by omega), ?_, (hbel.alloc hsz _).grown hgrow3 (by simp; omega) (fun j hj => (hown.lt j hj).1)⟩, by simp [intOf] <;> omega⟩
        rw [dcells_succ, HDG.out]
        exact hown'

theorem fromBytes_any (zs : List Nat) (s : Value) (w : World) (h : BytesAt zs s w) (hn : zs.length ≤ 1000000) :
    Calls Try.prog 12 #[s] w fun e w' => e = .returned (.tuple #[.agg (natA (fbV zs)), .int .i64 (fbE zs)]) ∧ Below w.heap.size w w' := by
  obtain ⟨h256, a, c, rfl, hnc, h0 | ⟨b, off, rfl, hb, hc⟩⟩ := h
  · have hz : zs = [] := List.length_eq_zero_iff.1 h0
    subst hz
    have h := fromBytes_nil a c w
    have e : fbV [] = 0 ∧ fbE [] = 0 := by
      have h2 : valBE 256 [] < P64 ^ 16 := p64_16_pos
      unfold fbV fbE
      exact ⟨if_pos h2, if_pos h2⟩
    rw [e.1, e.2]
    exact h
  · refine fromBytes_some b off zs.length c zs w rfl (fun j => ?_) (by omega) hnc hb hc
    by_cases hj : j < zs.length
    · exact h256 _ (by rw [List.getD, List.getElem?_eq_getElem hj]; exact List.getElem_mem _)
    · rw [List.getD, List.getElem?_eq_none (by omega)]; exact (by decide : (0 : Nat) < 256)
end Go.Proofs.Ytkegdjndmeialaa
