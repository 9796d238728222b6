/- Decrypting undoes encrypting, and the other way round; equal first blocks give equal first blocks (no program). -/
import Derived.Test.YtjcdbjapadgdfaaDoorCV
namespace Go.Proofs.YtjcdbjapadgdfaaDoor
open Go.RowKit Go.Shelf

theorem blkB_256 {l : List Nat} (h : ∀ x ∈ l, x < 256) (k : Nat) : ∀ x ∈ blkB l k, x < 256 := fun x hx => h x (List.mem_of_mem_drop (List.mem_of_mem_take hx))
theorem dF_congr {key iv : List Nat} {c c' : Nat → List Nat} {k : Nat} (h : ∀ q, q ≤ k → c q = c' q) : dF key iv c k = dF key iv c' k := by
  unfold dF
  rw [h k (Nat.le_refl _)]
  cases k with
  | zero => rfl
  | succ k => rw [show stF iv c (k + 1) = c k from rfl, h k (by omega)]; rfl
theorem chF_lw {key iv zs : List Nat} (hk : ∀ x ∈ key, x < 256) (hi : iv.length = 16) (hi2 : ∀ x ∈ iv, x < 256) (hz : ∀ x ∈ zs, x < 256) (k : Nat) : (chF key iv zs k).length = 16 ∧ ∀ x ∈ chF key iv zs k, x < 256 :=
  chS_lw hk hi hi2 (k + 1) (fun q _ => blkB_256 (padB_256 hz) q)
theorem encL_len {key iv zs : List Nat} (hk : ∀ x ∈ key, x < 256) (hi : iv.length = 16) (hi2 : ∀ x ∈ iv, x < 256) (hz : ∀ x ∈ zs, x < 256) : (encL key iv zs).length = zs.length := by
  have := nB_le zs.length
  unfold encL
  rw [List.length_take, swp_len, catN_len _ (fun k _ => (chF_lw hk hi hi2 hz k).1)]; omega
theorem encL_256 {key iv zs : List Nat} (hk : ∀ x ∈ key, x < 256) (hi : iv.length = 16) (hi2 : ∀ x ∈ iv, x < 256) (hz : ∀ x ∈ zs, x < 256) : ∀ x ∈ encL key iv zs, x < 256 := fun x hx => by
  unfold encL at hx
  exact swp_256 (catN_256 _ (fun k _ => (chF_lw hk hi hi2 hz k).2)) x (List.mem_of_mem_take hx)
theorem pad_blk {T : List Nat} {L a : Nat} (ha : a + 16 ≤ L) (hL : L ≤ T.length) : ((padB (T.take L)).drop a).take 16 = (T.drop a).take 16 := by
  unfold padB
  rw [List.drop_append_of_le_length (by rw [List.length_take]; omega), List.take_append_of_le_length (by rw [List.length_drop, List.length_take]; omega), List.drop_take, List.take_take, Nat.min_eq_left (by omega)]
theorem pad_rest {zs : List Nat} {n r : Nat} (hl : zs.length = 16 * n + r) (h1 : 1 ≤ r) (h2 : r ≤ 16) : (blkB (padB zs) n).drop r = List.replicate (16 - r) 0 := by
  have hn : nB zs.length = n + 1 := by unfold nB; omega
  unfold blkB
  rw [List.drop_take, List.drop_drop]
  unfold padB
  rw [show 16 * n + r = zs.length from hl.symm, drop_app rfl, hn, List.take_of_length_le (by rw [List.length_replicate]; omega)]
  congr 1
  omega
/-- The chained blocks come back when what was cut off is put back. -/
theorem mdL_enc {key iv zs : List Nat} (hk : ∀ x ∈ key, x < 256) (hi : iv.length = 16) (hi2 : ∀ x ∈ iv, x < 256) (hz : ∀ x ∈ zs, x < 256) (h16 : 16 ≤ zs.length) :
    mdL key (encL key iv zs) = swp (catN (chF key iv zs) (nB zs.length)) := by
  have hlen := encL_len hk hi hi2 hz
  have hle := nB_le zs.length
  have hlt : 16 * nB zs.length < zs.length + 16 := by unfold nB; omega
  obtain ⟨L, hL⟩ : ∃ L, zs.length = L := ⟨_, rfl⟩
  obtain ⟨n, hn⟩ : ∃ n, nB zs.length = n := ⟨_, rfl⟩
  have hX : (catN (chF key iv zs) n).length = 16 * n := catN_len _ (fun k _ => (chF_lw hk hi hi2 hz k).1)
  have hT : (swp (catN (chF key iv zs) n)).length = 16 * n := (swp_len _).trans hX
  have hcs : encL key iv zs = (swp (catN (chF key iv zs) n)).take L := by unfold encL; rw [hn, hL]
  rw [hn] at hle hlt ⊢
  rw [hL] at hle hlt h16 hlen
  unfold mdL
  rw [hlen, show nB L = n by rw [← hL]; exact hn]
  by_cases h32 : 32 ≤ 16 * n
  · rw [if_pos h32, hcs, pad_blk (by omega) (by rw [hT]; exact hle)]
    obtain ⟨m, rfl⟩ : ∃ m, n = m + 2 := ⟨n - 2, by omega⟩
    have e16 : 16 * (m + 2) - 32 = 16 * m := by omega
    have e17 : 16 * (m + 2) - 16 = 16 * (m + 1) := by omega
    rw [e16]
    have hs := swp_is hX h32
    rw [e16, e17] at hs
    have eb : (catN (chF key iv zs) (m + 2)).drop (16 * (m + 1)) = chF key iv zs (m + 1) := by
      show (catN (chF key iv zs) (m + 1) ++ chF key iv zs (m + 1)).drop (16 * (m + 1)) = _
      exact drop_app (catN_len _ (fun k _ => (chF_lw hk hi hi2 hz k).1))
    have ec : ((catN (chF key iv zs) (m + 2)).drop (16 * m)).take 16 = chF key iv zs m := blkB_catN (m + 2) (fun k _ => (chF_lw hk hi hi2 hz k).1) m (by omega)
    rw [eb, ec] at hs
    have e1 : ((catN (chF key iv zs) (m + 2)).take (16 * m)).length = 16 * m := by rw [List.length_take, hX]; omega
    have ed : ((swp (catN (chF key iv zs) (m + 2))).drop (16 * m)).take 16 = chF key iv zs (m + 1) := by
      rw [hs, drop_app e1, take_app (chF_lw hk hi hi2 hz (m + 1)).1]
    obtain ⟨r, hr⟩ : ∃ r, L = 16 * (m + 1) + r := ⟨L - 16 * (m + 1), by omega⟩
    have hp := pad_rest (zs := zs) (n := m + 1) (r := r) (by omega) (by omega) (by omega)
    have hcl := chF_lw hk hi hi2 hz m
    have ef : aD key (chF key iv zs (m + 1)) = xorL (chF key iv zs m) (blkB (padB zs) (m + 1)) := by
      show aD key (aE key (xorL (chF key iv zs m) (blkB (padB zs) (m + 1)))) = _
      refine aD_aE hk (xor_len hcl.1 (blkB_len ?_)) (xor_256 hcl.2 (blkB_256 (padB_256 hz) _))
      rw [padB_len, hn]; omega
    rw [ed, ef, show 16 + L - 16 * (m + 2) = r by omega, xor_drop, hp, xor_zero (by rw [List.length_drop, hcl.1])]
    have eg : (swp (catN (chF key iv zs) (m + 2))).drop L = (chF key iv zs m).drop r := by
      rw [hs, ← List.append_assoc, hr, ← List.drop_drop, drop_app (by rw [List.length_append, e1, (chF_lw hk hi hi2 hz (m + 1)).1]; omega)]
    rw [← eg, List.take_append_drop]
  · have hn1 : n = 1 := by omega
    subst hn1
    have hL16 : L = 16 := by omega
    rw [if_neg h32, hcs, hL16, List.take_of_length_le (by rw [hT]; exact Nat.le_refl _), padB_whole (n := 1) hT]
theorem decL_encL {key iv zs : List Nat} (hk : ∀ x ∈ key, x < 256) (hi : iv.length = 16) (hi2 : ∀ x ∈ iv, x < 256) (hz : ∀ x ∈ zs, x < 256) (h16 : 16 ≤ zs.length) : decL key iv (encL key iv zs) = zs := by
  have hm := mdL_enc hk hi hi2 hz h16
  have hlen := encL_len hk hi hi2 hz
  have hc : cdL key (encL key iv zs) = catN (chF key iv zs) (nB zs.length) := by unfold cdL; rw [hm, swp_swp]
  unfold decL
  rw [hc, hlen]
  have hq : catN (dF key iv (blkB (catN (chF key iv zs) (nB zs.length)))) (nB zs.length) = catN (blkB (padB zs)) (nB zs.length) := catN_congr _ (fun k hkn => by
    rw [dF_congr (c' := fun k => chS key iv (blkB (padB zs)) (k + 1)) (fun q hq => blkB_catN _ (fun k _ => (chF_lw hk hi hi2 hz k).1) q (by omega))]
    exact dF_chS (n := nB zs.length) hk hi hi2 (fun q hq => ⟨blkB_len (by rw [padB_len]; omega), blkB_256 (padB_256 hz) q⟩) hkn)
  rw [hq, catN_blkB _ (padB_len zs)]
  exact take_app rfl
theorem cdL_len {key cs : List Nat} (hk : ∀ x ∈ key, x < 256) (hc : ∀ x ∈ cs, x < 256) : (cdL key cs).length = 16 * nB cs.length := (swp_len _).trans (mdL_len hk hc)
theorem cdL_lw {key iv cs : List Nat} (hk : ∀ x ∈ key, x < 256) (hi : iv.length = 16) (hc : ∀ x ∈ cs, x < 256) {k : Nat} (h : k < nB cs.length) : (dF key iv (blkB (cdL key cs)) k).length = 16 := by
  have hb : ∀ q, q < nB cs.length → (blkB (cdL key cs) q).length = 16 := fun q hq => blkB_len (by rw [cdL_len hk hc]; omega)
  have hb2 := blkB_256 (swp_256 (mdL_256 hk hc)) k
  unfold dF
  refine xor_len ?_ (aD_len hk hb2)
  cases k with
  | zero => exact hi
  | succ k => exact hb k (by omega)
theorem decL_len {key iv cs : List Nat} (hk : ∀ x ∈ key, x < 256) (hi : iv.length = 16) (hc : ∀ x ∈ cs, x < 256) : (decL key iv cs).length = cs.length := by
  have := nB_le cs.length
  unfold decL
  rw [List.length_take, catN_len _ (fun k h => cdL_lw hk hi hc h)]; omega
/-- What was decrypted, completed: its last block ends in bytes 0. -/
theorem padB_decL {key iv cs : List Nat} (hk : ∀ x ∈ key, x < 256) (hi : iv.length = 16) (hc : ∀ x ∈ cs, x < 256) (h16 : 16 ≤ cs.length) :
    padB (decL key iv cs) = catN (dF key iv (blkB (cdL key cs))) (nB cs.length) := by
  have hle := nB_le cs.length
  have hlt : 16 * nB cs.length < cs.length + 16 := by unfold nB; omega
  have hdl := decL_len hk hi hc (key := key) (iv := iv)
  have hml := mdL_len hk hc
  obtain ⟨L, hL⟩ : ∃ L, cs.length = L := ⟨_, rfl⟩
  obtain ⟨n, hn⟩ : ∃ n, nB cs.length = n := ⟨_, rfl⟩
  have hQ : (catN (dF key iv (blkB (cdL key cs))) n).length = 16 * n := catN_len _ (fun k h => cdL_lw hk hi hc (by omega))
  have hdec : decL key iv cs = (catN (dF key iv (blkB (cdL key cs))) n).take L := by unfold decL; rw [hn, hL]
  unfold padB
  rw [hdl, hL, show nB L = n by rw [← hL]; exact hn, hdec]
  rw [hn] at hle hlt hml
  rw [hL] at hle hlt h16
  have key0 : (catN (dF key iv (blkB (cdL key cs))) n).drop L = List.replicate (16 * n - L) 0 := by
    by_cases h32 : 32 ≤ 16 * n
    · obtain ⟨m, rfl⟩ : ∃ m, n = m + 2 := ⟨n - 2, by omega⟩
      obtain ⟨r, hr⟩ : ∃ r, L = 16 * (m + 1) + r := ⟨L - 16 * (m + 1), by omega⟩
      have hql : (catN (dF key iv (blkB (cdL key cs))) (m + 1)).length = 16 * (m + 1) := catN_len _ (fun k h => cdL_lw hk hi hc (by omega))
      rw [hr, ← List.drop_drop]
      show (((catN (dF key iv (blkB (cdL key cs))) (m + 1) ++ dF key iv (blkB (cdL key cs)) (m + 1))).drop (16 * (m + 1))).drop r = _
      rw [drop_app hql]
      have e16 : 16 * (m + 2) - 32 = 16 * m := by omega
      have e17 : 16 * (m + 2) - 16 = 16 * (m + 1) := by omega
      have hs := swp_is hml h32
      rw [e16, e17] at hs
      have hcd : cdL key cs = (mdL key cs).take (16 * m) ++ ((mdL key cs).drop (16 * (m + 1)) ++ ((mdL key cs).drop (16 * m)).take 16) := hs
      have l1 : ((mdL key cs).take (16 * m)).length = 16 * m := by rw [List.length_take, hml]; omega
      have l2 : ((mdL key cs).drop (16 * (m + 1))).length = 16 := by rw [List.length_drop, hml]; omega
      have l3 : (((mdL key cs).drop (16 * m)).take 16).length = 16 := by rw [List.length_take, List.length_drop, hml]; omega
      have b1 : blkB (cdL key cs) m = (mdL key cs).drop (16 * (m + 1)) := by
        unfold blkB; rw [hcd, drop_app l1, take_app l2]
      have b2 : blkB (cdL key cs) (m + 1) = ((mdL key cs).drop (16 * m)).take 16 := by
        unfold blkB
        rw [hcd, ← List.append_assoc, drop_app (by rw [List.length_append, l1, l2]; omega), List.take_of_length_le (by rw [l3]; exact Nat.le_refl _)]
      have hmd : mdL key cs = cs ++ (aD key (((padB cs).drop (16 * m)).take 16)).drop r := by
        unfold mdL
        rw [hn, hL, if_pos h32, e16, show 16 + L - 16 * (m + 2) = r by omega]
      have hpb : ((padB cs).drop (16 * m)).take 16 = (cs.drop (16 * m)).take 16 := by
        have := pad_blk (T := cs) (L := L) (a := 16 * m) (by omega) (by omega)
        rw [List.take_of_length_le (show cs.length ≤ L by omega)] at this
        exact this
      rw [hpb] at hmd
      obtain ⟨Y, hY⟩ : ∃ Y, (cs.drop (16 * m)).take 16 = Y := ⟨_, rfl⟩
      rw [hY] at hmd
      have hYl : Y.length = 16 := by rw [← hY, List.length_take, List.length_drop, hL]; omega
      have hY2 : ∀ x ∈ Y, x < 256 := by rw [← hY]; exact fun x hx => hc x (List.mem_of_mem_drop (List.mem_of_mem_take hx))
      have b3 : ((mdL key cs).drop (16 * m)).take 16 = Y := by
        rw [hmd, List.drop_append_of_le_length (by omega), List.take_append_of_le_length (by rw [List.length_drop]; omega), hY]
      have b4 : ((mdL key cs).drop (16 * (m + 1))).drop r = (aD key Y).drop r := by
        rw [List.drop_drop, hmd, ← hr, drop_app hL]
      show (xorL (blkB (cdL key cs) m) (aD key (blkB (cdL key cs) (m + 1)))).drop r = _
      rw [xor_drop, b1, b2, b3, b4]
      refine xor_same ?_
      rw [List.length_drop, aD_len hk hY2]; omega
    · have : n = 1 := by omega
      subst this
      rw [List.drop_of_length_le (by rw [hQ]; omega), show 16 * 1 - L = 0 by omega]; rfl
  rw [← key0, List.take_append_drop]
theorem encL_decL {key iv cs : List Nat} (hk : ∀ x ∈ key, x < 256) (hi : iv.length = 16) (hc : ∀ x ∈ cs, x < 256) (h16 : 16 ≤ cs.length) : encL key iv (decL key iv cs) = cs := by
  have hle := nB_le cs.length
  have hlt : 16 * nB cs.length < cs.length + 16 := by unfold nB; omega
  have hdl := decL_len hk hi hc (key := key) (iv := iv)
  have hpd := padB_decL hk hi hc h16 (key := key) (iv := iv)
  have hC := cdL_len hk hc (key := key)
  have hX : catN (chF key iv (decL key iv cs)) (nB cs.length) = cdL key cs := by
    rw [← catN_blkB (nB cs.length) hC]
    refine catN_congr _ (fun k hkn => ?_)
    show chS key iv (blkB (padB (decL key iv cs))) (k + 1) = _
    rw [hpd, chS_congr key iv (k + 1) (fun q hq => blkB_catN (nB cs.length) (fun k h => cdL_lw hk hi hc h) q (by omega))]
    exact chS_dF (n := nB cs.length) hk hi (fun q hq => ⟨blkB_len (zs := cdL key cs) (by rw [hC]; omega), blkB_256 (l := cdL key cs) (swp_256 (mdL_256 hk hc)) q⟩) (k + 1) (by omega)
  unfold encL
  rw [hdl, hX]
  unfold cdL
  rw [swp_swp]
  unfold mdL
  by_cases h32 : 32 ≤ 16 * nB cs.length
  · rw [if_pos h32]; exact take_app rfl
  · rw [if_neg h32]; exact take_app rfl
/-- Equal first blocks, if two or more follow, give equal first blocks. -/
theorem encL_first {key iv xs ys : List Nat} {k : Nat} (hk : ∀ x ∈ key, x < 256) (hi : iv.length = 16) (hi2 : ∀ x ∈ iv, x < 256) (hx : ∀ x ∈ xs, x < 256) (hy : ∀ x ∈ ys, x < 256)
    (hl : ys.length = xs.length) (hkn : k + 2 ≤ nB xs.length) (h : ys.take (16 * k) = xs.take (16 * k)) : (encL key iv ys).take (16 * k) = (encL key iv xs).take (16 * k) := by
  have one : ∀ zs : List Nat, (∀ x ∈ zs, x < 256) → k + 2 ≤ nB zs.length → (encL key iv zs).take (16 * k) = catN (chF key iv zs) k := by
    intro zs hz hn
    have hlt : 16 * nB zs.length < zs.length + 16 := by unfold nB; omega
    have hX : (catN (chF key iv zs) (nB zs.length)).length = 16 * nB zs.length := catN_len _ (fun k _ => (chF_lw hk hi hi2 hz k).1)
    unfold encL
    rw [List.take_take, Nat.min_eq_left (by omega), swp_is hX (by omega), List.take_append_of_le_length (by rw [List.length_take, hX]; omega), List.take_take, Nat.min_eq_left (by omega)]
    obtain ⟨m, hm⟩ : ∃ m, nB zs.length = k + m := ⟨nB zs.length - k, by omega⟩
    rw [hm]
    exact catN_take k m (fun q _ => (chF_lw hk hi hi2 hz q).1)
  rw [one ys hy (by rw [hl]; exact hkn), one xs hx hkn]
  have hlt : 16 * nB xs.length < xs.length + 16 := by unfold nB; omega
  refine catN_congr k (fun q hq => chS_congr key iv (q + 1) (fun t ht => ?_))
  have pb : ∀ zs : List Nat, 16 * k ≤ zs.length → blkB (padB zs) t = blkB (zs.take (16 * k)) t := fun zs hz => by
    rw [blkB_take zs (show t < k by omega)]
    unfold blkB padB
    rw [List.drop_append_of_le_length (by omega), List.take_append_of_le_length (by rw [List.length_drop]; omega)]
  rw [pb ys (by omega), pb xs (by omega), h]
end Go.Proofs.YtjcdbjapadgdfaaDoor
