/- AES: the inverse of encrypting, without the program. -/
import Derived.Test.YtjcdbjapadgdfaaDoorAR
namespace Go.Proofs.YtjcdbjapadgdfaaDoor
open Go.RowKit Go.Shelf

theorem xorL_self {a k : List Nat} (ha : a.length = 4) (hk : k.length = 4) : xorL (xorL a k) k = a := by
  match a, ha, k, hk with
  | [a0, a1, a2, a3], _, [k0, k1, k2, k3], _ => simp [xorL, Nat.xor_assoc]
theorem sh31 {a : List Nat} (ha : a.length = 4) (hw : W32 a) : shL 3 (shL 1 a) = a ∧ shL 1 (shL 3 a) = a := by
  match a, ha with
  | [x, y, z, u], _ =>
    have hx : x < 4294967296 := hw _ (by simp)
    have hy : y < 4294967296 := hw _ (by simp)
    have hz : z < 4294967296 := hw _ (by simp)
    have hu : u < 4294967296 := hw _ (by simp)
    constructor <;>
    · simp [shL, shC, List.getD]
      refine ⟨?_, ?_, ?_, ?_⟩ <;>
      · unfold pk b0 b1 b2 b3; omega
theorem map_id' {f : Nat → Nat} {a : List Nat} (h : ∀ x ∈ a, f x = x) : a.map f = a := by
  rw [List.map_congr_left (g := id) h, List.map_id]
theorem sub_ib {a : List Nat} (hw : W32 a) : (a.map (subW sb)).map (subW ib) = a := by
  rw [List.map_map]; exact map_id' fun x hx => sub_inv sb_256 ib_sb (hw x hx)
theorem ib_sub {a : List Nat} (hw : W32 a) : (a.map (subW ib)).map (subW sb) = a := by
  rw [List.map_map]; exact map_id' fun x hx => sub_inv ib_256 sb_ib (hw x hx)
theorem mix_unmix {w : Nat} (h : w < 4294967296) : mixW (mixW (umW w)) = w := by
  have h1 : umW (mixW w) < 4294967296 := umW_lt (mixW_lt h)
  have h2 := unmix_mix h1
  rw [unmix_mix h] at h2
  rw [h2]; exact unmix_mix h
theorem um_mix {a : List Nat} (hw : W32 a) : umL (a.map mixW) = a := by
  unfold umL; rw [List.map_map, List.map_map]; exact map_id' fun x hx => unmix_mix (hw x hx)
theorem mix_um {a : List Nat} (hw : W32 a) : (umL a).map mixW = a := by
  unfold umL; rw [List.map_map, List.map_map]; exact map_id' fun x hx => mix_unmix (hw x hx)
theorem bW_wd {a b c d : Nat} (hb : b < 256) (hc : c < 256) (hd : d < 256) : bW (wdF [a, b, c, d]) = [a, b, c, d] := by
  have e : wdF [a, b, c, d] = pk a b c d := by simp [wdF, pk]
  rw [e]; unfold bW; rw [b0_pk hb hc hd, b1_pk hb hc hd, b2_pk hc hd, b3_pk hd]
theorem bytes_words {zs : List Nat} (hl : zs.length = 16) (h : ∀ x ∈ zs, x < 256) : bytesL (wordsL zs) = zs := by
  obtain ⟨a, b, c, d, e, f, g, i, j, k, l, m, n, o, p, q, rfl⟩ := sixteen hl
  have e0 : wordsL [a, b, c, d, e, f, g, i, j, k, l, m, n, o, p, q] = [wdF [a, b, c, d], wdF [e, f, g, i], wdF [j, k, l, m], wdF [n, o, p, q]] := rfl
  rw [e0]
  unfold bytesL
  simp only [List.flatMap_cons, List.flatMap_nil]
  rw [bW_wd (h _ (by simp)) (h _ (by simp)) (h _ (by simp)), bW_wd (h _ (by simp)) (h _ (by simp)) (h _ (by simp)), bW_wd (h _ (by simp)) (h _ (by simp)) (h _ (by simp)), bW_wd (h _ (by simp)) (h _ (by simp)) (h _ (by simp))]
  rfl
theorem wd_bW (x : Nat) : wdF (bW x) = x := by
  have e : wdF (bW x) = pk (b0 x) (b1 x) (b2 x) (b3 x) := by simp [wdF, pk, bW]
  rw [e, pk_b]
theorem words_bytes {ws : List Nat} (hl : ws.length = 4) : wordsL (bytesL ws) = ws := by
  match ws, hl with
  | [x, y, z, u], _ =>
    have e0 : wordsL (bytesL [x, y, z, u]) = [wdF (bW x), wdF (bW y), wdF (bW z), wdF (bW u)] := rfl
    rw [e0, wd_bW, wd_bW, wd_bW, wd_bW]
theorem dec_enc {kw ws : List Nat} (hk : kw.length = 4) (hkw : W32 kw) (hs : ws.length = 4) (hw : W32 ws) : ∀ j, j ≤ 11 → decS kw (encS kw ws 11) j = encS kw ws (11 - j)
  | 0, _ => rfl
  | j + 1, hj => by
    have ih := dec_enc hk hkw hs hw j (by omega)
    obtain ⟨m, hm⟩ : ∃ m, 11 - (j + 1) = m := ⟨_, rfl⟩
    have e1 : 11 - j = m + 1 := by omega
    have e2 : 10 - j = m := by omega
    have hE := encS_lw hk hkw hs hw m
    have hr := rk_len hk m
    have hsub : ((encS kw ws m).map (subW sb)).length = 4 ∧ W32 ((encS kw ws m).map (subW sb)) := ⟨by rw [List.length_map]; exact hE.1, fun x hx => by obtain ⟨y, _, rfl⟩ := List.mem_map.1 hx; exact subW_lt sb_256 y⟩
    have hsh : (shL 1 ((encS kw ws m).map (subW sb))).length = 4 ∧ W32 (shL 1 ((encS kw ws m).map (subW sb))) := ⟨rfl, shL_w32 hsub.2 1⟩
    rw [e1] at ih
    rw [hm]
    unfold decS
    rw [ih, e2]
    unfold encS
    by_cases h0 : j = 0
    · rw [if_pos h0, if_neg (show ¬ m = 0 by omega), if_pos (show m = 10 by omega), xorL_self hsh.1 hr, (sh31 hsub.1 hsub.2).1, sub_ib hE.2]
      cases m <;> rfl
    · rw [if_neg h0]
      by_cases h10 : j = 10
      · rw [if_pos h10, if_pos (show m = 0 by omega), xorL_self hE.1 hr]
        cases m <;> rfl
      · rw [if_neg h10, if_neg (show ¬ m = 0 by omega), if_neg (show ¬ m = 10 by omega), xorL_self (by rw [List.length_map]; exact hsh.1) hr, um_mix hsh.2, (sh31 hsub.1 hsub.2).1, sub_ib hE.2]
        cases m <;> rfl
theorem enc_dec {kw ws : List Nat} (hk : kw.length = 4) (hkw : W32 kw) (hs : ws.length = 4) (hw : W32 ws) : ∀ j, j ≤ 11 → encS kw (decS kw ws 11) j = decS kw ws (11 - j)
  | 0, _ => rfl
  | j + 1, hj => by
    have ih := enc_dec hk hkw hs hw j (by omega)
    obtain ⟨m, hm⟩ : ∃ m, 11 - (j + 1) = m := ⟨_, rfl⟩
    have e1 : 11 - j = m + 1 := by omega
    have e2 : j = 10 - m := by omega
    have hE := decS_lw hk hkw hs hw m
    have hr := rk_len hk j
    have hrw := rk_w32 hkw j
    have hx : (xorL (decS kw ws m) (rk kw j)).length = 4 ∧ W32 (xorL (decS kw ws m) (rk kw j)) := ⟨xorL_len hE.1 hr, xorL_w32 hE.2 hrw⟩
    rw [e1] at ih
    rw [hm]
    unfold encS
    rw [ih]
    have e3 : decS kw ws (m + 1) = if m = 0 then (shL 3 (xorL (decS kw ws m) (rk kw (10 - m)))).map (subW ib) else if m = 10 then xorL (decS kw ws m) (rk kw (10 - m)) else (shL 3 (umL (xorL (decS kw ws m) (rk kw (10 - m))))).map (subW ib) := rfl
    rw [e3, ← e2]
    by_cases h0 : j = 0
    · rw [if_pos h0, if_neg (show ¬ m = 0 by omega), if_pos (show m = 10 by omega), xorL_self hE.1 hr]
    · rw [if_neg h0]
      by_cases h10 : j = 10
      · rw [if_pos h10, if_pos (show m = 0 by omega), ib_sub (shL_w32 hx.2 3), (sh31 hx.1 hx.2).2, xorL_self hE.1 hr]
      · have hu := unmix_lw hx.1 hx.2
        rw [if_neg h10, if_neg (show ¬ m = 0 by omega), if_neg (show ¬ m = 10 by omega), ib_sub (shL_w32 hu.2 3), (sh31 hu.1 hu.2).2, mix_um hx.2, xorL_self hE.1 hr]
end Go.Proofs.YtjcdbjapadgdfaaDoor
