/- AES: what the reference's rounds do to the words of a block. -/
import Derived.Test.YtjcdbjapadgdfaaDoorBE
namespace Go.Proofs.YtjcdbjapadgdfaaDoor
open Go.RowKit

theorem getD_ext {a b : List Nat} (h : a.length = b.length) (h2 : ∀ i, i < a.length → a.getD i 0 = b.getD i 0) : a = b := by
  refine List.ext_getElem h fun i hi hj => ?_
  have := h2 i hi
  rw [List.getD, List.getD, List.getElem?_eq_getElem hi, List.getElem?_eq_getElem hj] at this
  exact this
theorem bytes_ext {l X : List Nat} (hl : l.length = 4 * X.length) (h : ∀ c k, c < X.length → k < 4 → l.getD (4 * c + k) 0 = (bW (X.getD c 0)).getD k 0) : l = bytesL X := by
  refine getD_ext (by rw [bytesL_len, hl]) fun i hi => ?_
  have e : i = 4 * (i / 4) + i % 4 := by omega
  rw [e, h (i / 4) (i % 4) (by omega) (by omega), bytesL_get _ _ _ (by omega)]
theorem rkB_FL {kw : List Nat} (h : kw.length = 4) {r : Nat} (hr : r < 11) : rkB (FL kw) r = bytesL (rk kw r) := by
  refine bytes_ext (by rw [rk_len h, rkB_len (by rw [FL_len h]; omega)]) fun c k hc hk => ?_
  rw [rk_len h] at hc
  rw [rkB_get (by omega), show 16 * r + (4 * c + k) = 4 * (4 * r + c) + k by omega, FL_get kw _ hk, Kw_eq h hr hc]
theorem xorL_bytes {X Y : List Nat} (hX : X.length = 4) (hY : Y.length = 4) : xorL (bytesL X) (bytesL Y) = bytesL (xorL X Y) := by
  have h1 := bytesL_len X
  have h2 := bytesL_len Y
  have h3 := xorL_len hX hY
  refine bytes_ext (by rw [h3]; unfold xorL; rw [List.length_zipWith, h1, h2, hX, hY]; rfl) fun c k hc hk => ?_
  rw [h3] at hc
  rw [xorL_get (by omega) (by omega), bytesL_get _ _ _ hk, bytesL_get _ _ _ hk, xorL_get (by omega) (by omega), bW_xor _ _ hk]
/-- What a mixed byte is after k steps. -/
def mxE (F xs : List Nat) (p : Nat) : Nat → Nat
  | 0 => 0
  | k + 1 => mxE F xs p k ^^^ gm 8 (F.getD ((k + 4 - p % 4) % 4) 0) (xs.getD (4 * (p / 4) + k) 0)
theorem getD_set' (l : List Nat) (i x p : Nat) (hi : i < l.length) : (l.set i x).getD p 0 = if i = p then x else l.getD p 0 := by
  rw [List.getD, List.getElem?_set]
  by_cases h : i = p
  · subst h; rw [if_pos rfl, if_pos rfl, if_pos hi]; rfl
  · rw [if_neg h, if_neg h]; rfl
theorem mxN_get (F xs : List Nat) (p : Nat) : ∀ n, n ≤ 64 → (mxN F xs n).getD p 0 = mxE F xs p (min 4 (n - 4 * p))
  | 0, _ => by
    rw [show min 4 (0 - 4 * p) = 0 by omega]
    unfold mxN mxE
    rw [zr_eq, List.getD, List.getElem?_replicate]
    split <;> rfl
  | n + 1, h => by
    have ih := mxN_get F xs p n (by omega)
    have hl := mxN_len F xs n
    unfold mxN
    rw [getD_set' _ _ _ _ (by omega)]
    by_cases e : n / 4 = p
    · rw [if_pos e, e, ih, show min 4 (n - 4 * p) = n % 4 by omega, show min 4 (n + 1 - 4 * p) = n % 4 + 1 by omega, show n / 16 = p / 4 by omega]
      rfl
    · rw [if_neg e, ih]
      congr 1; omega
theorem gm1 (b : Nat) : gm 8 1 b = b := by simp [gm]
theorem gm2 (b : Nat) : gm 8 2 b = xt b := by simp [gm]
theorem gm3 (b : Nat) : gm 8 3 b = b ^^^ xt b := by simp [gm]
theorem gm9 (b : Nat) : gm 8 9 b = b ^^^ xt (xt (xt b)) := by simp [gm]
theorem gm11 (b : Nat) : gm 8 11 b = b ^^^ (xt b ^^^ xt (xt (xt b))) := by simp [gm]
theorem gm13 (b : Nat) : gm 8 13 b = b ^^^ (xt (xt b) ^^^ xt (xt (xt b))) := by simp [gm]
theorem gm14 (b : Nat) : gm 8 14 b = xt b ^^^ (xt (xt b) ^^^ xt (xt (xt b))) := by simp [gm]
theorem bW_pk {a b c d : Nat} (hb : b < 256) (hc : c < 256) (hd : d < 256) : bW (pk a b c d) = [a, b, c, d] := by
  unfold bW; rw [b0_pk hb hc hd, b1_pk hb hc hd, b2_pk hc hd, b3_pk hd]
theorem get_map {f : Nat → Nat} {X : List Nat} {c : Nat} (h : c < X.length) : (X.map f).getD c 0 = f (X.getD c 0) := by
  rw [List.getD, List.getD, List.getElem?_map, List.getElem?_eq_getElem h]; rfl
theorem mx_byte (F X : List Nat) {c r : Nat} (hc : c < 4) (hr : r < 4) : (mxN F (bytesL X) 64).getD (4 * c + r) 0 =
    ((gm 8 (F.getD ((4 - r) % 4) 0) (b0 (X.getD c 0)) ^^^ gm 8 (F.getD ((5 - r) % 4) 0) (b1 (X.getD c 0))) ^^^ gm 8 (F.getD ((6 - r) % 4) 0) (b2 (X.getD c 0))) ^^^ gm 8 (F.getD ((7 - r) % 4) 0) (b3 (X.getD c 0)) := by
  rw [mxN_get _ _ _ _ (by omega), show min 4 (64 - 4 * (4 * c + r)) = 4 by omega]
  simp only [mxE]
  rw [show (4 * c + r) % 4 = r by omega, show (4 * c + r) / 4 = c by omega, bytesL_get _ _ _ (by omega), bytesL_get _ _ _ (by omega), bytesL_get _ _ _ (by omega), bytesL_get _ _ _ (by omega), Nat.zero_xor, show (0 + 4 - r) = 4 - r by omega, show (1 + 4 - r) = 5 - r by omega, show (2 + 4 - r) = 6 - r by omega, show (3 + 4 - r) = 7 - r by omega]
  rfl
def FE : List Nat := [2, 3, 1, 1]
def FD : List Nat := [14, 11, 13, 9]
theorem mix_bytes {X : List Nat} (hX : X.length = 4) (hw : W32 X) : mxN FE (bytesL X) 64 = bytesL (X.map mixW) := by
  refine bytes_ext (by rw [mxN_len, List.length_map, hX]) fun c r hc hr => ?_
  rw [List.length_map, hX] at hc
  rw [mx_byte FE X hc hr, get_map (by rw [hX]; exact hc)]
  have hx := hw.get c
  obtain ⟨x, hxx⟩ : ∃ x, X.getD c 0 = x := ⟨_, rfl⟩
  rw [hxx] at hx ⊢
  have h0 := b0_lt hx
  have h1 := b1_lt x
  have h2 := b2_lt x
  have h3 := b3_lt x
  have e := mixW_pk h0 h1 h2 h3
  rw [pk_b] at e
  rw [e, bW_pk (mb_lt h1 h2 h3 h0) (mb_lt h2 h3 h0 h1) (mb_lt h3 h0 h1 h2)]
  rcases (by omega : r = 0 ∨ r = 1 ∨ r = 2 ∨ r = 3) with rfl | rfl | rfl | rfl
  · show ((gm 8 2 _ ^^^ gm 8 3 _) ^^^ gm 8 1 _) ^^^ gm 8 1 _ = mb _ _ _ _
    rw [gm2, gm3, gm1, gm1]; unfold mb; (first | rfl | ac_rfl)
  · show ((gm 8 1 _ ^^^ gm 8 2 _) ^^^ gm 8 3 _) ^^^ gm 8 1 _ = mb _ _ _ _
    rw [gm2, gm3, gm1, gm1]; unfold mb; (first | rfl | ac_rfl)
  · show ((gm 8 1 _ ^^^ gm 8 1 _) ^^^ gm 8 2 _) ^^^ gm 8 3 _ = mb _ _ _ _
    rw [gm2, gm3, gm1, gm1]; unfold mb; (first | rfl | ac_rfl)
  · show ((gm 8 3 _ ^^^ gm 8 1 _) ^^^ gm 8 1 _) ^^^ gm 8 2 _ = mb _ _ _ _
    rw [gm2, gm3, gm1, gm1]; unfold mb; (first | rfl | ac_rfl)
theorem um_xor (a b c d : Nat) : mb (ub a c) (ub b d) (ub c a) (ub d b) = ((gm 8 14 a ^^^ gm 8 11 b) ^^^ gm 8 13 c) ^^^ gm 8 9 d := by
  rw [gm9, gm11, gm13, gm14]
  unfold mb ub
  simp only [xt_xor]
  obtain ⟨a1, ha1⟩ : ∃ x, xt a = x := ⟨_, rfl⟩
  obtain ⟨c1, hc1⟩ : ∃ x, xt c = x := ⟨_, rfl⟩
  obtain ⟨d1, hd1⟩ : ∃ x, xt d = x := ⟨_, rfl⟩
  obtain ⟨e1, hb1⟩ : ∃ x, xt b = x := ⟨_, rfl⟩
  rw [ha1, hc1, hd1, hb1]
  obtain ⟨a2, ha2⟩ : ∃ x, xt a1 = x := ⟨_, rfl⟩
  obtain ⟨c2, hc2⟩ : ∃ x, xt c1 = x := ⟨_, rfl⟩
  obtain ⟨d2, hd2⟩ : ∃ x, xt d1 = x := ⟨_, rfl⟩
  obtain ⟨e2, hb2⟩ : ∃ x, xt e1 = x := ⟨_, rfl⟩
  rw [ha2, hc2, hd2, hb2]
  obtain ⟨a3, ha3⟩ : ∃ x, xt a2 = x := ⟨_, rfl⟩
  obtain ⟨c3, hc3⟩ : ∃ x, xt c2 = x := ⟨_, rfl⟩
  obtain ⟨d3, hd3⟩ : ∃ x, xt d2 = x := ⟨_, rfl⟩
  obtain ⟨e3, hb3⟩ : ∃ x, xt e2 = x := ⟨_, rfl⟩
  rw [ha3, hc3, hd3, hb3]
  clear ha1 hc1 hd1 hb1 ha2 hc2 hd2 hb2 ha3 hc3 hd3 hb3
  simp only [Nat.xor_comm, xlc, xcl]
theorem umix_bytes {X : List Nat} (hX : X.length = 4) (hw : W32 X) : mxN FD (bytesL X) 64 = bytesL (umL X) := by
  refine bytes_ext (by rw [mxN_len]; unfold umL; rw [List.length_map, List.length_map, hX]) fun c r hc hr => ?_
  unfold umL at hc ⊢
  rw [List.length_map, List.length_map, hX] at hc
  rw [mx_byte FD X hc hr, get_map (by rw [List.length_map, hX]; exact hc), get_map (by rw [hX]; exact hc)]
  have hx := hw.get c
  obtain ⟨x, hxx⟩ : ∃ x, X.getD c 0 = x := ⟨_, rfl⟩
  rw [hxx] at hx ⊢
  have h0 := b0_lt hx
  have h1 := b1_lt x
  have h2 := b2_lt x
  have h3 := b3_lt x
  have e0 := umW_pk h0 h1 h2 h3
  rw [pk_b] at e0
  have u0 := ub_lt h0 h2
  have u1 := ub_lt h1 h3
  have u2 := ub_lt h2 h0
  have u3 := ub_lt h3 h1
  have e := mixW_pk u0 u1 u2 u3
  rw [← e0] at e
  rw [e, bW_pk (mb_lt u1 u2 u3 u0) (mb_lt u2 u3 u0 u1) (mb_lt u3 u0 u1 u2)]
  rcases (by omega : r = 0 ∨ r = 1 ∨ r = 2 ∨ r = 3) with rfl | rfl | rfl | rfl
  · show ((gm 8 14 _ ^^^ gm 8 11 _) ^^^ gm 8 13 _) ^^^ gm 8 9 _ = mb _ _ _ _
    rw [um_xor]
  · show ((gm 8 9 _ ^^^ gm 8 14 _) ^^^ gm 8 11 _) ^^^ gm 8 13 _ = mb _ _ _ _
    rw [um_xor]; ac_rfl
  · show ((gm 8 13 _ ^^^ gm 8 9 _) ^^^ gm 8 14 _) ^^^ gm 8 11 _ = mb _ _ _ _
    rw [um_xor]; ac_rfl
  · show ((gm 8 11 _ ^^^ gm 8 13 _) ^^^ gm 8 9 _) ^^^ gm 8 14 _ = mb _ _ _ _
    rw [um_xor]; ac_rfl
/-- The substituted and shifted block, byte by byte. -/
def ssL (X : List Nat) : List Nat := bytesL (shL 1 (X.map (subW sb)))
theorem shC_byte (n : Nat) (ws : List Nat) (c : Nat) {r : Nat} (hr : r < 4) : (bW (shC n ws c)).getD r 0 = (bW (ws.getD ((c + r * n) % 4) 0)).getD r 0 := by
  unfold shC
  rw [bW_pk (b1_lt _) (b2_lt _) (b3_lt _)]
  rcases (by omega : r = 0 ∨ r = 1 ∨ r = 2 ∨ r = 3) with rfl | rfl | rfl | rfl
  · show b0 _ = b0 _; rw [Nat.zero_mul, Nat.add_zero]
  · show b1 _ = b1 _; rw [Nat.one_mul]
  · rfl
  · rfl
theorem subW_byte {t : List Nat} (ht : ∀ x ∈ t, x < 256) (x : Nat) {r : Nat} (hr : r < 4) : (bW (subW t x)).getD r 0 = tb t ((bW x).getD r 0) := by
  unfold subW
  rw [bW_pk (tb_256 ht _) (tb_256 ht _) (tb_256 ht _)]
  rcases (by omega : r = 0 ∨ r = 1 ∨ r = 2 ∨ r = 3) with rfl | rfl | rfl | rfl <;> rfl
theorem ss_byte {X : List Nat} (hX : X.length = 4) {c r : Nat} (hc : c < 4) (hr : r < 4) : (ssL X).getD (4 * c + r) 0 = tb sb ((bytesL X).getD (4 * ((c + r) % 4) + r) 0) := by
  unfold ssL
  rw [bytesL_get _ _ _ hr, shL_get _ _ hc, shC_byte _ _ _ hr, Nat.mul_one, get_map (by omega), subW_byte sb_256 _ hr, bytesL_get _ _ _ hr]
/-- The block that is shifted back and restored, byte by byte. -/
def usL (X : List Nat) : List Nat := bytesL ((shL 3 X).map (subW ib))
theorem us_byte {X : List Nat} {c r : Nat} (hc : c < 4) (hr : r < 4) : (usL X).getD (4 * ((c + r) % 4) + r) 0 = tb ib ((bytesL X).getD (4 * c + r) 0) := by
  unfold usL
  have hm : (c + r) % 4 < 4 := Nat.mod_lt _ (by omega)
  rw [bytesL_get _ _ _ hr, get_map (show (c + r) % 4 < (shL 3 X).length from hm), shL_get _ _ hm, subW_byte ib_256 _ hr, shC_byte _ _ _ hr, bytesL_get _ _ _ hr, show ((c + r) % 4 + r * 3) % 4 = c by omega]
/-- The restored block after n steps. -/
def usN (A : List Nat) : Nat → List Nat
  | 0 => zr 16
  | n + 1 => (usN A n).set (4 * ((n / 4 + n % 4) % 4) + n % 4) (A.getD (4 * ((n / 4 + n % 4) % 4) + n % 4) 0)
theorem usN_len (A : List Nat) : ∀ n, (usN A n).length = 16
  | 0 => zr_len 16
  | n + 1 => by unfold usN; rw [List.length_set, usN_len A n]
theorem usN_all {A : List Nat} (h : A.length = 16) : usN A 16 = A := by
  obtain ⟨a, b, c, d, e, f, g, h, i, j, k, l, m, n, o, p, rfl⟩ := sixteen h
  simp only [usN]
  rw [zr_eq]
  rfl
theorem usN_step (A : List Nat) {c r : Nat} (hr : r < 4) : (usN A (4 * c + r)).set (4 * ((c + r) % 4) + r) (A.getD (4 * ((c + r) % 4) + r) 0) = usN A (4 * c + (r + 1)) := by
  rw [show 4 * c + (r + 1) = (4 * c + r) + 1 by omega]
  conv => rhs; unfold usN
  rw [show (4 * c + r) / 4 = c by omega, show (4 * c + r) % 4 = r by omega]
end Go.Proofs.YtjcdbjapadgdfaaDoor
