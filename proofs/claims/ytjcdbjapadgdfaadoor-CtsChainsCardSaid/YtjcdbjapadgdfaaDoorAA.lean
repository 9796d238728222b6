/- AES: bytes and words, no program. -/
import Derived.KernelRfl
namespace Go.Proofs.YtjcdbjapadgdfaaDoor

/-- The substitutes of the bytes, and their inverse. -/
def sb : List Nat := [99, 124, 119, 123, 242, 107, 111, 197, 48, 1, 103, 43, 254, 215, 171, 118, 202, 130, 201, 125, 250, 89, 71, 240, 173, 212, 162, 175, 156, 164, 114, 192, 183, 253, 147, 38, 54, 63, 247, 204, 52, 165, 229, 241, 113, 216, 49, 21, 4, 199, 35, 195, 24, 150, 5, 154, 7, 18, 128, 226, 235, 39, 178, 117, 9, 131, 44, 26, 27, 110, 90, 160, 82, 59, 214, 179, 41, 227, 47, 132, 83, 209, 0, 237, 32, 252, 177, 91, 106, 203, 190, 57, 74, 76, 88, 207, 208, 239, 170, 251, 67, 77, 51, 133, 69, 249, 2, 127, 80, 60, 159, 168, 81, 163, 64, 143, 146, 157, 56, 245, 188, 182, 218, 33, 16, 255, 243, 210, 205, 12, 19, 236, 95, 151, 68, 23, 196, 167, 126, 61, 100, 93, 25, 115, 96, 129, 79, 220, 34, 42, 144, 136, 70, 238, 184, 20, 222, 94, 11, 219, 224, 50, 58, 10, 73, 6, 36, 92, 194, 211, 172, 98, 145, 149, 228, 121, 231, 200, 55, 109, 141, 213, 78, 169, 108, 86, 244, 234, 101, 122, 174, 8, 186, 120, 37, 46, 28, 166, 180, 198, 232, 221, 116, 31, 75, 189, 139, 138, 112, 62, 181, 102, 72, 3, 246, 14, 97, 53, 87, 185, 134, 193, 29, 158, 225, 248, 152, 17, 105, 217, 142, 148, 155, 30, 135, 233, 206, 85, 40, 223, 140, 161, 137, 13, 191, 230, 66, 104, 65, 153, 45, 15, 176, 84, 187, 22]
def ib : List Nat := [82, 9, 106, 213, 48, 54, 165, 56, 191, 64, 163, 158, 129, 243, 215, 251, 124, 227, 57, 130, 155, 47, 255, 135, 52, 142, 67, 68, 196, 222, 233, 203, 84, 123, 148, 50, 166, 194, 35, 61, 238, 76, 149, 11, 66, 250, 195, 78, 8, 46, 161, 102, 40, 217, 36, 178, 118, 91, 162, 73, 109, 139, 209, 37, 114, 248, 246, 100, 134, 104, 152, 22, 212, 164, 92, 204, 93, 101, 182, 146, 108, 112, 72, 80, 253, 237, 185, 218, 94, 21, 70, 87, 167, 141, 157, 132, 144, 216, 171, 0, 140, 188, 211, 10, 247, 228, 88, 5, 184, 179, 69, 6, 208, 44, 30, 143, 202, 63, 15, 2, 193, 175, 189, 3, 1, 19, 138, 107, 58, 145, 17, 65, 79, 103, 220, 234, 151, 242, 207, 206, 240, 180, 230, 115, 150, 172, 116, 34, 231, 173, 53, 133, 226, 249, 55, 232, 28, 117, 223, 110, 71, 241, 26, 113, 29, 41, 197, 137, 111, 183, 98, 14, 170, 24, 190, 27, 252, 86, 62, 75, 198, 210, 121, 32, 154, 219, 192, 254, 120, 205, 90, 244, 31, 221, 168, 51, 136, 7, 199, 49, 177, 18, 16, 89, 39, 128, 236, 95, 96, 81, 127, 169, 25, 181, 74, 13, 45, 229, 122, 159, 147, 201, 156, 239, 160, 224, 59, 77, 174, 42, 245, 176, 200, 235, 187, 60, 131, 83, 153, 97, 23, 43, 4, 126, 186, 119, 214, 38, 225, 105, 20, 99, 85, 33, 12, 125]
def tb (t : List Nat) (x : Nat) : Nat := t.getD x 0
theorem sb_len : sb.length = 256 := by decide +kernel
theorem ib_len : ib.length = 256 := by decide +kernel
set_option maxRecDepth 100000 in
theorem sb_256 : ∀ x ∈ sb, x < 256 := by decide +kernel
set_option maxRecDepth 100000 in
theorem ib_256 : ∀ x ∈ ib, x < 256 := by decide +kernel
theorem tb_256 {t : List Nat} (h : ∀ x ∈ t, x < 256) (i : Nat) : tb t i < 256 := by
  unfold tb
  by_cases hi : i < t.length
  · rw [List.getD, List.getElem?_eq_getElem hi]; exact h _ (List.getElem_mem _)
  · rw [List.getD, List.getElem?_eq_none (by omega)]; exact (by decide : (0 : Nat) < 256)
theorem ib_sb : ∀ x, x < 256 → tb ib (tb sb x) = x := by decide +kernel
theorem sb_ib : ∀ x, x < 256 → tb sb (tb ib x) = x := by decide +kernel

/-- A word of four bytes, and its bytes. -/
def pk (a b c d : Nat) : Nat := ((a * 256 + b) * 256 + c) * 256 + d
def b0 (w : Nat) : Nat := w / 16777216
def b1 (w : Nat) : Nat := w / 65536 % 256
def b2 (w : Nat) : Nat := w / 256 % 256
def b3 (w : Nat) : Nat := w % 256
theorem pk_lt {a b c d : Nat} (ha : a < 256) (hb : b < 256) (hc : c < 256) (hd : d < 256) : pk a b c d < 4294967296 := by unfold pk; omega
theorem b0_pk {a b c d : Nat} (hb : b < 256) (hc : c < 256) (hd : d < 256) : b0 (pk a b c d) = a := by unfold b0 pk; omega
theorem b1_pk {a b c d : Nat} (hb : b < 256) (hc : c < 256) (hd : d < 256) : b1 (pk a b c d) = b := by unfold b1 pk; omega
theorem b2_pk {a b c d : Nat} (hc : c < 256) (hd : d < 256) : b2 (pk a b c d) = c := by unfold b2 pk; omega
theorem b3_pk {a b c d : Nat} (hd : d < 256) : b3 (pk a b c d) = d := by unfold b3 pk; omega
theorem b0_lt {w : Nat} (h : w < 4294967296) : b0 w < 256 := by unfold b0; omega
theorem b1_lt (w : Nat) : b1 w < 256 := Nat.mod_lt _ (by omega)
theorem b2_lt (w : Nat) : b2 w < 256 := Nat.mod_lt _ (by omega)
theorem b3_lt (w : Nat) : b3 w < 256 := Nat.mod_lt _ (by omega)
theorem pk_b (w : Nat) : pk (b0 w) (b1 w) (b2 w) (b3 w) = w := by unfold pk b0 b1 b2 b3; omega
theorem xor8 {a b : Nat} (ha : a < 256) (hb : b < 256) : a ^^^ b < 256 := Nat.xor_lt_two_pow (n := 8) (by omega) (by omega)
theorem step_xor (x y a b : Nat) (ha : a < 256) (hb : b < 256) : (x * 256 + a) ^^^ (y * 256 + b) = (x ^^^ y) * 256 + (a ^^^ b) := by
  have h1 : ((x * 256 + a) ^^^ (y * 256 + b)) / 2 ^ 8 = x ^^^ y := by
    rw [Nat.xor_div_two_pow]; congr 1 <;> omega
  have h2 : ((x * 256 + a) ^^^ (y * 256 + b)) % 2 ^ 8 = a ^^^ b := by
    rw [Nat.xor_mod_two_pow]; congr 1 <;> omega
  omega
theorem step_and (x y a b : Nat) (ha : a < 256) (hb : b < 256) : (x * 256 + a) &&& (y * 256 + b) = (x &&& y) * 256 + (a &&& b) := by
  have h1 : ((x * 256 + a) &&& (y * 256 + b)) / 2 ^ 8 = x &&& y := by
    rw [Nat.and_div_two_pow]; congr 1 <;> omega
  have h2 : ((x * 256 + a) &&& (y * 256 + b)) % 2 ^ 8 = a &&& b := by
    rw [Nat.and_mod_two_pow]; congr 1 <;> omega
  omega
theorem step_or (x y a b : Nat) (ha : a < 256) (hb : b < 256) : (x * 256 + a) ||| (y * 256 + b) = (x ||| y) * 256 + (a ||| b) := by
  have h1 : ((x * 256 + a) ||| (y * 256 + b)) / 2 ^ 8 = x ||| y := by
    rw [Nat.or_div_two_pow]; congr 1 <;> omega
  have h2 : ((x * 256 + a) ||| (y * 256 + b)) % 2 ^ 8 = a ||| b := by
    rw [Nat.or_mod_two_pow]; congr 1 <;> omega
  omega
theorem pk_xor {a b c d a' b' c' d' : Nat} (hb : b < 256) (hc : c < 256) (hd : d < 256) (hb' : b' < 256) (hc' : c' < 256) (hd' : d' < 256) : pk a b c d ^^^ pk a' b' c' d' = pk (a ^^^ a') (b ^^^ b') (c ^^^ c') (d ^^^ d') := by
  unfold pk
  rw [step_xor _ _ _ _ hd hd', step_xor _ _ _ _ hc hc', step_xor _ _ _ _ hb hb']
theorem pk_and {a b c d a' b' c' d' : Nat} (hb : b < 256) (hc : c < 256) (hd : d < 256) (hb' : b' < 256) (hc' : c' < 256) (hd' : d' < 256) : pk a b c d &&& pk a' b' c' d' = pk (a &&& a') (b &&& b') (c &&& c') (d &&& d') := by
  unfold pk
  rw [step_and _ _ _ _ hd hd', step_and _ _ _ _ hc hc', step_and _ _ _ _ hb hb']
theorem pk_or {a b c d a' b' c' d' : Nat} (hb : b < 256) (hc : c < 256) (hd : d < 256) (hb' : b' < 256) (hc' : c' < 256) (hd' : d' < 256) : pk a b c d ||| pk a' b' c' d' = pk (a ||| a') (b ||| b') (c ||| c') (d ||| d') := by
  unfold pk
  rw [step_or _ _ _ _ hd hd', step_or _ _ _ _ hc hc', step_or _ _ _ _ hb hb']

/-- The product of 2 and a byte. -/
def xt (x : Nat) : Nat := (2 * x) ^^^ (283 * (x / 128 % 2))
theorem xt_lt : ∀ x, x < 256 → xt x < 256 := by decide +kernel
theorem xt_byte : ∀ x, x < 256 → (2 * (x % 128)) ^^^ (27 * (x / 128)) = xt x := by decide +kernel
theorem bit_xor (x y : Nat) : (x ^^^ y) / 128 % 2 = (x / 128 % 2) ^^^ (y / 128 % 2) := by
  have h1 : (x ^^^ y) / 2 ^ 7 = x / 2 ^ 7 ^^^ y / 2 ^ 7 := Nat.xor_div_two_pow
  have h2 : ((x ^^^ y) / 2 ^ 7) % 2 ^ 1 = (x / 2 ^ 7) % 2 ^ 1 ^^^ (y / 2 ^ 7) % 2 ^ 1 := by rw [h1, Nat.xor_mod_two_pow]
  exact h2
theorem two_xor (x y : Nat) : 2 * (x ^^^ y) = 2 * x ^^^ 2 * y := by
  have h := Nat.shiftLeft_xor_distrib (a := x) (b := y) (i := 1)
  simpa [Nat.shiftLeft_eq, Nat.mul_comm] using h
theorem m283 (p q : Nat) (hp : p < 2) (hq : q < 2) : 283 * (p ^^^ q) = 283 * p ^^^ 283 * q := by
  rcases (by omega : p = 0 ∨ p = 1) with rfl | rfl <;> rcases (by omega : q = 0 ∨ q = 1) with rfl | rfl <;> decide
theorem xt_xor (x y : Nat) : xt (x ^^^ y) = xt x ^^^ xt y := by
  unfold xt
  rw [bit_xor, two_xor, m283 _ _ (Nat.mod_lt _ (by omega)) (Nat.mod_lt _ (by omega))]
  ac_rfl

/-- The functions of words. -/
def subW (t : List Nat) (w : Nat) : Nat := pk (tb t (b0 w)) (tb t (b1 w)) (tb t (b2 w)) (tb t (b3 w))
def dblW (w : Nat) : Nat := pk (xt (b0 w)) (xt (b1 w)) (xt (b2 w)) (xt (b3 w))
def mov1 (w : Nat) : Nat := pk (b1 w) (b2 w) (b3 w) (b0 w)
def mov2 (w : Nat) : Nat := pk (b2 w) (b3 w) (b0 w) (b1 w)
def mov3 (w : Nat) : Nat := pk (b3 w) (b0 w) (b1 w) (b2 w)
def mixW (w : Nat) : Nat := dblW w ^^^ mov1 (dblW w ^^^ w) ^^^ mov2 w ^^^ mov3 w
def umW (w : Nat) : Nat := w ^^^ dblW (dblW (w ^^^ mov2 w))
theorem xor32 {a b : Nat} (ha : a < 4294967296) (hb : b < 4294967296) : a ^^^ b < 4294967296 := Nat.xor_lt_two_pow (n := 32) (by omega) (by omega)
theorem subW_lt {t : List Nat} (h : ∀ x ∈ t, x < 256) (w : Nat) : subW t w < 4294967296 := pk_lt (tb_256 h _) (tb_256 h _) (tb_256 h _) (tb_256 h _)
theorem dblW_lt {w : Nat} (h : w < 4294967296) : dblW w < 4294967296 := pk_lt (xt_lt _ (b0_lt h)) (xt_lt _ (b1_lt _)) (xt_lt _ (b2_lt _)) (xt_lt _ (b3_lt _))
theorem mov1_lt {w : Nat} (h : w < 4294967296) : mov1 w < 4294967296 := pk_lt (b1_lt _) (b2_lt _) (b3_lt _) (b0_lt h)
theorem mov2_lt {w : Nat} (h : w < 4294967296) : mov2 w < 4294967296 := pk_lt (b2_lt _) (b3_lt _) (b0_lt h) (b1_lt _)
theorem mov3_lt {w : Nat} (h : w < 4294967296) : mov3 w < 4294967296 := pk_lt (b3_lt _) (b0_lt h) (b1_lt _) (b2_lt _)
theorem mixW_lt {w : Nat} (h : w < 4294967296) : mixW w < 4294967296 := xor32 (xor32 (xor32 (dblW_lt h) (mov1_lt (xor32 (dblW_lt h) h))) (mov2_lt h)) (mov3_lt h)
theorem umW_lt {w : Nat} (h : w < 4294967296) : umW w < 4294967296 := xor32 h (dblW_lt (dblW_lt (xor32 h (mov2_lt h))))
theorem subW_pk {t : List Nat} {a b c d : Nat} (hb : b < 256) (hc : c < 256) (hd : d < 256) : subW t (pk a b c d) = pk (tb t a) (tb t b) (tb t c) (tb t d) := by
  unfold subW; rw [b0_pk hb hc hd, b1_pk hb hc hd, b2_pk hc hd, b3_pk hd]
theorem dblW_pk {a b c d : Nat} (hb : b < 256) (hc : c < 256) (hd : d < 256) : dblW (pk a b c d) = pk (xt a) (xt b) (xt c) (xt d) := by
  unfold dblW; rw [b0_pk hb hc hd, b1_pk hb hc hd, b2_pk hc hd, b3_pk hd]
theorem mov1_pk {a b c d : Nat} (hb : b < 256) (hc : c < 256) (hd : d < 256) : mov1 (pk a b c d) = pk b c d a := by
  unfold mov1; rw [b0_pk hb hc hd, b1_pk hb hc hd, b2_pk hc hd, b3_pk hd]
theorem mov2_pk {a b c d : Nat} (hb : b < 256) (hc : c < 256) (hd : d < 256) : mov2 (pk a b c d) = pk c d a b := by
  unfold mov2; rw [b0_pk hb hc hd, b1_pk hb hc hd, b2_pk hc hd, b3_pk hd]
theorem mov3_pk {a b c d : Nat} (hb : b < 256) (hc : c < 256) (hd : d < 256) : mov3 (pk a b c d) = pk d a b c := by
  unfold mov3; rw [b0_pk hb hc hd, b1_pk hb hc hd, b2_pk hc hd, b3_pk hd]
/-- A byte of a mixed word. -/
def mb (a b c d : Nat) : Nat := xt a ^^^ (xt b ^^^ b) ^^^ c ^^^ d
def ub (a c : Nat) : Nat := a ^^^ xt (xt (a ^^^ c))
theorem mb_lt {a b c d : Nat} (ha : a < 256) (hb : b < 256) (hc : c < 256) (hd : d < 256) : mb a b c d < 256 := xor8 (xor8 (xor8 (xt_lt _ ha) (xor8 (xt_lt _ hb) hb)) hc) hd
theorem ub_lt {a c : Nat} (ha : a < 256) (hc : c < 256) : ub a c < 256 := xor8 ha (xt_lt _ (xt_lt _ (xor8 ha hc)))
theorem mixW_pk {a b c d : Nat} (ha : a < 256) (hb : b < 256) (hc : c < 256) (hd : d < 256) : mixW (pk a b c d) = pk (mb a b c d) (mb b c d a) (mb c d a b) (mb d a b c) := by
  have xa := xt_lt _ ha
  have xb := xt_lt _ hb
  have xc := xt_lt _ hc
  have xd := xt_lt _ hd
  have ya := xor8 xa ha
  have yb := xor8 xb hb
  have yc := xor8 xc hc
  have yd := xor8 xd hd
  unfold mixW mb
  rw [dblW_pk hb hc hd, pk_xor xb xc xd hb hc hd, mov1_pk yb yc yd, mov2_pk hb hc hd, mov3_pk hb hc hd, pk_xor xb xc xd yc yd ya, pk_xor (xor8 xb yc) (xor8 xc yd) (xor8 xd ya) hd ha hb, pk_xor (xor8 (xor8 xb yc) hd) (xor8 (xor8 xc yd) ha) (xor8 (xor8 xd ya) hb) ha hb hc]
theorem umW_pk {a b c d : Nat} (ha : a < 256) (hb : b < 256) (hc : c < 256) (hd : d < 256) : umW (pk a b c d) = pk (ub a c) (ub b d) (ub c a) (ub d b) := by
  have h1 := xor8 ha hc
  have h2 := xor8 hb hd
  have h3 := xor8 hc ha
  have h4 := xor8 hd hb
  unfold umW ub
  rw [mov2_pk hb hc hd, pk_xor hb hc hd hd ha hb, dblW_pk h2 h3 h4, dblW_pk (xt_lt _ h2) (xt_lt _ h3) (xt_lt _ h4), pk_xor hb hc hd (xt_lt _ (xt_lt _ h2)) (xt_lt _ (xt_lt _ h3)) (xt_lt _ (xt_lt _ h4))]
theorem xcl (x y : Nat) : x ^^^ (x ^^^ y) = y := by rw [← Nat.xor_assoc, Nat.xor_self, Nat.zero_xor]
theorem xlc (x y z : Nat) : x ^^^ (y ^^^ z) = y ^^^ (x ^^^ z) := by rw [← Nat.xor_assoc, Nat.xor_comm x y, Nat.xor_assoc]
theorem mum (a b c d : Nat) : mb (ub (mb a b c d) (mb c d a b)) (ub (mb b c d a) (mb d a b c)) (ub (mb c d a b) (mb a b c d)) (ub (mb d a b c) (mb b c d a)) = a := by
  unfold mb ub
  simp only [xt_xor]
  obtain ⟨p0, h0⟩ : ∃ p, xt a = p := ⟨_, rfl⟩
  obtain ⟨p1, h1⟩ : ∃ p, xt b = p := ⟨_, rfl⟩
  obtain ⟨p2, h2⟩ : ∃ p, xt c = p := ⟨_, rfl⟩
  obtain ⟨p3, h3⟩ : ∃ p, xt d = p := ⟨_, rfl⟩
  rw [h0, h1, h2, h3]
  obtain ⟨q0, k0⟩ : ∃ p, xt p0 = p := ⟨_, rfl⟩
  obtain ⟨q1, k1⟩ : ∃ p, xt p1 = p := ⟨_, rfl⟩
  obtain ⟨q2, k2⟩ : ∃ p, xt p2 = p := ⟨_, rfl⟩
  obtain ⟨q3, k3⟩ : ∃ p, xt p3 = p := ⟨_, rfl⟩
  rw [k0, k1, k2, k3]
  obtain ⟨r0, l0⟩ : ∃ p, xt q0 = p := ⟨_, rfl⟩
  obtain ⟨r1, l1⟩ : ∃ p, xt q1 = p := ⟨_, rfl⟩
  obtain ⟨r2, l2⟩ : ∃ p, xt q2 = p := ⟨_, rfl⟩
  obtain ⟨r3, l3⟩ : ∃ p, xt q3 = p := ⟨_, rfl⟩
  rw [l0, l1, l2, l3]
  simp only [Nat.xor_assoc, Nat.xor_comm, xlc, Nat.xor_self, xcl, Nat.xor_zero]
theorem unmix_mix {w : Nat} (h : w < 4294967296) : mixW (umW (mixW w)) = w := by
  have h0 := b0_lt h
  have h1 := b1_lt w
  have h2 := b2_lt w
  have h3 := b3_lt w
  have e := pk_b w
  obtain ⟨a, ha⟩ : ∃ x, b0 w = x := ⟨_, rfl⟩
  obtain ⟨b, hb⟩ : ∃ x, b1 w = x := ⟨_, rfl⟩
  obtain ⟨c, hc⟩ : ∃ x, b2 w = x := ⟨_, rfl⟩
  obtain ⟨d, hd⟩ : ∃ x, b3 w = x := ⟨_, rfl⟩
  rw [ha, hb, hc, hd] at e
  rw [ha] at h0; rw [hb] at h1; rw [hc] at h2; rw [hd] at h3
  rw [← e, mixW_pk h0 h1 h2 h3, umW_pk (mb_lt h0 h1 h2 h3) (mb_lt h1 h2 h3 h0) (mb_lt h2 h3 h0 h1) (mb_lt h3 h0 h1 h2),
    mixW_pk (ub_lt (mb_lt h0 h1 h2 h3) (mb_lt h2 h3 h0 h1)) (ub_lt (mb_lt h1 h2 h3 h0) (mb_lt h3 h0 h1 h2)) (ub_lt (mb_lt h2 h3 h0 h1) (mb_lt h0 h1 h2 h3)) (ub_lt (mb_lt h3 h0 h1 h2) (mb_lt h1 h2 h3 h0)),
    mum a b c d, mum b c d a, mum c d a b, mum d a b c]
theorem sub_inv {t u : List Nat} (ht : ∀ x ∈ t, x < 256) (h : ∀ x, x < 256 → tb u (tb t x) = x) {w : Nat} (hw : w < 4294967296) : subW u (subW t w) = w := by
  have e : subW t w = pk (tb t (b0 w)) (tb t (b1 w)) (tb t (b2 w)) (tb t (b3 w)) := rfl
  rw [e, subW_pk (tb_256 ht _) (tb_256 ht _) (tb_256 ht _), h _ (b0_lt hw), h _ (b1_lt _), h _ (b2_lt _), h _ (b3_lt _), pk_b]
end Go.Proofs.YtjcdbjapadgdfaaDoor
