/- Decrypting undoes encrypting, and the other way round (no program). -/
import Derived.Test.YtjcdbjapadgdfaaDoorAS
import Derived.Test.YtjcdbjapadgdfaaDoorCJ
import Derived.Test.YtjcdbjapadgdfaaDoorCU
namespace Go.Proofs.YtjcdbjapadgdfaaDoor
open Go.RowKit Go.Shelf

theorem aD_aE {key b : List Nat} (hk : ∀ x ∈ key, x < 256) (hl : b.length = 16) (hb : ∀ x ∈ b, x < 256) : aD key (aE key b) = b := by
  have HEL := encS_lw (wordsL_len key) (wordsL_w32 hk) (wordsL_len b) (wordsL_w32 hb) 11
  unfold aD aE
  rw [words_bytes HEL.1]
  exact (congrArg bytesL (dec_enc (wordsL_len key) (wordsL_w32 hk) (wordsL_len b) (wordsL_w32 hb) 11 (Nat.le_refl _))).trans (bytes_words hl hb)
theorem aE_aD {key b : List Nat} (hk : ∀ x ∈ key, x < 256) (hl : b.length = 16) (hb : ∀ x ∈ b, x < 256) : aE key (aD key b) = b := by
  have HDL := decS_lw (wordsL_len key) (wordsL_w32 hk) (wordsL_len b) (wordsL_w32 hb) 11
  unfold aD aE
  rw [words_bytes HDL.1]
  exact (congrArg bytesL (enc_dec (wordsL_len key) (wordsL_w32 hk) (wordsL_len b) (wordsL_w32 hb) 11 (Nat.le_refl _))).trans (bytes_words hl hb)
theorem xor_xor {a b : List Nat} (h : a.length = b.length) : xorL a (xorL a b) = b := by
  unfold xorL
  refine List.ext_getElem (by rw [List.length_zipWith, List.length_zipWith, h, Nat.min_self, Nat.min_self]) fun i h1 h2 => ?_
  rw [List.getElem_zipWith, List.getElem_zipWith, ← Nat.xor_assoc, Nat.xor_self, Nat.zero_xor]
theorem xor_drop (a b : List Nat) (r : Nat) : (xorL a b).drop r = xorL (a.drop r) (b.drop r) := by
  unfold xorL; rw [List.drop_zipWith]
theorem xor_zero {a : List Nat} {m : Nat} (h : a.length = m) : xorL a (List.replicate m 0) = a := by
  unfold xorL
  refine List.ext_getElem (by rw [List.length_zipWith, List.length_replicate, h, Nat.min_self]) fun i h1 h2 => ?_
  rw [List.getElem_zipWith, List.getElem_replicate, Nat.xor_zero]
theorem xor_same {a : List Nat} {m : Nat} (h : a.length = m) : xorL a a = List.replicate m 0 := by
  unfold xorL
  refine List.ext_getElem (by rw [List.length_zipWith, List.length_replicate, h, Nat.min_self]) fun i h1 h2 => ?_
  rw [List.getElem_zipWith, List.getElem_replicate, Nat.xor_self]
theorem stF_chS (key iv : List Nat) (p : Nat → List Nat) : ∀ k, stF iv (fun k => chS key iv p (k + 1)) k = chS key iv p k
  | 0 => rfl
  | _ + 1 => rfl
/-- Decrypting chained blocks. -/
theorem dF_chS {key iv : List Nat} {p : Nat → List Nat} {n : Nat} (hk : ∀ x ∈ key, x < 256) (hi : iv.length = 16) (hi2 : ∀ x ∈ iv, x < 256) (hp : ∀ k, k < n → (p k).length = 16 ∧ ∀ x ∈ p k, x < 256) {k : Nat} (h : k < n) :
    dF key iv (fun k => chS key iv p (k + 1)) k = p k := by
  have hs := chS_lw (key := key) (p := p) hk hi hi2 k (fun q hq => (hp q (by omega)).2)
  unfold dF
  rw [stF_chS]
  show xorL (chS key iv p k) (aD key (aE key (xorL (chS key iv p k) (p k)))) = p k
  rw [aD_aE hk (xor_len hs.1 (hp k h).1) (xor_256 hs.2 (hp k h).2), xor_xor (hs.1.trans (hp k h).1.symm)]
/-- Chaining what was decrypted. -/
theorem chS_dF {key iv : List Nat} {c : Nat → List Nat} {n : Nat} (hk : ∀ x ∈ key, x < 256) (hi : iv.length = 16) (hc : ∀ k, k < n → (c k).length = 16 ∧ ∀ x ∈ c k, x < 256) : ∀ k, k ≤ n → chS key iv (dF key iv c) k = stF iv c k
  | 0, _ => rfl
  | k + 1, h => by
    have ih := chS_dF hk hi hc k (by omega)
    show aE key (xorL (chS key iv (dF key iv c) k) (dF key iv c k)) = c k
    rw [ih]
    unfold dF
    have hs : (stF iv c k).length = 16 := by
      cases k with
      | zero => exact hi
      | succ k => exact (hc k (by omega)).1
    rw [xor_xor (hs.trans (aD_len hk (hc k h).2).symm), aE_aD hk (hc k h).1 (hc k h).2]
theorem blkB_catN {f : Nat → List Nat} : ∀ n, (∀ k, k < n → (f k).length = 16) → ∀ k, k < n → blkB (catN f n) k = f k
  | 0, _, k, h => absurd h (Nat.not_lt_zero _)
  | n + 1, hf, k, h => by
    have hl := catN_len n (fun k hk => hf k (by omega))
    unfold blkB
    show ((catN f n ++ f n).drop (16 * k)).take 16 = f k
    by_cases hkn : k = n
    · subst hkn
      rw [← hl, List.drop_left, List.take_of_length_le (by rw [hf k h]; exact Nat.le_refl _)]
    · have ih := blkB_catN n (fun k hk => hf k (by omega)) k (by omega)
      unfold blkB at ih
      rw [List.drop_append_of_le_length (by omega), List.take_append_of_le_length (by rw [List.length_drop]; omega), ih]
theorem catN_take {f : Nat → List Nat} (n : Nat) : ∀ m, (∀ k, k < n + m → (f k).length = 16) → (catN f (n + m)).take (16 * n) = catN f n
  | 0, hf => by rw [Nat.add_zero, List.take_of_length_le (by rw [catN_len n (fun k hk => hf k (by omega))]; exact Nat.le_refl _)]
  | m + 1, hf => by
    show (catN f (n + m) ++ f (n + m)).take (16 * n) = _
    rw [List.take_append_of_le_length (by rw [catN_len (n + m) (fun k hk => hf k (by omega))]; omega)]
    exact catN_take n m (fun k hk => hf k (by omega))
theorem catN_blkB : ∀ (n : Nat) {l : List Nat}, l.length = 16 * n → catN (blkB l) n = l
  | 0, l, h => by rw [List.length_eq_zero_iff.1 (by omega : l.length = 0)]; rfl
  | n + 1, l, h => by
    have h1 : (l.take (16 * n)).length = 16 * n := by rw [List.length_take]; omega
    have ih := catN_blkB n h1
    show catN (blkB l) n ++ blkB l n = l
    rw [← catN_congr n (fun k hk => blkB_take l hk), ih]
    unfold blkB
    rw [List.take_of_length_le (l := l.drop (16 * n)) (by rw [List.length_drop]; omega), List.take_append_drop]
theorem take_app {a b : List Nat} {n : Nat} (h : a.length = n) : (a ++ b).take n = a := by rw [← h, List.take_left' rfl]
theorem drop_app {a b : List Nat} {n : Nat} (h : a.length = n) : (a ++ b).drop n = b := by rw [← h, List.drop_left' rfl]
theorem swp_is {l : List Nat} {n : Nat} (hl : l.length = n) (h : 32 ≤ n) : swp l = l.take (n - 32) ++ (l.drop (n - 16) ++ (l.drop (n - 32)).take 16) := by
  subst hl
  unfold swp; rw [if_pos h, List.append_assoc]
theorem swp_swp {l : List Nat} : swp (swp l) = l := by
  obtain ⟨n, hn⟩ : ∃ n, l.length = n := ⟨_, rfl⟩
  by_cases h : 32 ≤ n
  · have e1 : (l.take (n - 32)).length = n - 32 := by rw [List.length_take]; omega
    have e2 : (l.drop (n - 16)).length = 16 := by rw [List.length_drop]; omega
    have e3 : ((l.drop (n - 32)).take 16).length = 16 := by rw [List.length_take, List.length_drop]; omega
    have hl : (swp l).length = n := (swp_len l).trans hn
    have hs := swp_is hn h
    have a1 : (swp l).take (n - 32) = l.take (n - 32) := by rw [hs, take_app e1]
    have a2 : (swp l).drop (n - 32) = l.drop (n - 16) ++ (l.drop (n - 32)).take 16 := by rw [hs, drop_app e1]
    have a3 : (swp l).drop (n - 16) = (l.drop (n - 32)).take 16 := by
      rw [show n - 16 = (n - 32) + 16 by omega, ← List.drop_drop, a2, show n - 16 = (n - 32) + 16 by omega, drop_app (by rw [show (n - 32) + 16 = n - 16 by omega]; exact e2)]
    have a4 : ((swp l).drop (n - 32)).take 16 = l.drop (n - 16) := by rw [a2, take_app e2]
    rw [swp_is hl h, a1, a3, a4]
    have b1 := List.take_append_drop 16 (l.drop (n - 32))
    rw [List.drop_drop, show n - 32 + 16 = n - 16 by omega] at b1
    rw [b1, List.take_append_drop]
  · have : swp l = l := by unfold swp; rw [if_neg (by omega)]
    rw [this, this]
end Go.Proofs.YtjcdbjapadgdfaaDoor
