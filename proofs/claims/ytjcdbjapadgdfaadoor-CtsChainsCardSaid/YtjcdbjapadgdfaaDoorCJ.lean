/- Whole blocks, encrypted: their chained blocks, the last two exchanged (no program). -/
import Derived.Test.YtjcdbjapadgdfaaDoorCI
namespace Go.Proofs.YtjcdbjapadgdfaaDoor
open Go.RowKit Go.Shelf

theorem nB_whole (n : Nat) : nB (16 * n) = n := by unfold nB; omega
theorem padB_whole {zs : List Nat} {n : Nat} (h : zs.length = 16 * n) : padB zs = zs := by
  unfold padB
  rw [h, nB_whole, Nat.sub_self, List.replicate_zero, List.append_nil]
theorem blkB_take (zs : List Nat) {n k : Nat} (h : k < n) : blkB (zs.take (16 * n)) k = blkB zs k := by
  unfold blkB
  rw [List.drop_take, List.take_take, Nat.min_eq_left (by omega)]
theorem chS_congr (key iv : List Nat) {p q : Nat → List Nat} : ∀ n, (∀ k, k < n → p k = q k) → chS key iv p n = chS key iv q n
  | 0, _ => rfl
  | n + 1, h => by unfold chS; rw [chS_congr key iv n (fun k hk => h k (by omega)), h n (by omega)]
theorem catN_congr {f g : Nat → List Nat} : ∀ n, (∀ k, k < n → f k = g k) → catN f n = catN g n
  | 0, _ => rfl
  | n + 1, h => by unfold catN; rw [catN_congr n (fun k hk => h k (by omega)), h n (by omega)]
/-- The ciphertext of the first n blocks of a string. -/
theorem enc_whole {key iv zs : List Nat} {n : Nat} (hk : ∀ x ∈ key, x < 256) (hi : iv.length = 16) (hi2 : ∀ x ∈ iv, x < 256) (hz : ∀ x ∈ zs, x < 256) (h : 16 * n ≤ zs.length) :
    encL key iv (zs.take (16 * n)) = swp (catN (fun k => chS key iv (blkB zs) (k + 1)) n) := by
  have hl : (zs.take (16 * n)).length = 16 * n := by rw [List.length_take]; omega
  have hc : catN (chF key iv (zs.take (16 * n))) n = catN (fun k => chS key iv (blkB zs) (k + 1)) n := catN_congr n (fun k hkn => by
    show chS key iv (blkB (padB (zs.take (16 * n)))) (k + 1) = _
    rw [padB_whole hl]
    exact chS_congr key iv (k + 1) (fun q hq => blkB_take zs (by omega)))
  have hcl : (catN (fun k => chS key iv (blkB zs) (k + 1)) n).length = 16 * n := catN_len n (fun k hkn => (chS_lw hk hi hi2 (k + 1) (fun q hq x hx => hz x (List.mem_of_mem_drop (List.mem_of_mem_take hx)))).1)
  unfold encL
  rw [hl, nB_whole, hc, List.take_of_length_le (by rw [swp_len, hcl]; exact Nat.le_refl _)]
/-- One block stays where it is. -/
theorem swp_one {l : List Nat} {n : Nat} (h : l.length = 16 * n) (hn : n ≤ 1) : swp l = l := by
  unfold swp; rw [if_neg (by omega)]
/-- Of several blocks the last two change places. -/
theorem swp_two {l : List Nat} {n : Nat} (h : l.length = 16 * n) (hn : 2 ≤ n) : swp l = l.take (16 * (n - 2)) ++ l.drop (16 * (n - 2) + 16) ++ (l.take (16 * (n - 2) + 16)).drop (16 * (n - 2)) := by
  unfold swp
  rw [if_pos (by omega), h, show 16 * n - 32 = 16 * (n - 2) by omega, show 16 * n - 16 = 16 * (n - 2) + 16 by omega, List.drop_take, show 16 * (n - 2) + 16 - 16 * (n - 2) = 16 by omega]
end Go.Proofs.YtjcdbjapadgdfaaDoor
