/- What a ciphertext's chain is, by its parts (no program). -/
import Derived.Test.YtjcdbjapadgdfaaDoorDB
namespace Go.Proofs.YtjcdbjapadgdfaaDoor
open Go.RowKit Go.Shelf

theorem decL_one {key iv cs : List Nat} (hk : ∀ x ∈ key, x < 256) (hi : iv.length = 16) (hc : ∀ x ∈ cs, x < 256) (hl : cs.length = 16) : decL key iv cs = xorL iv (aD key cs) := by
  have hn : nB cs.length = 1 := by unfold nB; omega
  have hp : padB cs = cs := padB_whole (n := 1) (by omega)
  have hcd : cdL key cs = cs := by
    unfold cdL mdL
    rw [if_neg (by rw [hn]; omega), hp, swp_one (n := 1) (by omega) (by omega)]
  have hb : blkB cs 0 = cs := by unfold blkB; rw [List.drop_zero, List.take_of_length_le (by omega)]
  unfold decL
  rw [hcd, hn]
  show ([] ++ xorL iv (aD key (blkB cs 0))).take cs.length = _
  rw [hb, List.nil_append, List.take_of_length_le (by rw [xor_len hi (aD_len hk hc)]; omega)]
theorem cdL_two {key cs : List Nat} {m L : Nat} (hk : ∀ x ∈ key, x < 256) (hc : ∀ x ∈ cs, x < 256) (hL : cs.length = L) (hn : nB L = m + 2) :
    cdL key cs = cs.take (16 * m) ++ ((cs.drop (16 * (m + 1)) ++ (aD key ((cs.drop (16 * m)).take 16)).drop (L - 16 * (m + 1))) ++ (cs.drop (16 * m)).take 16) := by
  have hle := nB_le L
  have hlt : 16 * nB L < L + 16 := by unfold nB; omega
  have hml := mdL_len hk hc
  rw [hL, hn] at hml
  rw [hn] at hle hlt
  have h32 : 32 ≤ 16 * (m + 2) := by omega
  have e16 : 16 * (m + 2) - 32 = 16 * m := by omega
  have e17 : 16 * (m + 2) - 16 = 16 * (m + 1) := by omega
  have hs := swp_is hml h32
  rw [e16, e17] at hs
  have hpb : ((padB cs).drop (16 * m)).take 16 = (cs.drop (16 * m)).take 16 := by
    have := pad_blk (T := cs) (L := L) (a := 16 * m) (by omega) (by omega)
    rw [List.take_of_length_le (show cs.length ≤ L by omega)] at this
    exact this
  have hmd : mdL key cs = cs ++ (aD key ((cs.drop (16 * m)).take 16)).drop (L - 16 * (m + 1)) := by
    unfold mdL
    rw [hL, hn, if_pos h32, e16, hpb, show 16 + L - 16 * (m + 2) = L - 16 * (m + 1) by omega]
  have a1 : (mdL key cs).take (16 * m) = cs.take (16 * m) := by rw [hmd, List.take_append_of_le_length (by omega)]
  have a2 : (mdL key cs).drop (16 * (m + 1)) = cs.drop (16 * (m + 1)) ++ (aD key ((cs.drop (16 * m)).take 16)).drop (L - 16 * (m + 1)) := by rw [hmd, List.drop_append_of_le_length (by omega)]
  have a3 : ((mdL key cs).drop (16 * m)).take 16 = (cs.drop (16 * m)).take 16 := by
    rw [hmd, List.drop_append_of_le_length (by omega), List.take_append_of_le_length (by rw [List.length_drop]; omega)]
  unfold cdL
  rw [hs, a1, a2, a3]
end Go.Proofs.YtjcdbjapadgdfaaDoor
