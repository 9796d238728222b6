/- What 'made' comes to: the number and the reference's of the same bytes. -/
import Derived.Test.YtlmfiggmjpjpiaaZR
import Derived.Deep.RegionHeld3
namespace Go.Proofs.Ytlmfiggmjpjpiaa
open Go.RowKit

theorem info_fb_fits {zs : List Nat} (h : valBE 256 zs < P64 ^ 16) : fbV zs = valBE 256 zs ∧ fbE zs = 0 := by
  unfold fbV fbE
  exact ⟨if_pos h, if_pos h⟩
theorem info_fb_full {zs : List Nat} (h : ¬ valBE 256 zs < P64 ^ 16) : fbV zs = 0 ∧ fbE zs = 7 := by
  unfold fbV fbE
  exact ⟨if_neg h, if_neg h⟩

theorem dlen_bytes {zs : List Nat} (h256 : ∀ x ∈ zs, x < 256) (hn : zs.length ≤ 1000000) : dlen 65536 (valBE 256 zs) ≤ 1000000 := by
  refine Nat.le_trans (dlen_le (by omega) (from_all zs h256 zs.length (by omega))) hn

theorem DigN.setRow {v n g x : Nat} {s : Value} {W : World} {cs : Array Value} (h : DigN v n s W) (hr : rowN W g = some (natA x)) : DigN v n s (W.setRow g cs) := by
  obtain ⟨h1, a, c, rfl, h2, h3, h4⟩ := h
  refine ⟨h1, a, c, rfl, h2, h3, ?_⟩
  rcases h4 with h4 | ⟨b, off, rfl, h5, h6⟩
  · exact .inl h4
  · by_cases hn : n = 0
    · exact .inl hn
    · have hne : b ≠ g := by
        rintro rfl
        have h7 := h6 0 (by omega)
        rw [(rowN_cell hr).1] at h7
        by_cases ho : off + 0 < 16
        · rw [natA_get _ _ ho] at h7; cases h7
        · rw [Array.getElem?_eq_none (by rw [natA_size]; omega)] at h7; cases h7
      refine .inr ⟨b, off, rfl, by simpa [World.setRow] using h5, fun j hj => ?_⟩
      rw [← h6 j hj]
      simp only [World.cell?, setRow_other W g b cs hne]

end Go.Proofs.Ytlmfiggmjpjpiaa
