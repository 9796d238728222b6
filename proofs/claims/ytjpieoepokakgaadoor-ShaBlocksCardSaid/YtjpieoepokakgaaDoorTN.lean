/- What a list of strings that came in reads. -/
import Derived.Test.YtjpieoepokakgaaDoorTM
namespace Go.Proofs.YtjpieoepokakgaaDoor
open Go.ChangeShapes Go.WideShapes Go.ChangeAt Go.RowKit Go.Shelf

theorem listAt_of {H : Type} {enc : TypeId × Value → H} {W : World} {fuel : Nat} {cs : List Value} {x : DataW H × List MemPlace}
    (h : DataW.trod enc Tryd.prog W 0 (fun _ => true) true fuel 32 cs = some x) : ∃ v ls, cs = [v] ∧ ListAt ls v W := by
  rcases DataW.trod_slice Tryd.underlying32 h with ⟨h0, _⟩ | ⟨a, len, cap, elems, rest, n, _, hcs, _, _, hl, hm, hlen, hel, _⟩
  · exact ⟨_, [], h0, none, 0, rfl, .inl rfl⟩
  · have c22 : Tryd.prog.cellsOf 22 = 1 := by kernel_rfl
    have each : ∀ i, ∃ z : List Nat, i < len → ∃ s, W.cell? (a.add i) = some s ∧ BytesAt z s W ∧ Nil0 s := by
      intro i
      by_cases hi : i < len
      · have hb := hel i hi
        rw [c22, Nat.mul_one, List.getElem?_eq_getElem (by rw [hlen]; exact hi), Option.bind_eq_some_iff] at hb
        obtain ⟨cs', hc1, hc2⟩ := hb
        rcases open_ints Tryd.underlying22 Tryd.underlying5 (by kernel_rfl) hc2 with ⟨hcs', _⟩ | ⟨ad, l, c, zs, hcs', _, hl', hm', hz, _, hcell, hwz⟩
        · subst hcs'
          obtain ⟨z, _, hz1, hz2⟩ := bytesAt_of W none 0 0 [] (.inl ⟨rfl, rfl, rfl, rfl⟩)
          exact ⟨z, fun _ => ⟨_, cell_of_cells?_one hc1, hz1, hz2⟩⟩
        · subst hcs'
          obtain ⟨z, _, hz1, hz2⟩ := bytesAt_of W (some ad) l c zs (.inr ⟨ad, rfl, hl', hm', by simpa using hz, hcell, hwz⟩)
          exact ⟨z, fun _ => ⟨_, cell_of_cells?_one hc1, hz1, hz2⟩⟩
      · exact ⟨[], fun h => absurd h hi⟩
    obtain ⟨f, hf⟩ := Classical.axiomOfChoice each
    have hll : ((List.range len).map f).length = len := by simp
    refine ⟨_, (List.range len).map f, hcs, some a, cap, by rw [hll], ?_⟩
    rw [hll]
    by_cases h0 : len = 0
    · exact .inl h0
    · obtain ⟨s0, hs0, _⟩ := hf 0 (by omega)
      have hspot : a.spot = none := by simpa [Addr.add] using World.cell?_spot hs0
      obtain ⟨b, off, spot⟩ := a
      simp at hspot
      subst hspot
      have hadd : ∀ j, (⟨b, off, none⟩ : Addr).add j = ⟨b, off + j, none⟩ := fun j => by unfold Addr.add; split <;> simp_all
      refine .inr ⟨b, off, rfl, World.block_lt_of_cell? W ⟨b, off + 0, none⟩ (by rw [← hadd]; exact hs0), fun i hi => ?_⟩
      obtain ⟨s, h1, h2, h3⟩ := hf i hi
      rw [hadd] at h1
      exact ⟨s, h1, by simpa [List.getD, hi] using h2, h3⟩
end Go.Proofs.YtjpieoepokakgaaDoor
