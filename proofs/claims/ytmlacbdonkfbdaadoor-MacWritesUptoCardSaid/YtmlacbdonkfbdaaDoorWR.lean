/- What a list of strings that came in reads, and its bulk. -/
import Derived.ChangeSlices
import Derived.Test.YtmlacbdonkfbdaaDoorWQ
import Derived.Test.YtmlacbdonkfbdaaDoorTG
namespace Go.Proofs.YtmlacbdonkfbdaaDoor
open Go.ChangeShapes Go.WideShapes Go.ChangeAt Go.RowKit Go.Shelf

theorem bulk_one {H : Type} (d : DataW H) : 1 ≤ Rows.uptoBulk d := by
  cases d with
  | lit l => cases l <;> simp [Rows.uptoBulk]
  | _ => simp [Rows.uptoBulk]
theorem bulk_len {H : Type} (l : List (DataW H)) : l.length ≤ Rows.uptoBulkAll l := by
  induction l with
  | nil => simp [Rows.uptoBulkAll]
  | cons x r ih => have := bulk_one x; simp only [Rows.uptoBulkAll, List.length_cons]; omega
theorem bulk_cat {H : Type} : ∀ (ls : List (List Nat)) (es : List (DataW H)), ls.length = es.length → (∀ i y, es[i]? = some y → (ls.getD i []).length ≤ Rows.uptoBulk y) → (catL ls).length ≤ Rows.uptoBulkAll es
  | [], _, _, _ => by simp [catL]
  | l :: ls, [], h, _ => by simp at h
  | l :: ls, e :: es, h, hh => by
    have h1 : l.length ≤ Rows.uptoBulk e := hh 0 e rfl
    have h2 := bulk_cat ls es (by simpa using h) (fun i y hy => hh (i + 1) y hy)
    have h3 : (catL (l :: ls)).length = l.length + (catL ls).length := by unfold catL; rw [List.flatten_cons, List.length_append]
    simp only [Rows.uptoBulkAll]
    omega
theorem listAt_bulk {H : Type} {enc : TypeId × Value → H} {W : World} {fuel : Nat} {cs : List Value} {x : DataW H × List MemPlace}
    (h : DataW.trod enc Tryd.prog W 0 (fun _ => true) true fuel 23 cs = some x) : ∃ v ls, cs = [v] ∧ ListAt ls v W ∧ (∀ l ∈ ls, ∀ y ∈ l, y < 256) ∧ ls.length ≤ Rows.uptoBulk x.1 ∧ (catL ls).length ≤ Rows.uptoBulk x.1 := by
  rcases DataW.trod_slice Tryd.underlying23 h with ⟨h0, _⟩ | ⟨a, len, cap, elems, rest, n, _, hcs, hx, _, hl, hm, hlen, hel, _⟩
  · exact ⟨_, [], h0, ⟨none, 0, rfl, .inl rfl⟩, (fun l h => by cases h), by simp, by simp [catL]⟩
  · have c22 : Tryd.prog.cellsOf 22 = 1 := by kernel_rfl
    have each : ∀ i, ∃ z : List Nat, i < len → (∃ s, W.cell? (a.add i) = some s ∧ BytesAt z s W ∧ Nil0 s) ∧ ∀ y, elems[i]? = some y → z.length ≤ Rows.uptoBulk y.1 := by
      intro i
      by_cases hi : i < len
      · have hb := hel i hi
        rw [c22, Nat.mul_one, List.getElem?_eq_getElem (by rw [hlen]; exact hi), Option.bind_eq_some_iff] at hb
        obtain ⟨cs', hc1, hc2⟩ := hb
        have hy0 : ∀ y, elems[i]? = some y → y = elems[i] := fun y hy => by
          rw [List.getElem?_eq_getElem (by rw [hlen]; exact hi)] at hy; exact (Option.some.inj hy).symm
        rcases open_ints Tryd.underlying22 Tryd.underlying5 (by kernel_rfl) hc2 with ⟨hcs', _⟩ | ⟨ad, l, c, zs, hcs', _, hl', hm', hz, hxx, hcell, hwz⟩
        · subst hcs'
          obtain ⟨z, hzl, hz1, hz2⟩ := bytesAt_of W none 0 0 [] (.inl ⟨rfl, rfl, rfl, rfl⟩)
          exact ⟨z, fun _ => ⟨⟨_, cell_of_cells?_one hc1, hz1, hz2⟩, fun y _ => by rw [hzl]; omega⟩⟩
        · subst hcs'
          obtain ⟨z, hzl, hz1, hz2⟩ := bytesAt_of W (some ad) l c zs (.inr ⟨ad, rfl, hl', hm', by simpa using hz, hcell, hwz⟩)
          refine ⟨z, fun _ => ⟨⟨_, cell_of_cells?_one hc1, hz1, hz2⟩, fun y hy => ?_⟩⟩
          rw [hy0 y hy, hxx, hzl]
          have h3 := bulk_len (H := H) (lits .u8 (zs.take l))
          have h4 : (lits (H := H) .u8 (zs.take l)).length = l := by
            have : zs.length = c := by simpa using hz
            simp [lits]; omega
          simp only [Rows.uptoBulk]
          omega
      · exact ⟨[], fun h => absurd h hi⟩
    obtain ⟨f, hf⟩ := Classical.axiomOfChoice each
    have hll : ((List.range len).map f).length = len := by simp
    have hget : ∀ i, i < len → ((List.range len).map f).getD i [] = f i := fun i hi => by simp [List.getD, hi]
    have hb1 : ((List.range len).map f).length ≤ Rows.uptoBulk x.1 := by
      rw [hll, hx]
      have h3 := bulk_len (elems.map (·.1))
      rw [List.length_map, hlen] at h3
      simp only [Rows.uptoBulk]
      omega
    have hb2 : (catL ((List.range len).map f)).length ≤ Rows.uptoBulk x.1 := by
      have h3 := bulk_cat ((List.range len).map f) (elems.map (·.1)) (by rw [hll, List.length_map, hlen]) (fun i y hy => by
        rw [List.getElem?_map] at hy
        cases he : elems[i]? with
        | none => rw [he] at hy; cases hy
        | some y0 =>
          rw [he] at hy
          have hi : i < len := by rw [← hlen]; exact (List.getElem?_eq_some_iff.1 he).1
          rw [hget i hi]
          have := (hf i hi).2 y0 he
          cases hy; exact this)
      rw [hx]
      simp only [Rows.uptoBulk]
      omega
    have h256 : ∀ l ∈ (List.range len).map f, ∀ y ∈ l, y < 256 := fun l hl y hy => by
      obtain ⟨i, hi, rfl⟩ := List.mem_map.1 hl
      obtain ⟨⟨s, _, hbs, _⟩, _⟩ := hf i (by simpa using hi)
      exact hbs.1 y hy
    refine ⟨_, (List.range len).map f, hcs, ⟨some a, cap, by rw [hll], ?_⟩, h256, hb1, hb2⟩
    rw [hll]
    by_cases h0 : len = 0
    · exact .inl h0
    · obtain ⟨⟨s0, hs0, _⟩, _⟩ := hf 0 (by omega)
      have hspot : a.spot = none := by simpa [Addr.add] using World.cell?_spot hs0
      obtain ⟨b, off, spot⟩ := a
      simp at hspot
      subst hspot
      have hadd : ∀ j, (⟨b, off, none⟩ : Addr).add j = ⟨b, off + j, none⟩ := fun j => by unfold Addr.add; split <;> simp_all
      refine .inr ⟨b, off, rfl, World.block_lt_of_cell? W ⟨b, off + 0, none⟩ (by rw [← hadd]; exact hs0), fun i hi => ?_⟩
      obtain ⟨⟨s, h1, h2, h3⟩, _⟩ := hf i hi
      rw [hadd] at h1
      exact ⟨s, h1, by rw [hget i hi]; exact h2, h3⟩
end Go.Proofs.YtmlacbdonkfbdaaDoor
