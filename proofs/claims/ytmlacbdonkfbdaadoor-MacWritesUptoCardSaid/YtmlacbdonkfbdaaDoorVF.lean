/- A Hash behind 128 cells as what it has taken in. -/
import Derived.Test.YtmlacbdonkfbdaaDoorVD
import Derived.Test.YtmlacbdonkfbdaaDoorTE
namespace Go.Proofs.YtmlacbdonkfbdaaDoor
open Go.RowKit Go.Shelf

/-- A Hash with the bytes zs lies in block g behind the 128 cells P. -/
def HashIn (P : Pre) (zs : List Nat) (g : Nat) (W : World) : Prop := ∃ st tl, HI zs st tl ∧ rowN W g = some (hashB P st tl zs.length)
theorem HashIn.keeps {P : Pre} {zs : List Nat} {g : Nat} {W V : World} (h : HashIn P zs g W) {M : Nat → Prop} (hk : Keeps M W V) (hm : ¬ M g) : HashIn P zs g V := by
  obtain ⟨st, tl, hi, hr⟩ := h
  exact ⟨st, tl, hi, hk.row hr hm⟩
theorem HashIn.kept {P : Pre} {zs : List Nat} {g : Nat} {W V : World} (h : HashIn P zs g W) (hb : Below W.heap.size W V) : HashIn P zs g V := by
  obtain ⟨st, tl, hi, hr⟩ := h
  exact ⟨st, tl, hi, keptW hb hr⟩
theorem HashIn.lt {P : Pre} {zs : List Nat} {g : Nat} {W : World} (h : HashIn P zs g W) : g < W.heap.size := by
  obtain ⟨st, tl, hi, hr⟩ := h
  exact rowN_lt hr
theorem HashIn.pre {P : Pre} {zs : List Nat} {g : Nat} {W : World} (h : HashIn P zs g W) (i : Nat) (hi : i < 128) : W.cell? ⟨g, i, none⟩ = P.a[i]? := by
  obtain ⟨st, tl, _, hr⟩ := h
  exact ((rowN_cell hr).1 i).trans (hashB_pre P _ _ _ i hi)
theorem write_in (P : Pre) (g : Nat) (zs bs : List Nat) (s : Value) (w : World) (hH : HashIn P zs g w) (hL : zs.length + bs.length ≤ 140737488355328) (hK : KG w) (hg1 : g ≠ 1) (hB : BytesAt bs s w) (hap : ∀ j, 64 - zs.length % 64 < bs.length → InS s j → j ≠ g) :
    Calls Tryd.prog 27 #[.pointer (some ⟨g, 128, none⟩), s] w fun e w' => e = .returned (.int .i64 0) ∧ HashIn P (zs ++ bs) g w' ∧ w.grownBy w' (some g) := by
  obtain ⟨st, tl, hi, hr⟩ := hH
  by_cases hs : zs.length % 64 + bs.length < 64
  · refine (write_shortI P g zs st tl bs s hi hL hs w hr hB).mono ?_
    rintro e w' ⟨rfl, hr', hg⟩
    exact ⟨rfl, ⟨_, _, hi.short hs hB.1, by rw [List.length_append]; exact hr'⟩, hg⟩
  · refine (write_longI P g zs st tl bs s hi hL (by omega) w hK hg1 hr hB hap).mono ?_
    rintro e w' ⟨rfl, st', tl', hi', hr', hg⟩
    exact ⟨rfl, ⟨st', tl', hi', by rw [List.length_append]; exact hr'⟩, hg⟩
theorem hsum_at_in (P : Pre) (g : Nat) (zs : List Nat) (w : World) (hH : HashIn P zs g w) (hL : zs.length ≤ 140737488355328) (hK : KG w) :
    Calls Tryd.prog 29 #[.pointer (some ⟨g, 128, none⟩)] w fun e w' => e = .returned (.agg (arr .u8 (shaL zs))) ∧ Below w.heap.size w w' := by
  obtain ⟨st, tl, hi, hr⟩ := hH
  have h := hsum_in P g zs.length st tl hi.st8 hi.w32 hi.len hi.b256 hL w hK hr
  rw [hi.hash] at h
  exact h
theorem copy_at_in (P : Pre) (g : Nat) (zs : List Nat) (w : World) (hH : HashIn P zs g w) :
    Calls Tryd.prog 26 #[.pointer (some ⟨g, 128, none⟩)] w fun e w' => e = .returned (.pointer (some ⟨w.heap.size, 0, none⟩)) ∧ HashAt zs w.heap.size w' ∧ Below w.heap.size w w' := by
  obtain ⟨st, tl, hi, hr⟩ := hH
  refine (copy_in P g zs.length st tl hi.st8 hi.len w hr).mono ?_
  rintro e w' ⟨rfl, hr', hb⟩
  exact ⟨rfl, ⟨st, tl, hi, hr'⟩, hb⟩
end Go.Proofs.YtmlacbdonkfbdaaDoor
