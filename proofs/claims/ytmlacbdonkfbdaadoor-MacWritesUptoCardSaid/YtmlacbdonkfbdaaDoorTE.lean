/- A Hash as what it has taken in. -/
import Derived.Test.YtmlacbdonkfbdaaDoorTD
namespace Go.Proofs.YtmlacbdonkfbdaaDoor
open Go.RowKit Go.Shelf

/-- The Hash at block g has the bytes zs. -/
def HashAt (zs : List Nat) (g : Nat) (W : World) : Prop := ∃ st tl, HI zs st tl ∧ rowN W g = some (hashA st tl zs.length)
theorem HI.st8 {zs st tl : List Nat} (h : HI zs st tl) : st.length = 8 := by rw [h.st]; exact absB_len rfl _ _
theorem HI.w32 {zs st tl : List Nat} (h : HI zs st tl) : W32 st := by rw [h.st]; exact absB_w32 zero8_w32 _ _
theorem HashAt.keeps {zs : List Nat} {g : Nat} {W V : World} (h : HashAt zs g W) {M : Nat → Prop} (hk : Keeps M W V) (hm : ¬ M g) : HashAt zs g V := by
  obtain ⟨st, tl, hi, hr⟩ := h
  exact ⟨st, tl, hi, hk.row hr hm⟩
theorem HashAt.kept {zs : List Nat} {g : Nat} {W V : World} (h : HashAt zs g W) (hb : Below W.heap.size W V) : HashAt zs g V := by
  obtain ⟨st, tl, hi, hr⟩ := h
  exact ⟨st, tl, hi, keptW hb hr⟩
theorem HashAt.lt {zs : List Nat} {g : Nat} {W : World} (h : HashAt zs g W) : g < W.heap.size := by
  obtain ⟨st, tl, hi, hr⟩ := h
  exact rowN_lt hr
theorem HashAt.zero {g : Nat} {W : World} (hr : rowN W g = some (hashA zero8 z64 0)) : HashAt [] g W := ⟨zero8, z64, HI.zero, hr⟩
theorem write_at (g : Nat) (zs bs : List Nat) (s : Value) (w : World) (hH : HashAt zs g w) (hL : zs.length + bs.length ≤ 140737488355328) (hK : KG w) (hg1 : g ≠ 1) (hB : BytesAt bs s w) (hap : ∀ j, 0 < bs.length → InS s j → j ≠ g) :
    Calls Tryd.prog 27 #[.pointer (some ⟨g, 0, none⟩), s] w fun e w' => e = .returned (.int .i64 0) ∧ HashAt (zs ++ bs) g w' ∧ w.grownBy w' (some g) := by
  obtain ⟨st, tl, hi, hr⟩ := hH
  by_cases hs : zs.length % 64 + bs.length < 64
  · refine (write_short g zs st tl bs s hi hL hs w hr hB).mono ?_
    rintro e w' ⟨rfl, hr', hg⟩
    exact ⟨rfl, ⟨_, _, hi.short hs hB.1, by rw [List.length_append]; exact hr'⟩, hg⟩
  · refine (write_long g zs st tl bs s hi hL (by omega) w hK hg1 hr hB hap).mono ?_
    rintro e w' ⟨rfl, st', tl', hi', hr', hg⟩
    exact ⟨rfl, ⟨st', tl', hi', by rw [List.length_append]; exact hr'⟩, hg⟩
theorem hsum_at (g : Nat) (zs : List Nat) (w : World) (hH : HashAt zs g w) (hL : zs.length ≤ 140737488355328) (hK : KG w) :
    Calls Tryd.prog 29 #[.pointer (some ⟨g, 0, none⟩)] w fun e w' => e = .returned (.agg (arr .u8 (shaL zs))) ∧ Below w.heap.size w w' := by
  obtain ⟨st, tl, hi, hr⟩ := hH
  have h := hsum_any g zs.length st tl hi.st8 hi.w32 hi.len hi.b256 hL w hK hr
  rw [hi.hash] at h
  exact h
theorem copy_at (g : Nat) (zs : List Nat) (w : World) (hH : HashAt zs g w) :
    Calls Tryd.prog 26 #[.pointer (some ⟨g, 0, none⟩)] w fun e w' => e = .returned (.pointer (some ⟨w.heap.size, 0, none⟩)) ∧ HashAt zs w.heap.size w' ∧ Below w.heap.size w w' := by
  obtain ⟨st, tl, hi, hr⟩ := hH
  refine (copy_any g zs.length st tl hi.st8 hi.len w hr).mono ?_
  rintro e w' ⟨rfl, hr', hb⟩
  exact ⟨rfl, ⟨st, tl, hi, hr'⟩, hb⟩
set_option maxRecDepth 100000 in
theorem write_nil (s : Value) (w : World) : Calls Tryd.prog 27 #[.pointer none, s] w fun e w' => e = .returned (.int .i64 1) ∧ Below w.heap.size w w' := by
  have hq : ∀ w, (binOp BinOp.eql 64 (.pointer none) (.pointer none)).run Tryd.prog w = .ok (.bool true) w := fun w => by kernel_rfl
  go_enter Tryd.func27, Tryd.ntmps27
  go_wp2_with fail
  go_ret
  exact ⟨rfl, (Below.refl _ w).alloc (Nat.le_refl _) _⟩
end Go.Proofs.YtmlacbdonkfbdaaDoor
