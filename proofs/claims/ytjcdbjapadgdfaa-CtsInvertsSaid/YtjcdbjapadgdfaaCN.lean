/- CtsExchanges: a consumer of chained blocks that puts them one behind the other; a list of slices of its own. -/
import Derived.Test.YtjcdbjapadgdfaaCM
namespace Go.Proofs.Ytjcdbjapadgdfaa
open Go.RowKit Go.Shelf

attribute [local go_sem] Oper.semAt_some
/-- A row of one's own, laid behind B1, abides what turns between B and B1, and loops' books. -/
theorem own_abide {V Y : World} {B B1 size n : Nat} {e : TypeId} {v : Value} {xs : List Value} {row : Option Nat} (h : V.ownsRow B1 e size v n xs) (hg : V.grownBy Y row)
    (hr : ∀ r, row = some r → (B ≤ r ∧ r < B1) ∨ (B ≤ r ∧ ∃ o : Obj, V.heap[r]? = some o ∧ o.isCells = false)) : Y.ownsRow B1 e size v n xs := by
  have h2 := h.2
  rcases h2 with ⟨e1, _⟩ | ⟨g, cap, cur, e1, hb, hh, _⟩
  · exact h.kept hg (.inl (by rw [e1]; rfl))
  · refine h.kept hg (.inr (fun e2 => ?_))
    rw [e1] at e2
    rcases hr g e2.symm with h3 | ⟨_, o, ho, hoc⟩
    · omega
    · rw [hh] at ho; cases ho; cases hoc
/-- The consumer's data: the slice that lies in block gbx holds the first k blocks. -/
def CxI (f : Nat → List Nat) (gbx : Nat) (w : World) (B1 k : Nat) (V : World) : Prop :=
  ∃ s, rowN V gbx = some #[s] ∧ V.ownsRow B1 5 1 s (16 * k) (cl (catN f k)) ∧ Below w.heap.size w V
theorem cxI_abide (f : Nat → List Nat) (gbx : Nat) (w : World) {B : Nat} (h1 : gbx < B) (h2 : w.heap.size ≤ B) (B1 : Nat) : Abide B B1 (CxI f gbx w B1) := by
  rintro k X Y row ⟨s, a1, a2, a3⟩ hg hr
  refine ⟨s, (grownBy_rowN hg (rowN_lt a1) (fun e => ?_)).trans a1, own_abide a2 hg hr, a3.grown hg a3.size (fun r e => ?_)⟩
  · have := hr gbx e.symm; omega
  · have := hr r e; omega
/-- The slices of a string's first n blocks. -/
def vsB (b off c : Nat) (i : Nat) : Value := .slice (some ⟨b, off + 16 * i, none⟩) 16 (c - 16 * i)
def vsL (b off c n : Nat) : List Value := (List.range n).map (vsB b off c)
theorem vsL_succ (b off c n : Nat) : vsL b off c (n + 1) = vsL b off c n ++ [vsB b off c n] := by
  unfold vsL; rw [List.range_succ, List.map_append]; rfl
theorem vsL_one (b off c n : Nat) : ∀ u ∈ vsL b off c n, u.oneCell' = true := by
  intro u hu
  unfold vsL at hu
  obtain ⟨i, _, rfl⟩ := List.mem_map.1 hu
  rfl
theorem lsAt_own {base b off c n : Nat} {s : Value} {W : World} (h : W.ownsRow base 22 1 s n (vsL b off c n)) : LsAt n (vsB b off c) s W ∧ ∀ j, InS s j → base ≤ j := by
  rcases h.2 with ⟨e, e0⟩ | ⟨g, cap, cur, e, hb, hh, hc, _, _, ht⟩
  · subst e0
    exact ⟨⟨none, 0, e, Nat.le_refl _, .inl rfl⟩, fun j hj => by obtain ⟨o, sp, L, c', e2⟩ := hj; rw [e] at e2; cases e2⟩
  · refine ⟨⟨_, cap, e, hc, .inr ⟨g, 0, rfl, (Array.getElem?_eq_some_iff.1 hh).1, fun k hk => ?_⟩⟩, fun j hj => by obtain ⟨o, sp, L, c', e2⟩ := hj; rw [e] at e2; cases e2; exact hb⟩
    rw [Nat.zero_add, cell_of_row W g k cur 22 (0, 0) hh, ← Array.getElem?_toList]
    have h1 : (vsL b off c n)[k]? = some (vsB b off c k) := by unfold vsL; rw [List.getElem?_map, List.getElem?_range hk]; rfl
    rw [← ht, Nat.mul_one, List.getElem?_take, if_pos hk] at h1
    exact h1
theorem bytes_vsB {zs : List Nat} {b off L c : Nat} {W : World} (h : BytesAt zs (.slice (some ⟨b, off, none⟩) L c) W) {n k : Nat} (hL : 16 * n ≤ zs.length) (hc : zs.length ≤ c) (hk : k < n) : BytesAt (blkB zs k) (vsB b off c k) W :=
  bytes_cutm h (16 * k) 16 (c - 16 * k) (by omega) (by omega)
end Go.Proofs.Ytjcdbjapadgdfaa
