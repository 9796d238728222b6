/- CtsExchanges: what its walk needs. -/
import Derived.Test.YtjcdbjapadgdfaaCN
namespace Go.Proofs.Ytjcdbjapadgdfaa
open Go.RowKit Go.Shelf

attribute [local go_sem] Oper.semAt_some
theorem run_slice22_lh (b off L c l h : Nat) (hl : l < h) (hh : h ≤ c) (W : World) :
    (Instr.sliceAt 22 (.slice (some ⟨b, off, none⟩) L c) (some (.int .i64 (l : Nat))) (some (.int .i64 (h : Nat))) none).run Try.prog W = .ok (.slice (some ⟨b, off + l, none⟩) (h - l) (c - l)) W := by
  have e1 : ((h : Nat) : Int).toNat = h := Int.toNat_natCast h
  have e2 : ((l : Nat) : Int).toNat = l := Int.toNat_natCast l
  have e5 : ¬ c = l := by omega
  have e6 : ((l : Nat) : Int) ≤ (h : Int) := by omega
  have e7 : (0 : Int) ≤ (l : Int) := by omega
  have e8 : max ((l : Nat) : Int) 0 = l := by omega
  have e9 : ((h : Nat) : Int) ≤ (c : Int) := by omega
  have e10 : (0 : Int) ≤ (h : Int) := by omega
  have e11 : max ((h : Nat) : Int) 0 = h := by omega
  go_simp
theorem inf22 : (Try.prog.info? 22).map (fun i => (i.zero, i.size, i.bytes)) = some (some (.slice none 0 0), 1, 24) := by kernel_rfl
/-- The end of a consumer's round: the slice in block gbx is a grown one. -/
theorem cx_end {f : Nat → List Nat} {gbx B B1 q : Nat} {w X X2 : World} {s s' : Value} {R own : Nat → Prop} (hb : gbx < B) (hbR : ¬ R gbx) (hRB : ∀ j, R j → j < B1) (hBB : B ≤ B1) (hwB : w.heap.size ≤ gbx)
    (hr : rowN X gbx = some #[s]) (ho : X.ownsRow B1 5 1 s (16 * q) (cl (catN f q))) (hw : Below w.heap.size w X)
    (ho2 : X2.ownsRow B1 5 1 s' (16 * q + 16) (cl (catN f q) ++ cl (f q))) (hg : X.grownBy X2 s.ownBlock) :
    KeepsFrom B X (X2.setCell ⟨gbx, 0, none⟩ s') ∧ Keeps (fun j => ¬ R j ∨ own j) X (X2.setCell ⟨gbx, 0, none⟩ s') ∧ CxI f gbx w B1 (q + 1) (X2.setCell ⟨gbx, 0, none⟩ s') := by
  have hown : ∀ r, s.ownBlock = some r → B1 ≤ r ∧ ∃ o : Obj, X.heap[r]? = some o ∧ o.isCells = true := by
    intro r e
    rcases ho.2 with ⟨e1, _⟩ | ⟨g, cap, cur, e1, hb2, hh, _⟩
    · rw [e1] at e; cases e
    · rw [e1] at e; cases e; exact ⟨hb2, _, hh, rfl⟩
  have hr2 : rowN X2 gbx = some #[s] := (grownBy_rowN hg (rowN_lt hr) (fun e => by have := (hown _ e.symm).1; omega)).trans hr
  have hsc : X2.grownBy (X2.setCell ⟨gbx, 0, none⟩ s') (some gbx) := grown_setCell _ _ _ _
  have hk1 : Keeps (fun j => ¬ R j ∨ own j) X X2 := Keeps.of_grownBy hg (fun r e => .inl (fun h => by have := (hown r e).1; have := hRB r h; omega))
  have hk2 : Keeps (fun j => ¬ R j ∨ own j) X2 (X2.setCell ⟨gbx, 0, none⟩ s') := Keeps.of_grownBy hsc (fun r e => by cases e; exact .inl hbR)
  refine ⟨KeepsFrom.trans (Y := X2) ⟨hg.size, fun j o hj hx hoc => (hg.block j (Array.getElem?_eq_some_iff.1 hx).1 (fun e => ?_)).trans hx⟩ (KeepsFrom.of_grownBy hsc (fun r e => by cases e; exact hb)), hk1.trans hk2, s', row_set0 hr2, ?_, ?_⟩
  · obtain ⟨_, o2, ho2, hoc2⟩ := hown j e.symm
    rw [hx] at ho2; cases ho2; rw [hoc] at hoc2; cases hoc2
  · rw [show 16 * (q + 1) = 16 * q + 16 by omega, show catN f (q + 1) = catN f q ++ f q from rfl, cl_app]
    refine ho2.kept hsc (.inr (fun e => ?_))
    rcases ho2.2 with ⟨e1, _⟩ | ⟨g, cap, cur, e1, hb2, _⟩
    · rw [e1] at e; cases e
    · rw [e1] at e
      have e2 : g = gbx := by simpa [Value.ownBlock] using e
      omega
  · exact (hw.grown hg hw.size (fun r e => by have := (hown r e).1; omega)).setCell (p := ⟨gbx, 0, none⟩) hwB _
def XlR (n b off c : Nat) (w : World) (v i : Value) (wr : World) : Prop :=
  ∃ k : Nat, k ≤ n ∧ i = .int .i64 (k : Nat) ∧ wr.ownsRow w.heap.size 22 1 v k (vsL b off c k) ∧ Below w.heap.size w wr
end Go.Proofs.Ytjcdbjapadgdfaa
