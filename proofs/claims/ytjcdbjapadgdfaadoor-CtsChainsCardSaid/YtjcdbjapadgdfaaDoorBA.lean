/- AES: the reference's substitutes; AesSubstitutes walked. -/
import Derived.Test.YtjcdbjapadgdfaaDoorAR
import Derived.Test.YtjcdbjapadgdfaaDoorCX
namespace Go.Proofs.YtjcdbjapadgdfaaDoor
open Go.RowKit Go.Shelf

attribute [local go_sem] Oper.semAt_some
/-- The reference's table. -/
def SG (w : World) : Prop := 0 < w.heap.size ∧ ∀ i, i < 256 → w.cell? ⟨0, i, none⟩ = some (.int .u8 (tb sb i : Nat))
theorem SG.kept {w w' : World} (h : SG w) (hb : Below w.heap.size w w') : SG w' :=
  ⟨Nat.lt_of_lt_of_le h.1 hb.size, fun i hi => (hb.cell (p := ⟨0, i, none⟩) h.1).trans (h.2 i hi)⟩
end Go.Proofs.YtjcdbjapadgdfaaDoor
