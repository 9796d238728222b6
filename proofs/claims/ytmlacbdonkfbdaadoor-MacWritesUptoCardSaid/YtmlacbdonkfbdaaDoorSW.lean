/- The reference's block: sums, no program. -/
import Derived.Test.YtmlacbdonkfbdaaDoorSV
namespace Go.Proofs.YtmlacbdonkfbdaaDoor
open Go.RowKit

theorem plusL_swap {s x y : List Nat} (hs : s.length = 8) (hx : x.length = 8) (hy : y.length = 8) : plusL (plusL s x) y = plusL (plusL s y) x := by
  refine List.ext_getElem? fun i => ?_
  unfold plusL
  by_cases hi : i < 8
  · simp [hs, hx, hy, hi]
    omega
  · rw [List.getElem?_eq_none (by simp [hs, hx, hy]; omega), List.getElem?_eq_none (by simp [hs, hx, hy]; omega)]
/-- The words of the hash after a block, as the reference keeps them. -/
def refL (h b : List Nat) : List Nat := plusL h (rnds (sch b 64) (V8.of h) 64).list
theorem refL_abs {s b : List Nat} (hs : s.length = 8) : refL (plusL s iv) b = plusL (absL s b) iv := by
  unfold refL absL
  exact plusL_swap hs iv_len (list_len _)
theorem zero_iv : plusL zero8 iv = iv := by decide +kernel
end Go.Proofs.YtmlacbdonkfbdaaDoor
