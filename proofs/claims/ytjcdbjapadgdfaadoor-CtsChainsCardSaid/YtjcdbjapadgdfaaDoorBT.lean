/- What the listed variable gives. -/
import Derived.ProofKit
import Derived.LaidMore
import Derived.OpenShut
import Derived.Stop.Joined
import Derived.Test.YtjcdbjapadgdfaaDoorRows
import Derived.Test.YtjcdbjapadgdfaaDoorBA
namespace Go.Proofs.YtjcdbjapadgdfaaDoor
open Go.ChangeShapes Go.WideShapes Go.ChangeAt Go.WideMaps Go.WideElems Go.RowKit

theorem gSub : Tryd.prog.globalNamed "watchword/watchwordref06.substitutes" = some 0 := by kernel_rfl
theorem tSub : (Tryd.prog.globals[0]?).map (·.type) = some 55 := by kernel_rfl
def dnum {H : Type} : DataW H → Int
  | .lit (.int _ n) => n
  | _ => 0
set_option maxRecDepth 100000 in
theorem laid_eq {H : Type} : (Rows.laid_watchword_watchwordref06_substitutes : DataW H) = .agg (sb.map fun x => .lit (.int .u8 ((x : Nat) : Int))) := by kernel_rfl
theorem sg_of {W : World} {cs : Array Value} {f : Nat} {p : List MemPlace} (hv : World.var? Tryd.prog W "watchword/watchwordref06.substitutes" = some cs)
    (hd : DataW.trod (fun _ => ()) Tryd.prog W 0 (fun _ => true) false f 55 cs.toList = some (Rows.laid_watchword_watchwordref06_substitutes, p)) : SG W := by
  obtain ⟨xs, m, rfl, hx, hlen, hn, hel⟩ := DataW.trod_array Tryd.underlying55 hd
  have c5 : Tryd.prog.cellsOf 5 = 1 := by kernel_rfl
  have e := congrArg Prod.fst hx
  rw [laid_eq] at e
  injection e with e1
  have e3 := congrArg (List.map dnum) e1
  rw [List.map_map, List.map_map] at e3
  have e4 : xs.map (dnum ∘ fun x => x.1) = sb.map (fun x => ((x : Nat) : Int)) := e3.symm
  have hc : ∀ i, i < 256 → W.cell? ⟨0, i, none⟩ = some (.int .u8 (tb sb i : Nat)) := fun i hi => by
    have h1 := hel i hi
    rw [c5, Nat.mul_one, List.getElem?_eq_getElem (by rw [hn]; exact hi)] at h1
    obtain ⟨n, hcs, hxx, _⟩ := DataW.trod_int Tryd.underlying5 h1
    have h2 : (xs.map (dnum ∘ fun x => x.1))[i]? = some n := by
      rw [List.getElem?_map, List.getElem?_eq_getElem (by rw [hn]; exact hi), Option.map_some, hxx]; rfl
    have h3 : n = ((tb sb i : Nat) : Int) := by
      rw [e4, List.getElem?_map, List.getElem?_eq_getElem (show i < sb.length by rw [sb_len]; exact hi)] at h2
      unfold tb
      rw [List.getD, List.getElem?_eq_getElem (show i < sb.length by rw [sb_len]; exact hi)]
      exact (Option.some.inj h2).symm
    have h4 : cs.toList[i]? = some (.int .u8 n) := by
      have := congrArg (fun l => l[0]?) hcs
      simpa [List.getElem?_take, List.getElem?_drop] using this
    rw [World.var?_cell gSub hv i, ← Array.getElem?_toList, h4, h3]
  exact ⟨World.block_lt_of_cell? W ⟨0, 0, none⟩ (hc 0 (by omega)), hc⟩
theorem of_laid1 {W : World} (h : laidMetH Tryd.prog Rows.ctsTextsRow.laid W) : SG W := by
  rw [MakeChecks.laidMetH_plain _ _ _ (by kernel_rfl)] at h
  obtain ⟨ps, ⟨g1, t1, cs1, f1, p1, q1, hg1, ht1, hv1, hd1, _, _⟩, _, _⟩ := h
  obtain rfl := Option.some.inj (tSub.symm.trans ((Option.some.inj (gSub.symm.trans hg1)).symm ▸ ht1))
  exact sg_of hv1 hd1
theorem of_laid2 {W : World} (h : laidMetH Tryd.prog Rows.ctsChainsRow.laid W) : SG W := by
  rw [MakeChecks.laidMetH_plain _ _ _ (by kernel_rfl)] at h
  obtain ⟨ps, ⟨g1, t1, cs1, f1, p1, q1, hg1, ht1, hv1, hd1, _, _⟩, _, _⟩ := h
  obtain rfl := Option.some.inj (tSub.symm.trans ((Option.some.inj (gSub.symm.trans hg1)).symm ▸ ht1))
  exact sg_of hv1 hd1
end Go.Proofs.YtjcdbjapadgdfaaDoor
