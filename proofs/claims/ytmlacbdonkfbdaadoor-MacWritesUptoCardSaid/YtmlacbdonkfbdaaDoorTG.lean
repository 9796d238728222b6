/- What the listed variables give. -/
import Derived.ProofKit
import Derived.LaidMore
import Derived.OpenShut
import Derived.Stop.Joined
import Derived.Test.YtmlacbdonkfbdaaDoorTA
namespace Go.Proofs.YtmlacbdonkfbdaaDoor
open Go.ChangeShapes Go.WideShapes Go.ChangeAt Go.WideMaps Go.WideElems Go.RowKit

theorem gRef : Tryd.prog.globalNamed "watchword/watchwordref04.constants" = some 0 := by kernel_rfl
theorem gSha : Tryd.prog.globalNamed "watchword/sha.constants" = some 1 := by kernel_rfl
theorem tRef : (Tryd.prog.globals[0]?).map (·.type) = some 83 := by kernel_rfl
theorem tSha : (Tryd.prog.globals[1]?).map (·.type) = some 89 := by kernel_rfl
def dnum {H : Type} : DataW H → Int
  | .lit (.int _ n) => n
  | _ => 0
theorem dnum_lits {H : Type} (k : IntKind) : ∀ l : List Int, (lits (H := H) k l).map dnum = l
  | [] => rfl
  | x :: l => by
    have := dnum_lits (H := H) k l
    show dnum (DataW.lit (H := H) (.int k x)) :: (lits (H := H) k l).map dnum = _
    rw [this]; rfl
theorem rg_of {W : World} {cs : Array Value} {f : Nat} {p : List MemPlace} (hv : World.var? Tryd.prog W "watchword/watchwordref04.constants" = some cs)
    (hd : DataW.trod (fun _ => ()) Tryd.prog W 0 (fun _ => true) false f 83 cs.toList = some (Rows.laid_watchword_watchwordref04_constants, p)) : RG W := by
  rcases open_ints Tryd.underlying83 Tryd.underlying3 (by kernel_rfl) hd with ⟨_, hx⟩ | ⟨a, len, cap, zs, hcs, _, hl, hm, hz, hx, hcell, _⟩
  · have e := congrArg Prod.fst hx
    unfold Rows.laid_watchword_watchwordref04_constants at e
    cases e
  · have e := congrArg Prod.fst hx
    unfold Rows.laid_watchword_watchwordref04_constants at e
    injection e with e1 e2
    have e3 := congrArg (List.map dnum) e1
    rw [dnum_lits] at e3
    have e4 : zs.take len = kl.map (fun x => ((x : Nat) : Int)) := e3.symm
    have hzl : zs.length = cap := by simpa using hz
    have hlen : len = 64 := by
      have := congrArg List.length e4
      rw [List.length_map, List.length_take] at this
      have h64 : kl.length = 64 := rfl
      omega
    subst hlen
    have hget : ∀ i, i < 64 → zs.getD i 0 = ((kt i : Nat) : Int) := fun i hi => by
      have h2 : (zs.take 64)[i]? = zs[i]? := by rw [List.getElem?_take, if_pos hi]
      rw [List.getD, ← h2, e4, List.getElem?_map]
      unfold kt
      rw [List.getD, List.getElem?_eq_getElem (show i < kl.length from hi)]; rfl
    have hc0 := hcell 0 (by omega)
    have hspot : a.spot = none := by simpa [Addr.add] using World.cell?_spot hc0
    obtain ⟨b, off, spot⟩ := a
    simp at hspot
    subst hspot
    have hadd : ∀ j, (⟨b, off, none⟩ : Addr).add j = ⟨b, off + j, none⟩ := fun j => by unfold Addr.add; split <;> simp_all
    have hcell0 : W.cell? ⟨0, 0, none⟩ = some (.slice (some ⟨b, off, none⟩) 64 cap) := by
      have := World.var?_cell gRef hv 0
      rw [this, ← Array.getElem?_toList, hcs]; rfl
    refine ⟨World.block_lt_of_cell? W ⟨0, 0, none⟩ hcell0, b, off, cap, hl, hcell0, World.block_lt_of_cell? W ⟨b, off + 0, none⟩ (by rw [← hadd]; exact hc0), fun i hi => ?_⟩
    rw [← hadd, hcell i (by omega), hget i hi]
theorem kg_of {W : World} {cs : Array Value} {f : Nat} {p : List MemPlace} (hv : World.var? Tryd.prog W "watchword/sha.constants" = some cs)
    (hd : DataW.trod (fun _ => ()) Tryd.prog W 0 (fun _ => true) false f 89 cs.toList = some (Rows.laid_watchword_sha_constants, p)) : KG W := by
  obtain ⟨xs, m, rfl, hx, hlen, hn, hel⟩ := DataW.trod_array Tryd.underlying89 hd
  have c33 : Tryd.prog.cellsOf 50 = 1 := by kernel_rfl
  have e := congrArg Prod.fst hx
  unfold Rows.laid_watchword_sha_constants at e
  injection e with e1
  have e3 := congrArg (List.map dnum) e1
  rw [List.map_map] at e3
  have e4 : xs.map (dnum ∘ fun x => x.1) = kl.map (fun x => ((x : Nat) : Int)) := e3.symm
  have hc : ∀ i, i < 64 → W.cell? ⟨1, i, none⟩ = some (.int .u32 (kt i : Nat)) := fun i hi => by
    have h1 := hel i hi
    rw [c33, Nat.mul_one, List.getElem?_eq_getElem (by rw [hn]; exact hi)] at h1
    obtain ⟨n, hcs, hxx, _⟩ := DataW.trod_int Tryd.underlying50 h1
    have h2 : (xs.map (dnum ∘ fun x => x.1))[i]? = some n := by
      rw [List.getElem?_map, List.getElem?_eq_getElem (by rw [hn]; exact hi), Option.map_some, hxx]; rfl
    have h3 : n = ((kt i : Nat) : Int) := by
      rw [e4, List.getElem?_map, List.getElem?_eq_getElem (show i < kl.length from hi)] at h2
      unfold kt
      rw [List.getD, List.getElem?_eq_getElem (show i < kl.length from hi)]
      exact (Option.some.inj h2).symm
    have h4 : cs.toList[i]? = some (.int .u32 n) := by
      have := congrArg (fun l => l[0]?) hcs
      simpa [List.getElem?_take, List.getElem?_drop] using this
    rw [World.var?_cell gSha hv i, ← Array.getElem?_toList, h4, h3]
  exact ⟨World.block_lt_of_cell? W ⟨1, 0, none⟩ (hc 0 (by omega)), hc⟩
/-- Both tables. -/
theorem of_laid2 {W : World} (h : laidMetH Tryd.prog Rows.macSumsRow.laid W) : KG W ∧ RG W := by
  rw [MakeChecks.laidMetH_plain _ _ _ (by kernel_rfl)] at h
  obtain ⟨ps, ⟨g0, t0, cs0, f0, p0, q0, hg0, ht0, hv0, hd0, ⟨g1, t1, cs1, f1, p1, q1, hg1, ht1, hv1, hd1, _, _⟩, _⟩, _, _⟩ := h
  obtain rfl := Option.some.inj (tRef.symm.trans ((Option.some.inj (gRef.symm.trans hg0)).symm ▸ ht0))
  obtain rfl := Option.some.inj (tSha.symm.trans ((Option.some.inj (gSha.symm.trans hg1)).symm ▸ ht1))
  exact ⟨kg_of hv1 hd1, rg_of hv0 hd0⟩
/-- The program's table alone. -/
theorem of_laid1 {W : World} (h : laidMetH Tryd.prog Rows.macNoneRow.laid W) : KG W := by
  rw [MakeChecks.laidMetH_plain _ _ _ (by kernel_rfl)] at h
  obtain ⟨ps, ⟨g1, t1, cs1, f1, p1, q1, hg1, ht1, hv1, hd1, _, _⟩, _, _⟩ := h
  obtain rfl := Option.some.inj (tSha.symm.trans ((Option.some.inj (gSha.symm.trans hg1)).symm ▸ ht1))
  exact kg_of hv1 hd1
end Go.Proofs.YtmlacbdonkfbdaaDoor
