/- A region that draws its order, inside a round of a range over a func: what is shown of it outside serves there too (no operation of it is a defer). -/
import Derived.OrdersHeld
import Derived.Deep.RegionHeld
import Derived.OrdersIn
import Derived.Test.YtjcdbjapadgdfaaDoorAJ
namespace Go.Proofs.YtjcdbjapadgdfaaDoor
open Go.RowKit Go.Shelf

/-- It ends as usual, and K holds. -/
def Nor (K : Act → World → Prop) : Exit → Act → World → Prop := fun e a w => e = .normal ∧ K a w
theorem nor_lets {K : Act → World → Prop} (h : LetsOut (Nor K)) : False := by
  obtain ⟨a, w, h, _⟩ := h; cases h
section
variable {P : Program} {ops : Array Oper} {md : Region.Mode} {l n : Nat} {K : Act → World → Prop} {Q : Exit → Act → World → Prop}
theorem opIn_of {o : Oper} {a : Act} {w : World} {N : Act → World → Prop} (hnd : ∀ c : Call, o.op ≠ Op.defer c) (h : o.wp P a w N (Nor K)) : o.wpIn (Fence.wide.inRound l) n P a w N Q := by
  unfold Oper.wpIn
  rw [Oper.semAt_eq _ _ _ hnd]
  refine ⟨fun _ _ => trivial, ?_⟩
  unfold Oper.wp at h
  generalize (execOp a.eval o).run P w = r at *
  match r, h with
  | .ok (.value v) w', h => exact h
  | .ok .skip w', h => exact h
  | .ok (.defer d) w', h => exact h
  | .ok (.enter f args) w', h =>
    refine ⟨fun hd => (by cases hd), ?_⟩
    refine (CallsIn.inRound l (callsIn_wide.2 h)).mono ?_
    intro e w'' he
    cases e with
    | returned v => exact he
    | panicked c => exact absurd he.1 (by intro e; cases e)
    | outgrown => exact (nor_lets he).elim
  | .ok (.row row args) w', h =>
    refine ⟨fun hd => (by cases hd), ?_⟩
    exact fun c cs _ => let ⟨v, w2, r, s⟩ := h c cs; ⟨v, w2, r, stepsIn_wide.2 s⟩
  | .halt (.panic v) w', h => exact absurd h.1 (by intro e; cases e)
theorem anyIn_of (hnd : ∀ (i : Nat) (o : Oper), ops[i]? = some o → ∀ c : Call, o.op ≠ Op.defer c) (hQ : ∀ a w, K a w → Q .normal a w) : ∀ (fuel : Nat) (listed : Array Bool) (a : Act) (w : World),
    wpAny P md ops (Nor K) fuel listed a w → wpAnyIn (Fence.wide.inRound l) n P md ops Q fuel listed a w := by
  intro fuel
  induction fuel with
  | zero => intro listed a w h; exact ⟨h.1, hQ _ _ h.2.2⟩
  | succ fuel ih =>
    intro listed a w h
    refine ⟨fun hr => hQ _ _ (h.1 hr).2, fun i hi => ?_⟩
    have h1 := h.2 i hi
    unfold wpOp at h1
    unfold wpOpIn
    split
    · rename_i ho; simp only [ho] at h1; exact ih _ _ _ h1
    · rename_i o ho
      simp only [ho] at h1
      split
      · rename_i hw
        simp only [hw, if_true] at h1
        rcases h1 with h1 | ⟨_, h1⟩
        · exact Oper.wpIn_mono (fun a w => ih _ a w) (opIn_of (hnd i o ho) h1)
        · exact (nor_lets h1).elim
      · rename_i hw
        simp only [hw] at h1
        exact ⟨fun _ _ => trivial, ih _ _ _ (by simpa using h1)⟩
theorem regionIn_held {S : World → Prop} {id : Nat} {a : Act} {w : World} (hm : P.follows .mixedOrders = true) (hnd : (ops.toList.all fun o => match o.op with | .defer _ => false | _ => true) = true) (hQ : ∀ a w, K a w → Q .normal a w) (hS : S w.drew)
    (h : S w.drew → wpAnyH P .any ops (Nor K) S ops.size (Array.replicate ops.size false) a w.drew) : (Code.region id ops true).wpIn (Fence.wide.inRound l) n P Q a w := by
  refine wpIn_region_any hm (anyIn_of (fun i o ho c e => ?_) hQ _ _ _ _ (wpAny_of_held _ _ _ _ (h hS)))
  have hmem : o ∈ ops.toList := Array.mem_toList_iff.2 (Array.mem_of_getElem? ho)
  have := List.all_eq_true.1 hnd o hmem
  rw [e] at this
  cases this
end
end Go.Proofs.YtjcdbjapadgdfaaDoor
