/- Regions that only read, inside a round of a range over a func: the library's one walk of the text's order asks for a fence without a round; no operation of ours is a defer, so that it serves inside a round as well. -/
import Derived.Sort.QuietIn
import Derived.Sort.QuietTacIn
import Derived.Test.YtjpieoepokakgaaDoorUA
namespace Go.Proofs.YtjpieoepokakgaaDoor
open Go.RowKit Go.Shelf

section
variable {F : Fence} {n : Nat} {P : Program} {ops : Array Oper} {C : World → Prop} {md : Region.Mode}
theorem quiet_op {o : Oper} {a : Act} {K : Act → Prop} {K' : Act → World → Prop} {Q : Exit → Act → World → Prop} {w : World} (hnd : ∀ c : Call, o.op ≠ Op.defer c) (hw : C w) (h : ∀ a w', C w' → K a → K' a w')
    (ha : o.askedIn F P a C) (hh : o.quietIn F n P a C K) : o.wpIn F n P a w K' Q := by
  obtain ⟨v, hv, hK⟩ := hh
  have hq := hv w hw
  unfold Oper.wpIn
  rw [Oper.semAt_eq _ _ _ hnd]
  refine ⟨ha w hw, ?_⟩
  unfold Oper.quietAtIn at hq
  revert hq
  generalize (execOp a.eval o).run P w = r
  intro hq
  match r, hq with
  | .ok (.value u) w', hq =>
    obtain ⟨rfl, rfl⟩ : w' = w ∧ u = v := hq
    simp only [Oper.uponIn]
    exact h _ _ hw hK
  | .ok .skip w', hq =>
    obtain ⟨rfl, rfl⟩ : w' = w ∧ v = undef := hq
    simp only [Oper.uponIn]
    exact h _ _ hw hK
  | .ok (.enter f args) w', hq =>
    obtain ⟨rfl, hd, hc⟩ := hq
    simp only [Oper.uponIn]
    exact ⟨hd, hc.mono fun e w'' ⟨he, hw''⟩ => by subst he; exact h _ _ hw'' hK⟩
theorem quiet_any {Q : Act → Prop} {Q' : Exit → Act → World → Prop} (hnd : ∀ (i : Nat) (o : Oper), ops[i]? = some o → ∀ c : Call, o.op ≠ Op.defer c) (hQ : ∀ a w, C w → Q a → Q' .normal a w) : ∀ (fuel : Nat) (listed : Array Bool) (a : Act) (w : World), C w →
    wpAnyQIn F n P md ops C Q fuel listed a → wpAnyIn F n P md ops Q' fuel listed a w := by
  intro fuel
  induction fuel with
  | zero => intro listed a w hw h; exact ⟨h.1, hQ _ _ hw h.2⟩
  | succ fuel ih =>
    intro listed a w hw h
    refine ⟨fun h0 => hQ _ _ hw (h.1 h0), fun i hi => ?_⟩
    have hi2 := h.2 i hi
    unfold qOpIn at hi2
    unfold wpOpIn
    cases ho : ops[i]? with
    | none => simp only [ho] at hi2; exact ih _ _ _ hw hi2
    | some o =>
      simp only [ho] at hi2 ⊢
      obtain ⟨ha, hh⟩ := hi2
      by_cases hwt : Region.wanted o (yielded ops a.tmps) = true
      · rw [if_pos hwt] at hh ⊢
        exact quiet_op (hnd i o ho) hw (fun a' w' hw' h' => ih _ _ _ hw' h') ha hh
      · rw [if_neg hwt] at hh ⊢
        exact ⟨ha w hw, ih _ _ _ hw hh⟩
theorem quiet_round_lit {id : Nat} {Q : Exit → Act → World → Prop} {a : Act} {w : World} {l : List Oper} (hnd : (l.all fun o => match o.op with | .defer _ => false | _ => true) = true) (hm : P.follows .mixedOrders = true) (hB : Region.lexB .any l.toArray = true)
    (h : wpQuietIn F n P l.toArray (fun w' => ∃ n, w' = w.drewN n) (fun a' => ∀ w', (∃ n, w' = w.drewN n) → Q .normal a' w') l a) : (Code.region id l.toArray true).wpIn F n P Q a w := by
  simp only [Region.lexB, Bool.and_eq_true] at hB
  refine wpIn_region_any hm (quiet_any (C := fun w' => ∃ n, w' = w.drewN n) (Q := fun a' => ∀ w', (∃ n, w' = w.drewN n) → Q .normal a' w') (fun i o ho c e => ?_) (fun _ w' hw' h => h w' hw') _ _ _ _ ⟨1, rfl⟩ ?_)
  · have hmem : o ∈ l := List.mem_of_getElem? (by simpa using ho)
    have := List.all_eq_true.1 hnd o hmem
    rw [e] at this
    cases this
  · have := wpAnyQIn_lex (F := F) (n := n) (P := P) (C := fun w' => ∃ n, w' = w.drewN n) (md := .any) hB.1 l 0 (Array.replicate l.toArray.size false) a (by simp) (by simpa using hB.2) h
    simpa using this
end
end Go.Proofs.YtjpieoepokakgaaDoor
