/- AES: a range over an iterator of two values. -/
import Derived.RangeFuncWrites
import Derived.RangeFuncNested
import Derived.RangeFuncBound
import Derived.RangeFuncCalls
import Derived.RangeFuncLeaves
import Derived.RangeFuncFrom
import Derived.Shelf.Abstract
import Derived.Shelf.RegionOpen
import Derived.OwnWalkIn
import Derived.TacticsInMore
import Derived.LoopNIn
import Derived.LoopIn
import Derived.Test.YtjcdbjapadgdfaaDoorAH
namespace Go.Proofs.YtjcdbjapadgdfaaDoor
open Go.RowKit Go.Shelf

theorem Keeps.from {M : Nat → Prop} {A B : World} (h : Keeps M A B) {n : Nat} (hm : ∀ j, n ≤ j → ¬ M j) : KeepsFrom n A B :=
  ⟨h.size, fun j _ hj ho _ => (h.same j (Array.getElem?_eq_some_iff.1 ho).1 (hm j hj)).trans ho⟩
/-- THE ITERATOR's WORD: N rounds, the k-th with a value of which Φ k is true in the world of the call. It reads the blocks Rd; the rounds turn nothing but M and what is the value's own. -/
def Yields (n : Nat) (gf : Nat) (lb : Array Value) (N : Nat) (Φ : Nat → Value → Value → World → Prop) (Rd : Nat → Prop) (w : World) : Prop :=
  ∀ (l : Nat) (J Jx : Nat → World → Prop) (M : Nat → Prop) (W : World), Below w.heap.size w W → (∀ j, M j → j < W.heap.size ∧ ¬ Rd j) → OwnFrom W.heap.size J → OwnFrom W.heap.size Jx →
    (∀ k u v V, k < N → J k V → Φ k u v V → YieldAt Fence.wide (n - 1) Tryd.prog l #[u, v] V fun e V' => Keeps M V V' ∧ ((e = .returned (.bool true) ∧ J (k + 1) V') ∨ (e = .returned (.bool false) ∧ Jx (k + 1) V'))) →
    J 0 W →
    CallsIn Fence.wide n Tryd.prog gf (#[.func (.yield l) #[] #[]] ++ lb) W fun e W' => (∃ v, e = .returned v) ∧ (J N W' ∨ ∃ k, k ≤ N ∧ Jx k W')

/-- How a round ends. -/
def RoundEnds (B : Nat) (K : World → World → Prop) (I : World → Prop) (Ix : Code → World → Prop) (W : World) (e : Exit) (W' : World) : Prop :=
  KeepsFrom B W W' ∧ K W W' ∧ ((e = .normal ∧ I W') ∨ (e = .ret ∧ Ix .ret W') ∨ ∃ id, e = .exit id ∧ Ix (.exit id) W')

section
variable {n : Nat}
/-- The two blocks that the loop lays for itself. -/
structure Books (D : Nat) (rec : Loop) (W : World) : Prop where
  loop : W.heap[D + 1]? = some (.loop rec)
  defs : W.heap[D]? = some (.deferred (some []))
theorem Books.lt {D : Nat} {rec : Loop} {W : World} (h : Books D rec W) : D + 1 < W.heap.size := (Array.getElem?_eq_some_iff.1 h.loop).1
theorem Books.abides {D : Nat} {rec : Loop} {W W' : World} {row : Option Nat} (h : Books D rec W) (hg : W.grownBy W' row) (hr : ∀ r, row = some r → D + 2 ≤ r) : Books D rec W' :=
  ⟨(hg.block _ h.lt fun e => by have := hr _ e.symm; omega).trans h.loop, (hg.block _ (by have := h.lt; omega) fun e => by have := hr _ e.symm; omega).trans h.defs⟩
theorem Books.put {D : Nat} {rec rec' : Loop} {W : World} (h : Books D rec W) : Books D rec' (W.putObj (D + 1) (.loop rec')) :=
  ⟨World.putObj_heap_same h.lt, (World.putObj_heap_other (by omega)).trans h.defs⟩
theorem Books.kept {D : Nat} {rec : Loop} {W W' : World} (h : Books D rec W) (hk : KeepsFrom D W W') : Books D rec W' :=
  ⟨hk.same _ _ (by omega) h.loop rfl, hk.same _ _ (Nat.le_refl _) h.defs rfl⟩

theorem range_yields {g : Operand} {p q : Tmp} {assign body : Code} {Q : Exit → Act → World → Prop} {a : Act} {w : World}
    (h1 : 1 ≤ n) {gf : Nat} {lb : Array Value} (hg : a.eval g = .func (.func gf) #[] lb) (eg : ∀ args w, (callFunc gf args).run Tryd.prog w = .ok (.enter gf args) w)
    {N : Nat} {Φ : Nat → Value → Value → World → Prop} {Rd : Nat → Prop} {w0 : World} (hseq : Yields (n - 1) gf lb N Φ Rd w0)
    (M : Nat → Prop) (hM : ∀ j, M j → j < w.heap.size ∧ ¬ Rd j) (hRd : ∀ j, Rd j → j < w.heap.size)
    (hb0 : Below w0.heap.size w0 w) (I : Nat → World → Prop) (Ix : Code → Nat → World → Prop) (hI : OwnFrom w.heap.size I) (hIx : ∀ c, OwnFrom w.heap.size (Ix c)) (h0 : I 0 w) (a₁ : Value → Value → World → Act) (X : Nat → Value → Value → World → World → Prop)
    (hX : ∀ (k : Nat) (u v : Value) (W0 W1 : World) (l : Nat) (o o' : Obj), X k u v W0 W1 → W1.heap[l]? = some o → o.isCells = false → X k u v W0 (W1.putObj l o'))
    (hassign : ∀ (l j : Nat) (u v : Value) (W : World) (k : Act → World → Prop), j < N → w.heap.size ≤ W.heap.size → Φ j u v W → (∀ W1, Below W.heap.size W W1 → X j u v W W1 → k (a₁ u v W) W1) →
      assign.wpIn (Fence.wide.inRound l) (n - 1 - 1) Tryd.prog (Exit.then k (fun _ _ _ => False)) { tmps := ((#[p, q] : Array Tmp).zip #[u, v]).foldl (fun t (p, v) => t.setIfInBounds p v) a.tmps, defers := [] } W)
    (hbody : ∀ (l k : Nat) (u v : Value) (W0 W : World), k < N → w.heap.size ≤ W0.heap.size → I k W → X k u v W0 W → body.wpIn (Fence.wide.inRound l) (n - 1 - 1) Tryd.prog (fun e _ W' => RoundEnds w.heap.size (Keeps M) (I (k + 1)) (fun c => Ix c (k + 1)) W e W') (a₁ u v W0) W)
    (hdone : ∀ (D : Nat) (W : World), w.heap.size ≤ D → I N W → W.heap[D]? = some (.deferred (some [])) → Q .normal { a with defers := { target := .collected D, args := #[] } :: a.defers } W)
    (hstop : ∀ (D k : Nat) (c : Code) (W : World), w.heap.size ≤ D → k ≤ N → Ix c k W → W.heap[D]? = some (.deferred (some [])) → c.wpIn Fence.wide n Tryd.prog Q { a with defers := { target := .collected D, args := #[] } :: a.defers } W) :
    (Code.rangeFunc g #[p, q] assign body).wpIn Fence.wide n Tryd.prog Q a w := by
  apply wpIn_rangeFunc
  intro fn hfn
  obtain ⟨D, hD⟩ : ∃ D, w.heap.size = D := ⟨_, rfl⟩
  let rc : LoopState → Option Code → Loop := fun st pe => { state := st, pending := pe, fn, tmps := a.tmps, params := #[p, q], assign, body, defers := D }
  let V := (w.alloc (.deferred (some []))).alloc (.loop (rc .ready none))
  have hVs : V.heap.size = D + 2 := by simp only [V, World.size_alloc]; omega
  have hB : Books D (rc .ready none) V := by
    refine ⟨?_, ?_⟩
    · have := World.alloc_heap_new (w.alloc (.deferred (some []))) (.loop (rc .ready none))
      rw [World.size_alloc, hD] at this
      exact this
    · have h2 := World.alloc_heap_new w (.deferred (some []))
      rw [hD] at h2
      exact (Below.heap_alloc _ _ _ (by simp; omega)).trans h2
  have hIV : I 0 V := hI.alloc _ (hI.alloc _ h0)
  have hbV : Below w0.heap.size w0 V := hb0.trans ((((Below.refl _ w).alloc (Nat.le_refl _) _).alloc (by simp) _).mono hb0.size)
  refine ⟨D + 1, [{ target := .collected D, args := #[] }], V, { target := .fn (.func gf) lb, args := #[.func (.yield (D + 1)) #[] #[]] }, V, gf, #[.func (.yield (D + 1)) #[] #[]] ++ lb, V, ?_, ?_, fun _ _ => trivial, ?_, fun _ => h1, ?_⟩
  · have := run_enterLoop_outer (P := Tryd.prog) (w := w) fn a.tmps #[p, q] assign body
    rw [hD] at this
    exact this
  · simp only [resolve, hg]
    simp [go_sem]
  · simp [invoke, go_sem, eg]
  have hrow : ∀ {A : World} {row : Option Nat}, (∀ r, row = some r → V.heap.size ≤ r ∧ ∃ o : Obj, A.heap[r]? = some o ∧ o.isCells = false) → ∀ r, row = some r → w.heap.size ≤ r ∧ ∃ o : Obj, A.heap[r]? = some o ∧ o.isCells = false :=
    fun hr r e => by obtain ⟨hb, ho⟩ := hr r e; exact ⟨by omega, ho⟩
  have hcall := hseq (D + 1) (fun k W => I k W ∧ Books D (rc .ready none) W) (fun k W => ∃ c, Ix c k W ∧ Books D (rc .done (some c)) W) (fun j => M j ∨ j = D + 1) V hbV
    (fun j hj => by
      rcases hj with hj | rfl
      · have := hM j hj; exact ⟨by omega, this.2⟩
      · exact ⟨by omega, fun h => by have := hRd _ h; omega⟩)
    (fun s A B row hs hg' hr => ⟨hI s A B row hs.1 hg' (hrow hr), hs.2.abides hg' fun r e => by have := (hr r e).1; omega⟩)
    (fun s A B row hs hg' hr => by obtain ⟨c, hc, hk⟩ := hs; exact ⟨c, hIx c s A B row hc hg' (hrow hr), hk.abides hg' fun r e => by have := (hr r e).1; omega⟩)
    ?_ ⟨hIV, hB⟩
  · refine hcall.mono ?_
    rintro e W2 ⟨⟨v, rfl⟩, (⟨hi, hk⟩ | ⟨k, hkN, c, hi, hk⟩)⟩
    · exact ⟨none, _, run_endLoop hk.loop (by simp [rc]), hdone D _ (by omega) (hI.putObj _ hi (by omega) hk.loop rfl) ((World.putObj_heap_other (by omega)).trans hk.defs)⟩
    · exact ⟨some c, _, run_endLoop hk.loop (by simp [rc]), hstop D k c _ (by omega) hkN ((hIx c).putObj _ hi (by omega) hk.loop rfl) ((World.putObj_heap_other (by omega)).trans hk.defs)⟩
  · rintro k u v W hkN ⟨hi, hk⟩ hphi
    have hy := run_yield (P := Tryd.prog) (args := #[u, v]) hk.loop rfl
    refine ⟨fn, _, assign, body, hy, roundIn_of_wpIn hfn ?_⟩
    have hwW : w.heap.size ≤ W.heap.size := by have := hk.lt; omega
    refine hassign _ k u v W _ hkN hwW hphi ?_
    intro W1 hb1 hx1
    have hg1 : W.grownBy W1 none := ⟨hb1.os, hb1.tape, hb1.output, hb1.size, fun j hj _ => hb1.block j hj⟩
    have hk1 := hk.abides hg1 (fun r e => by cases e)
    have hi1 := hI k W W1 none hi hg1 (fun r e => by cases e)
    refine ⟨_, run_beginRound hk1.loop rfl, ?_⟩
    have hk2 := hk1.put (rec' := { rc .ready none with state := .busy })
    have hput : ∀ (X : World) (o' : Obj), Keeps (fun j => M j ∨ j = D + 1) X (X.putObj (D + 1) o') := fun X o' => ⟨by simp, fun j _ hm => World.putObj_heap_other fun e => hm (.inr e)⟩
    refine wpIn_mono (hbody _ k u v W _ hkN hwW (hI.putObj _ hi1 (by omega) hk1.loop rfl) (hX _ _ _ _ _ _ _ _ hx1 hk1.loop rfl)) ?_
    rintro e a3 W3 ⟨hkf, hKK, hp⟩
    have hk3 := hk2.kept (by rw [hD] at hkf; exact hkf)
    have hK3 := fun o' => (Keeps.of_below (M := fun j => M j ∨ j = D + 1) hb1).trans (((hput _ _).trans (hKK.weaken fun j _ hj => .inl hj)).trans (hput W3 o'))
    rcases hp with ⟨rfl, hi3⟩ | ⟨rfl, hi3⟩ | ⟨id, rfl, hi3⟩
    · exact ⟨_, _, run_endRound none hk3.loop, hK3 _, .inl ⟨rfl, hI.putObj _ hi3 (by omega) hk3.loop rfl, hk3.put⟩⟩
    · exact ⟨_, _, run_endRound (some .ret) hk3.loop, hK3 _, .inr ⟨rfl, .ret, (hIx _).putObj _ hi3 (by omega) hk3.loop rfl, hk3.put⟩⟩
    · exact ⟨_, _, run_endRound (some (.exit id)) hk3.loop, hK3 _, .inr ⟨rfl, .exit id, (hIx _).putObj _ hi3 (by omega) hk3.loop rfl, hk3.put⟩⟩
end
end Go.Proofs.YtjcdbjapadgdfaaDoor
