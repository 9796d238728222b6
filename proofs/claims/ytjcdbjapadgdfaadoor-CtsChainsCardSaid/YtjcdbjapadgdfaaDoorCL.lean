/- The iterator of chained blocks, whose consumer may make blocks and turn them. -/
import Derived.Test.YtjcdbjapadgdfaaDoorCK
namespace Go.Proofs.YtjcdbjapadgdfaaDoor
open Go.RowKit Go.Shelf

attribute [local go_sem] Oper.semAt_some
/-- What holds of a consumer's data whatever turns between B and B1, and of loops' books behind B. -/
def Abide (B B1 : Nat) (I : Nat → World → Prop) : Prop := ∀ (k : Nat) (X Y : World) (row : Option Nat), I k X → X.grownBy Y row → (∀ r, row = some r → (B ≤ r ∧ r < B1) ∨ (B ≤ r ∧ ∃ o : Obj, X.heap[r]? = some o ∧ o.isCells = false)) → I k Y
theorem Abide.toFrom {B B1 : Nat} {I : Nat → World → Prop} (h : Abide B B1 I) : OwnFrom B I := fun s X Y row hs hg hr => h s X Y row hs hg (fun r e => .inr (hr r e))
/-- An iterator's word, with cells of its own (from the heap's size at the call on, to B1), whose consumer may make blocks and turn them. -/
def YieldsU (n : Nat) (gf : Nat) (lb : Array Value) (N : Nat) (Φ : Nat → Value → World → Prop) (Rd : Nat → Prop) (own : Value → Nat → Prop) (w : World) : Prop :=
  ∀ (l : Nat) (J Jx : Nat → Nat → World → Prop) (W : World), Below w.heap.size w W → (∀ B1, W.heap.size ≤ B1 → Abide W.heap.size B1 (J B1)) → (∀ B1, W.heap.size ≤ B1 → Abide W.heap.size B1 (Jx B1)) →
    (∀ B1 k v V, W.heap.size ≤ B1 → B1 ≤ V.heap.size → k < N → J B1 k V → Φ k v V → YieldAt Fence.wide (n - 1) Tryd.prog l #[v] V fun e V' => KeepsFrom W.heap.size V V' ∧ Keeps (fun j => ¬ (Rd j ∨ (W.heap.size ≤ j ∧ j < B1)) ∨ own v j) V V' ∧ ((e = .returned (.bool true) ∧ J B1 (k + 1) V') ∨ (e = .returned (.bool false) ∧ Jx B1 (k + 1) V'))) →
    (∀ X, Below W.heap.size W X → J X.heap.size 0 X) →
    CallsIn Fence.wide n Tryd.prog gf (#[.func (.yield l) #[] #[]] ++ lb) W fun e W' => (∃ v, e = .returned v) ∧ ∃ B1, W.heap.size ≤ B1 ∧ (J B1 N W' ∨ ∃ k, k ≤ N ∧ Jx B1 k W')
section
variable {n : Nat}
theorem range_yieldsU {g : Operand} {p : Tmp} {assign body : Code} {Q : Exit → Act → World → Prop} {a : Act} {w : World}
    (h1 : 1 ≤ n) {gf : Nat} {lb : Array Value} (hg : a.eval g = .func (.func gf) #[] lb) (eg : ∀ args w, (callFunc gf args).run Tryd.prog w = .ok (.enter gf args) w)
    {N : Nat} {Φ : Nat → Value → World → Prop} {Rd : Nat → Prop} {own : Value → Nat → Prop} {w0 : World} (hseq : YieldsU (n - 1) gf lb N Φ Rd own w0)
    (hRd : ∀ j, Rd j → j < w.heap.size)
    (hΦ : ∀ (k : Nat) (v : Value) (W : World) (l : Nat) (o o' : Obj), Φ k v W → W.heap[l]? = some o → o.isCells = false → Φ k v (W.putObj l o'))
    (hb0 : Below w0.heap.size w0 w) (I : Nat → Nat → World → Prop) (Ix : Nat → Code → Nat → World → Prop) (hI0 : ∀ B1, w.heap.size ≤ B1 → Abide w.heap.size B1 (I B1)) (hIx0 : ∀ B1 c, w.heap.size ≤ B1 → Abide w.heap.size B1 (Ix B1 c)) (h0 : ∀ X, Below w.heap.size w X → I X.heap.size 0 X) (a₁ : Value → Act)
    (hassign : ∀ (l : Nat) (v : Value) (W : World) (k : Act → World → Prop), k (a₁ v) W →
      assign.wpIn (Fence.wide.inRound l) (n - 1 - 1) Tryd.prog (Exit.then k (fun _ _ _ => False)) { tmps := ((#[p] : Array Tmp).zip #[v]).foldl (fun t (p, v) => t.setIfInBounds p v) a.tmps, defers := [] } W)
    (hbody : ∀ (l B1 k : Nat) (v : Value) (W : World), w.heap.size ≤ B1 → B1 ≤ W.heap.size → k < N → I B1 k W → Φ k v W → body.wpIn (Fence.wide.inRound l) (n - 1 - 1) Tryd.prog (fun e _ W' => RoundEnds w.heap.size (Keeps fun j => ¬ (Rd j ∨ (w.heap.size + 2 ≤ j ∧ j < B1)) ∨ own v j) (I B1 (k + 1)) (fun c => Ix B1 c (k + 1)) W e W') (a₁ v) W)
    (hdone : ∀ (D B1 : Nat) (W : World), w.heap.size ≤ D → w.heap.size ≤ B1 → I B1 N W → W.heap[D]? = some (.deferred (some [])) → Q .normal { a with defers := { target := .collected D, args := #[] } :: a.defers } W)
    (hstop : ∀ (D B1 k : Nat) (c : Code) (W : World), w.heap.size ≤ D → w.heap.size ≤ B1 → k ≤ N → Ix B1 c k W → W.heap[D]? = some (.deferred (some [])) → c.wpIn Fence.wide n Tryd.prog Q { a with defers := { target := .collected D, args := #[] } :: a.defers } W) :
    (Code.rangeFunc g #[p] assign body).wpIn Fence.wide n Tryd.prog Q a w := by
  have hI := fun B1 h => (hI0 B1 h).toFrom
  have hIx := fun B1 c h => (hIx0 B1 c h).toFrom
  apply wpIn_rangeFunc
  intro fn hfn
  obtain ⟨D, hD⟩ : ∃ D, w.heap.size = D := ⟨_, rfl⟩
  let rc : LoopState → Option Code → Loop := fun st pe => { state := st, pending := pe, fn, tmps := a.tmps, params := #[p], assign, body, defers := D }
  let V := (w.alloc (.deferred (some []))).alloc (.loop (rc .ready none))
  have hVs : V.heap.size = D + 2 := by simp only [V, World.size_alloc]; omega
  have hB : Books D (rc .ready none) V := by
    refine ⟨?_, ?_⟩
    · have := World.alloc_heap_new (w.alloc (.deferred (some []))) (.loop (rc .ready none))
      rw [World.size_alloc, hD] at this
      exact this
    · have h2 := World.alloc_heap_new w (.deferred (some []))
      rw [hD] at h2
      exact (Below.heap_alloc _ _ _ (by simp; omega)).trans h2
  have hwV : Below w.heap.size w V := ((Below.refl _ w).alloc (Nat.le_refl _) _).alloc (by simp) _
  have hbV : Below w0.heap.size w0 V := hb0.trans ((((Below.refl _ w).alloc (Nat.le_refl _) _).alloc (by simp) _).mono hb0.size)
  refine ⟨D + 1, [{ target := .collected D, args := #[] }], V, { target := .fn (.func gf) lb, args := #[.func (.yield (D + 1)) #[] #[]] }, V, gf, #[.func (.yield (D + 1)) #[] #[]] ++ lb, V, ?_, ?_, fun _ _ => trivial, ?_, fun _ => h1, ?_⟩
  · have := run_enterLoop_outer (P := Tryd.prog) (w := w) fn a.tmps #[p] assign body
    rw [hD] at this
    exact this
  · simp only [resolve, hg]
    simp [go_sem]
  · simp [invoke, go_sem, eg]
  have hcall := hseq (D + 1) (fun B1 k W => I B1 k W ∧ Books D (rc .ready none) W) (fun B1 k W => ∃ c, Ix B1 c k W ∧ Books D (rc .done (some c)) W) V hbV
    (fun B1 hB1 s A B row hs hg' hr => ⟨hI0 B1 (by omega) s A B row hs.1 hg' (fun r e => by
        rcases hr r e with h | ⟨h, ho⟩
        · exact .inl ⟨by omega, h.2⟩
        · exact .inr ⟨by omega, ho⟩), hs.2.abides hg' fun r e => by have := hr r e; omega⟩)
    (fun B1 hB1 s A B row hs hg' hr => by
      obtain ⟨c, hc, hk⟩ := hs
      exact ⟨c, hIx0 B1 c (by omega) s A B row hc hg' (fun r e => by
        rcases hr r e with h | ⟨h, ho⟩
        · exact .inl ⟨by omega, h.2⟩
        · exact .inr ⟨by omega, ho⟩), hk.abides hg' fun r e => by have := hr r e; omega⟩)
    ?_ (fun X hX => ⟨h0 X (hwV.trans (hX.mono (by omega))), hB.abides (grown_none hX) fun r e => by cases e⟩)
  · refine hcall.mono ?_
    rintro e W2 ⟨⟨v, rfl⟩, B1, hB1, (⟨hi, hk⟩ | ⟨k, hkN, c, hi, hk⟩)⟩
    · exact ⟨none, _, run_endLoop hk.loop (by simp [rc]), hdone D B1 _ (by omega) (by omega) ((hI B1 (by omega)).putObj _ hi (by omega) hk.loop rfl) ((World.putObj_heap_other (by omega)).trans hk.defs)⟩
    · exact ⟨some c, _, run_endLoop hk.loop (by simp [rc]), hstop D B1 k c _ (by omega) (by omega) hkN ((hIx B1 c (by omega)).putObj _ hi (by omega) hk.loop rfl) ((World.putObj_heap_other (by omega)).trans hk.defs)⟩
  · rintro B1 k v W hB1 hBW hkN ⟨hi, hk⟩ hphi
    have hBw : w.heap.size ≤ B1 := by omega
    have hy := run_yield (P := Tryd.prog) (args := #[v]) hk.loop rfl
    refine ⟨fn, _, assign, body, hy, roundIn_of_wpIn hfn ?_⟩
    refine hassign _ v W _ ?_
    refine ⟨_, run_beginRound hk.loop rfl, ?_⟩
    have hk2 := hk.put (rec' := { rc .ready none with state := .busy })
    have hput : ∀ (X : World) (o' : Obj), Keeps (fun j => ¬ (Rd j ∨ (V.heap.size ≤ j ∧ j < B1)) ∨ own v j) X (X.putObj (D + 1) o') := fun X o' => ⟨by simp, fun j _ hm => World.putObj_heap_other fun e => hm (.inl (fun h => by
      rcases h with h | h
      · have := hRd _ h; omega
      · omega))⟩
    have hpf : ∀ (X : World) (o' : Obj), KeepsFrom V.heap.size X (X.putObj (D + 1) o') := fun X o' => ⟨by simp, fun j o hj hx _ => by rw [World.putObj_heap_other (by omega)]; exact hx⟩
    refine wpIn_mono (hbody _ B1 k v _ hBw (by simpa using hBW) hkN ((hI B1 hBw).putObj _ hi (by omega) hk.loop rfl) (hΦ _ _ _ _ _ _ hphi hk.loop rfl)) ?_
    rintro e a3 W3 ⟨hkf, hKK, hp⟩
    have hk3 := hk2.kept (by rw [hD] at hkf; exact hkf)
    have hK3 := fun o' => ((hput _ _).trans (hKK.weaken fun j _ h => by rw [hVs, ← hD]; exact h)).trans (hput W3 o')
    have hF3 := fun o' => ((hpf _ _).trans (show KeepsFrom V.heap.size _ _ from ⟨hkf.size, fun i o hB2 hx ho => hkf.same i o (by omega) hx ho⟩)).trans (hpf W3 o')
    rcases hp with ⟨rfl, hi3⟩ | ⟨rfl, hi3⟩ | ⟨id, rfl, hi3⟩
    · exact ⟨_, _, run_endRound none hk3.loop, hF3 _, hK3 _, .inl ⟨rfl, (hI B1 hBw).putObj _ hi3 (by omega) hk3.loop rfl, hk3.put⟩⟩
    · exact ⟨_, _, run_endRound (some .ret) hk3.loop, hF3 _, hK3 _, .inr ⟨rfl, .ret, (hIx B1 _ hBw).putObj _ hi3 (by omega) hk3.loop rfl, hk3.put⟩⟩
    · exact ⟨_, _, run_endRound (some (.exit id)) hk3.loop, hF3 _, hK3 _, .inr ⟨rfl, .exit id, (hIx B1 _ hBw).putObj _ hi3 (by omega) hk3.loop rfl, hk3.put⟩⟩
end
end Go.Proofs.YtjcdbjapadgdfaaDoor
