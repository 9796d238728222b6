/- CTS: a range over an iterator of one value; the blocks of a string. -/
import Derived.Sort.QuietIn
import Derived.Sort.QuietTacIn
import Derived.Deep.RegionHeld3
import Derived.Laws.IdiomCopy
import Derived.Test.YtjcdbjapadgdfaaDoorCA
namespace Go.Proofs.YtjcdbjapadgdfaaDoor
open Go.RowKit Go.Shelf

attribute [local go_sem] Oper.semAt_some
section
variable {F : Fence} {n : Nat} {P : Program} {ops : Array Oper} {C : World → Prop} {md : Region.Mode}
theorem quiet_op {o : Oper} {a : Act} {K : Act → Prop} {K' : Act → World → Prop} {Q : Exit → Act → World → Prop} {w : World} (hnd : ∀ c : Call, o.op ≠ Op.defer c) (hw : C w) (h : ∀ a w', C w' → K a → K' a w')
    (ha : o.askedIn F P a C) (hh : o.quietIn F n P a C K) : o.wpIn F n P a w K' Q := by
  obtain ⟨v, hv, hK⟩ := hh
  have hq := hv w hw
  unfold Oper.wpIn
  rw [Oper.semAt_eq _ _ _ hnd]
  refine ⟨ha w hw, ?_⟩
  unfold Oper.quietAtIn at hq
  revert hq
  generalize (execOp a.eval o).run P w = r
  intro hq
  match r, hq with
  | .ok (.value u) w', hq =>
    obtain ⟨rfl, rfl⟩ : w' = w ∧ u = v := hq
    simp only [Oper.uponIn]
    exact h _ _ hw hK
  | .ok .skip w', hq =>
    obtain ⟨rfl, rfl⟩ : w' = w ∧ v = undef := hq
    simp only [Oper.uponIn]
    exact h _ _ hw hK
  | .ok (.enter f args) w', hq =>
    obtain ⟨rfl, hd, hc⟩ := hq
    simp only [Oper.uponIn]
    exact ⟨hd, hc.mono fun e w'' ⟨he, hw''⟩ => by subst he; exact h _ _ hw'' hK⟩
theorem quiet_any {Q : Act → Prop} {Q' : Exit → Act → World → Prop} (hnd : ∀ (i : Nat) (o : Oper), ops[i]? = some o → ∀ c : Call, o.op ≠ Op.defer c) (hQ : ∀ a w, C w → Q a → Q' .normal a w) : ∀ (fuel : Nat) (listed : Array Bool) (a : Act) (w : World), C w →
    wpAnyQIn F n P md ops C Q fuel listed a → wpAnyIn F n P md ops Q' fuel listed a w := by
  intro fuel
  induction fuel with
  | zero => intro listed a w hw h; exact ⟨h.1, hQ _ _ hw h.2⟩
  | succ fuel ih =>
    intro listed a w hw h
    refine ⟨fun h0 => hQ _ _ hw (h.1 h0), fun i hi => ?_⟩
    have hi2 := h.2 i hi
    unfold qOpIn at hi2
    unfold wpOpIn
    cases ho : ops[i]? with
    | none => simp only [ho] at hi2; exact ih _ _ _ hw hi2
    | some o =>
      simp only [ho] at hi2 ⊢
      obtain ⟨ha, hh⟩ := hi2
      by_cases hwt : Region.wanted o (yielded ops a.tmps) = true
      · rw [if_pos hwt] at hh ⊢
        exact quiet_op (hnd i o ho) hw (fun a' w' hw' h' => ih _ _ _ hw' h') ha hh
      · rw [if_neg hwt] at hh ⊢
        exact ⟨ha w hw, ih _ _ _ hw hh⟩
theorem quiet_round_lit {id : Nat} {Q : Exit → Act → World → Prop} {a : Act} {w : World} {l : List Oper} (hnd : (l.all fun o => match o.op with | .defer _ => false | _ => true) = true) (hm : P.follows .mixedOrders = true) (hB : Region.lexB .any l.toArray = true)
    (h : wpQuietIn F n P l.toArray (fun w' => ∃ n, w' = w.drewN n) (fun a' => ∀ w', (∃ n, w' = w.drewN n) → Q .normal a' w') l a) : (Code.region id l.toArray true).wpIn F n P Q a w := by
  simp only [Region.lexB, Bool.and_eq_true] at hB
  refine wpIn_region_any hm (quiet_any (C := fun w' => ∃ n, w' = w.drewN n) (Q := fun a' => ∀ w', (∃ n, w' = w.drewN n) → Q .normal a' w') (fun i o ho c e => ?_) (fun _ w' hw' h => h w' hw') _ _ _ _ ⟨1, rfl⟩ ?_)
  · have hmem : o ∈ l := List.mem_of_getElem? (by simpa using ho)
    have := List.all_eq_true.1 hnd o hmem
    rw [e] at this
    cases this
  · have := wpAnyQIn_lex (F := F) (n := n) (P := P) (C := fun w' => ∃ n, w' = w.drewN n) (md := .any) hB.1 l 0 (Array.replicate l.toArray.size false) a (by simp) (by simpa using hB.2) h
    simpa using this
end
def YieldsS (n : Nat) (gf : Nat) (lb : Array Value) (N : Nat) (Φ : Nat → Value → World → Prop) (Rd : Nat → Prop) (own : Value → Nat → Prop) (w : World) : Prop :=
  ∀ (l : Nat) (J Jx : Nat → World → Prop) (M : Nat → Prop) (W : World), Below w.heap.size w W → (∀ j, M j → j < W.heap.size ∧ ¬ Rd j) → OwnFrom W.heap.size J → OwnFrom W.heap.size Jx →
    (∀ k v V, k < N → J k V → Φ k v V → YieldAt Fence.wide (n - 1) Tryd.prog l #[v] V fun e V' => Keeps (fun j => M j ∨ own v j) V V' ∧ ((e = .returned (.bool true) ∧ J (k + 1) V') ∨ (e = .returned (.bool false) ∧ Jx (k + 1) V'))) →
    J 0 W →
    CallsIn Fence.wide n Tryd.prog gf (#[.func (.yield l) #[] #[]] ++ lb) W fun e W' => (∃ v, e = .returned v) ∧ (J N W' ∨ ∃ k, k ≤ N ∧ Jx k W')
section
variable {n : Nat}
theorem range_yieldsS {g : Operand} {p : Tmp} {assign body : Code} {Q : Exit → Act → World → Prop} {a : Act} {w : World}
    (h1 : 1 ≤ n) {gf : Nat} {lb : Array Value} (hg : a.eval g = .func (.func gf) #[] lb) (eg : ∀ args w, (callFunc gf args).run Tryd.prog w = .ok (.enter gf args) w)
    {N : Nat} {Φ : Nat → Value → World → Prop} {Rd : Nat → Prop} {own : Value → Nat → Prop} {w0 : World} (hseq : YieldsS (n - 1) gf lb N Φ Rd own w0)
    (M : Nat → Prop) (hM : ∀ j, M j → j < w.heap.size ∧ ¬ Rd j) (hRd : ∀ j, Rd j → j < w.heap.size)
    (hΦ : ∀ (k : Nat) (v : Value) (W : World) (l : Nat) (o o' : Obj), Φ k v W → W.heap[l]? = some o → o.isCells = false → Φ k v (W.putObj l o'))
    (hb0 : Below w0.heap.size w0 w) (I : Nat → World → Prop) (Ix : Code → Nat → World → Prop) (hI : OwnFrom w.heap.size I) (hIx : ∀ c, OwnFrom w.heap.size (Ix c)) (h0 : I 0 w) (a₁ : Value → Act)
    (hassign : ∀ (l : Nat) (v : Value) (W : World) (k : Act → World → Prop), k (a₁ v) W →
      assign.wpIn (Fence.wide.inRound l) (n - 1 - 1) Tryd.prog (Exit.then k (fun _ _ _ => False)) { tmps := ((#[p] : Array Tmp).zip #[v]).foldl (fun t (p, v) => t.setIfInBounds p v) a.tmps, defers := [] } W)
    (hbody : ∀ (l k : Nat) (v : Value) (W : World), k < N → I k W → Φ k v W → body.wpIn (Fence.wide.inRound l) (n - 1 - 1) Tryd.prog (fun e _ W' => RoundEnds w.heap.size (Keeps fun j => M j ∨ own v j) (I (k + 1)) (fun c => Ix c (k + 1)) W e W') (a₁ v) W)
    (hdone : ∀ (D : Nat) (W : World), w.heap.size ≤ D → I N W → W.heap[D]? = some (.deferred (some [])) → Q .normal { a with defers := { target := .collected D, args := #[] } :: a.defers } W)
    (hstop : ∀ (D k : Nat) (c : Code) (W : World), w.heap.size ≤ D → k ≤ N → Ix c k W → W.heap[D]? = some (.deferred (some [])) → c.wpIn Fence.wide n Tryd.prog Q { a with defers := { target := .collected D, args := #[] } :: a.defers } W) :
    (Code.rangeFunc g #[p] assign body).wpIn Fence.wide n Tryd.prog Q a w := by
  apply wpIn_rangeFunc
  intro fn hfn
  obtain ⟨D, hD⟩ : ∃ D, w.heap.size = D := ⟨_, rfl⟩
  let rc : LoopState → Option Code → Loop := fun st pe => { state := st, pending := pe, fn, tmps := a.tmps, params := #[p], assign, body, defers := D }
  let V := (w.alloc (.deferred (some []))).alloc (.loop (rc .ready none))
  have hVs : V.heap.size = D + 2 := by simp only [V, World.size_alloc]; omega
  have hB : Books D (rc .ready none) V := by
    refine ⟨?_, ?_⟩
    · have := World.alloc_heap_new (w.alloc (.deferred (some []))) (.loop (rc .ready none))
      rw [World.size_alloc, hD] at this
      exact this
    · have h2 := World.alloc_heap_new w (.deferred (some []))
      rw [hD] at h2
      exact (Below.heap_alloc _ _ _ (by simp; omega)).trans h2
  have hIV : I 0 V := hI.alloc _ (hI.alloc _ h0)
  have hbV : Below w0.heap.size w0 V := hb0.trans ((((Below.refl _ w).alloc (Nat.le_refl _) _).alloc (by simp) _).mono hb0.size)
  refine ⟨D + 1, [{ target := .collected D, args := #[] }], V, { target := .fn (.func gf) lb, args := #[.func (.yield (D + 1)) #[] #[]] }, V, gf, #[.func (.yield (D + 1)) #[] #[]] ++ lb, V, ?_, ?_, fun _ _ => trivial, ?_, fun _ => h1, ?_⟩
  · have := run_enterLoop_outer (P := Tryd.prog) (w := w) fn a.tmps #[p] assign body
    rw [hD] at this
    exact this
  · simp only [resolve, hg]
    simp [go_sem]
  · simp [invoke, go_sem, eg]
  have hrow : ∀ {A : World} {row : Option Nat}, (∀ r, row = some r → V.heap.size ≤ r ∧ ∃ o : Obj, A.heap[r]? = some o ∧ o.isCells = false) → ∀ r, row = some r → w.heap.size ≤ r ∧ ∃ o : Obj, A.heap[r]? = some o ∧ o.isCells = false :=
    fun hr r e => by obtain ⟨hb, ho⟩ := hr r e; exact ⟨by omega, ho⟩
  have hcall := hseq (D + 1) (fun k W => I k W ∧ Books D (rc .ready none) W) (fun k W => ∃ c, Ix c k W ∧ Books D (rc .done (some c)) W) (fun j => M j ∨ j = D + 1) V hbV
    (fun j hj => by
      rcases hj with hj | rfl
      · have := hM j hj; exact ⟨by omega, this.2⟩
      · exact ⟨by omega, fun h => by have := hRd _ h; omega⟩)
    (fun s A B row hs hg' hr => ⟨hI s A B row hs.1 hg' (hrow hr), hs.2.abides hg' fun r e => by have := (hr r e).1; omega⟩)
    (fun s A B row hs hg' hr => by obtain ⟨c, hc, hk⟩ := hs; exact ⟨c, hIx c s A B row hc hg' (hrow hr), hk.abides hg' fun r e => by have := (hr r e).1; omega⟩)
    ?_ ⟨hIV, hB⟩
  · refine hcall.mono ?_
    rintro e W2 ⟨⟨v, rfl⟩, (⟨hi, hk⟩ | ⟨k, hkN, c, hi, hk⟩)⟩
    · exact ⟨none, _, run_endLoop hk.loop (by simp [rc]), hdone D _ (by omega) (hI.putObj _ hi (by omega) hk.loop rfl) ((World.putObj_heap_other (by omega)).trans hk.defs)⟩
    · exact ⟨some c, _, run_endLoop hk.loop (by simp [rc]), hstop D k c _ (by omega) hkN ((hIx c).putObj _ hi (by omega) hk.loop rfl) ((World.putObj_heap_other (by omega)).trans hk.defs)⟩
  · rintro k v W hkN ⟨hi, hk⟩ hphi
    have hy := run_yield (P := Tryd.prog) (args := #[v]) hk.loop rfl
    refine ⟨fn, _, assign, body, hy, roundIn_of_wpIn hfn ?_⟩
    refine hassign _ v W _ ?_
    refine ⟨_, run_beginRound hk.loop rfl, ?_⟩
    have hk2 := hk.put (rec' := { rc .ready none with state := .busy })
    have hput : ∀ (X : World) (o' : Obj), Keeps (fun j => (M j ∨ j = D + 1) ∨ own v j) X (X.putObj (D + 1) o') := fun X o' => ⟨by simp, fun j _ hm => World.putObj_heap_other fun e => hm (.inl (.inr e))⟩
    refine wpIn_mono (hbody _ k v _ hkN (hI.putObj _ hi (by omega) hk.loop rfl) (hΦ _ _ _ _ _ _ hphi hk.loop rfl)) ?_
    rintro e a3 W3 ⟨hkf, hKK, hp⟩
    have hk3 := hk2.kept (by rw [hD] at hkf; exact hkf)
    have hK3 := fun o' => ((hput _ _).trans (hKK.weaken fun j _ hj => hj.elim (fun h => .inl (.inl h)) .inr)).trans (hput W3 o')
    rcases hp with ⟨rfl, hi3⟩ | ⟨rfl, hi3⟩ | ⟨id, rfl, hi3⟩
    · exact ⟨_, _, run_endRound none hk3.loop, hK3 _, .inl ⟨rfl, hI.putObj _ hi3 (by omega) hk3.loop rfl, hk3.put⟩⟩
    · exact ⟨_, _, run_endRound (some .ret) hk3.loop, hK3 _, .inr ⟨rfl, .ret, (hIx _).putObj _ hi3 (by omega) hk3.loop rfl, hk3.put⟩⟩
    · exact ⟨_, _, run_endRound (some (.exit id)) hk3.loop, hK3 _, .inr ⟨rfl, .exit id, (hIx _).putObj _ hi3 (by omega) hk3.loop rfl, hk3.put⟩⟩
end
theorem OwnFrom.mono {β : Type} {B B' : Nat} {I : β → World → Prop} (h : OwnFrom B I) (hB : B ≤ B') : OwnFrom B' I := fun s W W' row hs hg hr => h s W W' row hs hg fun r e => by obtain ⟨h1, h2⟩ := hr r e; exact ⟨by omega, h2⟩
theorem own_keeps {J : Nat → World → Prop} {M : Nat → Prop} {B B' : Nat} {V : World} (hJ : OwnFrom B J) (hB : B ≤ B') (hV : V.heap.size ≤ B') (f : Nat → Nat) : OwnFrom B' (fun k X => J (f k) X ∧ Keeps M V X) := by
  intro k X Y row hs hg hr
  refine ⟨(OwnFrom.mono hJ hB) (f k) X Y row hs.1 hg hr, ⟨Nat.le_trans hs.2.size hg.size, fun j hj hm => (hg.block j (Nat.lt_of_lt_of_le hj hs.2.size) fun e => ?_).trans (hs.2.same j hj hm)⟩⟩
  have := (hr j e.symm).1
  omega
theorem YieldAt.wideTo {n m : Nat} {P : Program} {l : Nat} {args : Array Value} {W : World} {R : Ending → World → Prop} (h : YieldAt Fence.wide n P l args W R) (l' : Nat) : YieldAt (Fence.wide.inRound l') m P l args W R := by
  obtain ⟨fn, t, a, b, hy, hr⟩ := h
  exact ⟨fn, t, a, b, hy, hr.1, fun c cs _ => hr.2 c cs (room_wide _)⟩
theorem run_slice22_l (b off L c l : Nat) (hl : l < L) (hh : L ≤ c) (W : World) :
    (Instr.sliceAt 22 (.slice (some ⟨b, off, none⟩) L c) (some (.int .i64 (l : Nat))) none none).run Tryd.prog W = .ok (.slice (some ⟨b, off + l, none⟩) (L - l) (c - l)) W := by
  have e2 : ((l : Nat) : Int).toNat = l := Int.toNat_natCast l
  have e5 : ¬ c = l := by omega
  have e6 : ((l : Nat) : Int) ≤ (L : Int) := by omega
  have e7 : (0 : Int) ≤ (l : Int) := by omega
  have e8 : max ((l : Nat) : Int) 0 = l := by omega
  have e9 : max ((L : Nat) : Int) 0 = L := by omega
  have e10 : ((L : Nat) : Int).toNat = L := Int.toNat_natCast L
  have e11 : ((L : Nat) : Int) ≤ (c : Int) := by omega
  go_simp
theorem run_slice22_lhm (b off L c l h : Nat) (hl : l < h) (hh : h ≤ c) (W : World) :
    (Instr.sliceAt 22 (.slice (some ⟨b, off, none⟩) L c) (some (.int .i64 (l : Nat))) (some (.int .i64 (h : Nat))) (some (.int .i64 (h : Nat)))).run Tryd.prog W = .ok (.slice (some ⟨b, off + l, none⟩) (h - l) (h - l)) W := by
  have e1 : ((h : Nat) : Int).toNat = h := Int.toNat_natCast h
  have e2 : ((l : Nat) : Int).toNat = l := Int.toNat_natCast l
  have e4 : max ((h : Nat) : Int) 0 = h := by omega
  have e5 : ¬ h = l := by omega
  have e6 : ((h : Nat) : Int) ≤ (c : Int) := by omega
  have e7 : (0 : Int) ≤ (h : Int) := by omega
  have e8 : (0 : Int) ≤ (l : Int) := by omega
  have e9 : ((l : Nat) : Int) ≤ (h : Int) := by omega
  go_simp
/-- A block of a string. -/
def blkB (zs : List Nat) (k : Nat) : List Nat := (zs.drop (16 * k)).take 16
theorem blkB_len {zs : List Nat} {k : Nat} (h : 16 * k + 16 ≤ zs.length) : (blkB zs k).length = 16 := by unfold blkB; rw [List.length_take, List.length_drop]; omega
theorem bytes_cutm {zs : List Nat} {b off n c : Nat} {W : World} (h : BytesAt zs (.slice (some ⟨b, off, none⟩) n c) W) (lo m c' : Nat) (hm : lo + m ≤ zs.length) (hc : m ≤ c') : BytesAt ((zs.drop lo).take m) (.slice (some ⟨b, off + lo, none⟩) m c') W := by
  obtain ⟨h1, a, c2, e, hcc, h2⟩ := h
  cases e
  have hlen : ((zs.drop lo).take m).length = m := by rw [List.length_take, List.length_drop]; omega
  refine ⟨fun x hx => h1 x (List.mem_of_mem_drop (List.mem_of_mem_take hx)), _, c', by rw [hlen], by rw [hlen]; exact hc, ?_⟩
  rw [hlen]
  rcases h2 with h2 | ⟨b', off', ea, hb, hj⟩
  · exact .inl (by omega)
  · cases ea
    refine .inr ⟨b, _, rfl, hb, fun j hjl => ?_⟩
    rw [Nat.add_assoc, hj (lo + j) (by omega), dt_get _ _ hjl]
set_option maxRecDepth 100000 in
theorem chunk_any (a : Option Addr) (L c : Nat) (w : World) : Calls Tryd.prog 37 #[.slice a L c, .int .i64 16] w fun e w' => e = .returned (.func (.func 54) #[] #[.pointer (some ⟨w.heap.size, 0, none⟩), .pointer (some ⟨w.heap.size + 1, 0, none⟩)]) ∧ w' = (w.alloc (.cells #[.slice a L c] 22)).alloc (.cells #[.int .i64 16] 3) := by
  have hmf : ∀ (fn : Fn) (first cap : Array Value) (w : World), (Instr.makeFunc fn first cap).run Tryd.prog w = .ok (.func fn first cap) w := fun _ _ _ _ => rfl
  go_enter Tryd.func37, Tryd.ntmps37
  go_wp2_with fail
  go_ret
  exact ⟨rfl, rfl⟩
set_option maxRecDepth 100000 in
theorem blocksOf_any (a : Option Addr) (L c : Nat) (w : World) : Calls Tryd.prog 25 #[.slice a L c] w fun e w' => e = .returned (.func (.func 54) #[] #[.pointer (some ⟨w.heap.size, 0, none⟩), .pointer (some ⟨w.heap.size + 1, 0, none⟩)]) ∧ w' = (w.alloc (.cells #[.slice a L c] 22)).alloc (.cells #[.int .i64 16] 3) := by
  have H := Lib.hid (chunk_any a L c w)
  go_enter Tryd.func25, Tryd.ntmps25
  go_wp2_with fail
  refine H.out.mono ?_
  rintro e w1 ⟨rfl, rfl⟩
  go_wp2_with fail
  go_ret
  exact ⟨rfl, rfl⟩
def ChR (n gs gn : Nat) (s : Value) (zs : List Nat) (W0 : World) (J : Nat → World → Prop) (i : Value) (wr : World) : Prop :=
  ∃ k : Nat, k ≤ n ∧ i = .int .i64 ((16 * k : Nat) : Int) ∧ J k wr ∧ rowN wr gs = some #[s] ∧ rowN wr gn = some #[.int .i64 16] ∧ BytesAt zs s wr ∧ W0.heap.size ≤ wr.heap.size
set_option maxRecDepth 100000 in
set_option maxHeartbeats 2000000 in
theorem chunk1_yields (m gs gn n : Nat) (zs : List Nat) (s : Value) (hL : zs.length = 16 * n) (hn : n ≤ 100000) (w : World) (hgs : rowN w gs = some #[s]) (hgn : rowN w gn = some #[.int .i64 16]) (hB : BytesAt zs s w) :
    YieldsS m 54 #[.pointer (some ⟨gs, 0, none⟩), .pointer (some ⟨gn, 0, none⟩)] n (fun k v V => BytesAt (blkB zs k) v V ∧ (∀ j, InS v j → InS s j)) (fun j => j = gs ∨ j = gn ∨ (0 < zs.length ∧ InS s j)) (fun _ _ => False) w := by
  intro l J Jx M W hW hM hJ hJx hY h0
  have HM := Lib.hid hM
  have HJ := Lib.hid hJ
  have HY := Lib.hid hY
  have HB := Lib.hid (hB.kept hW)
  have HL := Lib.hid hL
  have HI0 := Lib.hid (show ChR n gs gn s zs W J (.int .i64 0) W from ⟨0, by omega, rfl, h0, keptW hW hgs, keptW hW hgn, hB.kept hW, Nat.le_refl _⟩)
  obtain ⟨a, c, rfl, hcL⟩ : ∃ a c, s = .slice a zs.length c ∧ zs.length ≤ c := by obtain ⟨_, a, c, e, h, _⟩ := hB; exact ⟨a, c, e, h⟩
  rw [hL] at hcL
  clear hM hJ hJx hY h0 hgs hgn hB hW hL
  refine callsIn_of_wp Tryd.func54 rfl trivial ?_ rfl
  simp only [Tryd.ntmps54, List.size_toArray, List.length_cons, List.length_nil, Nat.reduceAdd, Nat.reduceSub, Array.replicate_succ, Array.replicate_zero, List.push_toArray, List.append_toArray, List.nil_append, List.cons_append]
  gi_wp2_with fail
  gi_loopw [4] (fun i wr => ChR n gs gn (.slice a zs.length c) zs W J i wr) (fun i _ => 16 * n - (intOf i).toNat)
  case atStart => exact HI0.out
  case round =>
    obtain ⟨k, hk, rfl, hj, hrs, hrn, hb, hws⟩ := hrel
    have c1 := (rowN_cell hrs).1 0
    have c2 := (rowN_cell hrn).1 0
    have HJK := Lib.hid hj
    have HRS := Lib.hid hrs
    have HRN := Lib.hid hrn
    have HBB := Lib.hid hb
    have HWS := Lib.hid hws
    rw [HL.out] at c1
    by_cases hlt : k < n
    · have h1 : ((16 * k : Nat) : Int) < ((16 * n : Nat) : Int) := by omega
      obtain ⟨b, off, c', e, _, _⟩ := hb.cells (by rw [HL.out]; omega)
      cases e
      have hs1 := fun W => run_slice22_l b off (16 * n) c (16 * k) (by omega) hcL W
      have hs2 := fun W => run_slice22_lhm b off (16 * n) c (16 * k) (16 * k + 16) (by omega) (by omega) W
      rw [show 16 * k + 16 - 16 * k = 16 by omega, show ((16 * k + 16 : Nat) : Int) = ((16 * k : Nat) : Int) + 16 by omega] at hs2
      have h2 : IntKind.i64.wrap (((16 * k : Nat) : Int) + 16) = ((16 * k : Nat) : Int) + 16 := IntWalk.i64_in _ (by omega)
      have h3 : (16 : Int) ≤ ((16 * n - 16 * k : Nat) : Int) := by omega
      have HIN := Lib.hid (show ∀ j, InS (Value.slice (some ⟨b, off + 16 * k, none⟩) 16 16) j → InS (.slice (some ⟨b, off, none⟩) zs.length c) j from fun j h => by
        obtain ⟨o, sp, L', c', e⟩ := h
        cases e
        exact ⟨off, none, _, _, rfl⟩)
      have HBK := Lib.hid (show ∀ q, BytesAt (blkB zs k) (.slice (some ⟨b, off + 16 * k, none⟩) 16 16) (wr.drewN q) from fun q => by
        have h := bytes_cutm hb (16 * k) 16 16 (by rw [HL.out]; omega) (Nat.le_refl _)
        exact h)
      have HLK := Lib.hid (show 16 * (k + 1) = 16 * k + 16 by omega)
      obtain ⟨P, hP⟩ : ∃ q, 16 * k = q := ⟨_, rfl⟩
      obtain ⟨Ln, hLn⟩ : ∃ q, 16 * n = q := ⟨_, rfl⟩
      rw [hP, hLn] at h1 hs1 h3
      rw [hP] at h2 HIN HBK hs2 HLK ⊢
      rw [hLn] at c1 hs2
      have HPE := Lib.hid hP
      have HLN := Lib.hid hLn
      clear hj hrs hrn hb hws hP hLn
      gi_wp2_with fail
      refine quiet_round_lit (by kernel_rfl) (by kernel_rfl) (by kernel_rfl) ?_
      repeat (gi_big_quiet_step (fail))
      refine wpQuietIn_nil ?_
      intro _ hw'
      obtain ⟨nq, rfl⟩ := hw'
      have hbq : Below wr.heap.size wr (wr.drewN nq) := below_drewN (Below.refl _ wr) nq
      obtain ⟨fn, tmps, assign, body, hy, hR⟩ := HY.out k _ (wr.drewN nq) hlt (HJ.out k wr _ none HJK.out (grown_none hbq) (fun r e => by cases e)) ⟨HBK.out nq, HIN.out⟩
      have d1 : (wr.drewN nq).cell? ⟨gs, 0, none⟩ = some (.slice (some ⟨b, off, none⟩) Ln c) := c1
      have HRR := Lib.hid hR
      have HQS := Lib.hid (show rowN (wr.drewN nq) gs = some #[.slice (some ⟨b, off, none⟩) zs.length c] from HRS.out)
      have HQN := Lib.hid (show rowN (wr.drewN nq) gn = some #[.int .i64 16] from HRN.out)
      have HQB := Lib.hid (show BytesAt zs (.slice (some ⟨b, off, none⟩) zs.length c) (wr.drewN nq) from HBB.out)
      have HQW := Lib.hid (show W.heap.size ≤ (wr.drewN nq).heap.size from HWS.out)
      clear hR hbq c1 c2 HRS HRN HBB HWS HBK HIN
      generalize wr.drewN nq = V at *
      gi_wp2_with fail
      refine ⟨(fun h => by cases h), ?_⟩
      refine HRR.out.mono ?_
      rintro e3 W3 ⟨hk3, (⟨rfl, hJ3⟩ | ⟨rfl, hJx3⟩)⟩
      · have hk3 : Keeps M V W3 := hk3.weaken (fun j _ h => h.elim id False.elim)
        have HJ3 := Lib.hid hJ3
        have HS3 := Lib.hid (hk3.row HQS.out (fun h => (HM.out _ h).2 (.inl rfl)))
        have HN3 := Lib.hid (hk3.row HQN.out (fun h => (HM.out _ h).2 (.inr (.inl rfl))))
        have HB3 := Lib.hid (HQB.out.keeps hk3 (fun j h0 hj h => (HM.out _ h).2 (.inr (.inr ⟨h0, hj⟩))))
        have HW3 := Lib.hid (Nat.le_trans HQW.out hk3.size)
        have d2 := (rowN_cell HN3.out).1 0
        clear hJ3 hk3 d1
        gi_wp2_with fail
        exact ⟨⟨k + 1, by omega, by rw [HLK.out]; rfl, HJ3.out, HS3.out, HN3.out, HB3.out, HW3.out⟩, by simp [intOf]; have := HPE.out; have := HLN.out; omega⟩
      · have HJX := Lib.hid hJx3
        clear hJx3 hk3
        gi_wp2_with fail
        refine bodyPost_ret (results_none rfl _ _ _) rfl ?_
        exact ⟨⟨_, rfl⟩, .inr ⟨k + 1, by omega, HJX.out⟩⟩
    · obtain rfl : k = n := by omega
      gi_wp2_with fail
      go_end0
      exact ⟨⟨_, rfl⟩, .inl HJK.out⟩
end Go.Proofs.YtjcdbjapadgdfaaDoor
