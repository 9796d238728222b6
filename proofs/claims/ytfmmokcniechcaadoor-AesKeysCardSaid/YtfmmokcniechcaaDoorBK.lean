/- AES: the iterator over the round keys, whose values may be written to. -/
import Derived.Sort.QuietIn
import Derived.Deep.RegionHeld3
import Derived.Test.YtfmmokcniechcaaDoorBI
namespace Go.Proofs.YtfmmokcniechcaaDoor
open Go.RowKit Go.Shelf

attribute [local go_sem] Oper.semAt_some
def YieldsO (n : Nat) (gf : Nat) (lb : Array Value) (N : Nat) (Φ : Nat → Value → Value → World → Prop) (Rd : Nat → Prop) (own : Value → Nat → Prop) (w : World) : Prop :=
  ∀ (l : Nat) (J Jx : Nat → World → Prop) (M : Nat → Prop) (W : World), Below w.heap.size w W → (∀ j, M j → j < W.heap.size ∧ ¬ Rd j) → OwnFrom W.heap.size J → OwnFrom W.heap.size Jx →
    (∀ k u v V, k < N → J k V → Φ k u v V → YieldAt Fence.wide (n - 1) Tryd.prog l #[u, v] V fun e V' => Keeps (fun j => M j ∨ own v j) V V' ∧ ((e = .returned (.bool true) ∧ J (k + 1) V') ∨ (e = .returned (.bool false) ∧ Jx (k + 1) V'))) →
    J 0 W →
    CallsIn Fence.wide n Tryd.prog gf (#[.func (.yield l) #[] #[]] ++ lb) W fun e W' => (∃ v, e = .returned v) ∧ (J N W' ∨ ∃ k, k ≤ N ∧ Jx k W')

section
variable {n : Nat}
theorem range_yieldsO {g : Operand} {p q : Tmp} {assign body : Code} {Q : Exit → Act → World → Prop} {a : Act} {w : World}
    (h1 : 1 ≤ n) {gf : Nat} {lb : Array Value} (hg : a.eval g = .func (.func gf) #[] lb) (eg : ∀ args w, (callFunc gf args).run Tryd.prog w = .ok (.enter gf args) w)
    {N : Nat} {Φ : Nat → Value → Value → World → Prop} {Rd : Nat → Prop} {own : Value → Nat → Prop} {w0 : World} (hseq : YieldsO (n - 1) gf lb N Φ Rd own w0)
    (M : Nat → Prop) (hM : ∀ j, M j → j < w.heap.size ∧ ¬ Rd j) (hRd : ∀ j, Rd j → j < w.heap.size)
    (hb0 : Below w0.heap.size w0 w) (I : Nat → World → Prop) (Ix : Code → Nat → World → Prop) (hI : OwnFrom w.heap.size I) (hIx : ∀ c, OwnFrom w.heap.size (Ix c)) (h0 : I 0 w) (a₁ : Value → Value → World → Act) (X : Nat → Value → Value → World → World → Prop)
    (hX : ∀ (k : Nat) (u v : Value) (W0 W1 : World) (l : Nat) (o o' : Obj), X k u v W0 W1 → W1.heap[l]? = some o → o.isCells = false → X k u v W0 (W1.putObj l o'))
    (hassign : ∀ (l j : Nat) (u v : Value) (W : World) (k : Act → World → Prop), j < N → w.heap.size ≤ W.heap.size → Φ j u v W → (∀ W1, Below W.heap.size W W1 → X j u v W W1 → k (a₁ u v W) W1) →
      assign.wpIn (Fence.wide.inRound l) (n - 1 - 1) Tryd.prog (Exit.then k (fun _ _ _ => False)) { tmps := ((#[p, q] : Array Tmp).zip #[u, v]).foldl (fun t (p, v) => t.setIfInBounds p v) a.tmps, defers := [] } W)
    (hbody : ∀ (l k : Nat) (u v : Value) (W0 W : World), k < N → w.heap.size ≤ W0.heap.size → I k W → X k u v W0 W → body.wpIn (Fence.wide.inRound l) (n - 1 - 1) Tryd.prog (fun e _ W' => RoundEnds w.heap.size (Keeps fun j => M j ∨ own v j) (I (k + 1)) (fun c => Ix c (k + 1)) W e W') (a₁ u v W0) W)
    (hdone : ∀ (D : Nat) (W : World), w.heap.size ≤ D → I N W → W.heap[D]? = some (.deferred (some [])) → Q .normal { a with defers := { target := .collected D, args := #[] } :: a.defers } W)
    (hstop : ∀ (D k : Nat) (c : Code) (W : World), w.heap.size ≤ D → k ≤ N → Ix c k W → W.heap[D]? = some (.deferred (some [])) → c.wpIn Fence.wide n Tryd.prog Q { a with defers := { target := .collected D, args := #[] } :: a.defers } W) :
    (Code.rangeFunc g #[p, q] assign body).wpIn Fence.wide n Tryd.prog Q a w := by
  apply wpIn_rangeFunc
  intro fn hfn
  obtain ⟨D, hD⟩ : ∃ D, w.heap.size = D := ⟨_, rfl⟩
  let rc : LoopState → Option Code → Loop := fun st pe => { state := st, pending := pe, fn, tmps := a.tmps, params := #[p, q], assign, body, defers := D }
  let V := (w.alloc (.deferred (some []))).alloc (.loop (rc .ready none))
  have hVs : V.heap.size = D + 2 := by simp only [V, World.size_alloc]; omega
  have hB : Books D (rc .ready none) V := by
    refine ⟨?_, ?_⟩
    · have := World.alloc_heap_new (w.alloc (.deferred (some []))) (.loop (rc .ready none))
      rw [World.size_alloc, hD] at this
      exact this
    · have h2 := World.alloc_heap_new w (.deferred (some []))
      rw [hD] at h2
      exact (Below.heap_alloc _ _ _ (by simp; omega)).trans h2
  have hIV : I 0 V := hI.alloc _ (hI.alloc _ h0)
  have hbV : Below w0.heap.size w0 V := hb0.trans ((((Below.refl _ w).alloc (Nat.le_refl _) _).alloc (by simp) _).mono hb0.size)
  refine ⟨D + 1, [{ target := .collected D, args := #[] }], V, { target := .fn (.func gf) lb, args := #[.func (.yield (D + 1)) #[] #[]] }, V, gf, #[.func (.yield (D + 1)) #[] #[]] ++ lb, V, ?_, ?_, fun _ _ => trivial, ?_, fun _ => h1, ?_⟩
  · have := run_enterLoop_outer (P := Tryd.prog) (w := w) fn a.tmps #[p, q] assign body
    rw [hD] at this
    exact this
  · simp only [resolve, hg]
    simp [go_sem]
  · simp [invoke, go_sem, eg]
  have hrow : ∀ {A : World} {row : Option Nat}, (∀ r, row = some r → V.heap.size ≤ r ∧ ∃ o : Obj, A.heap[r]? = some o ∧ o.isCells = false) → ∀ r, row = some r → w.heap.size ≤ r ∧ ∃ o : Obj, A.heap[r]? = some o ∧ o.isCells = false :=
    fun hr r e => by obtain ⟨hb, ho⟩ := hr r e; exact ⟨by omega, ho⟩
  have hcall := hseq (D + 1) (fun k W => I k W ∧ Books D (rc .ready none) W) (fun k W => ∃ c, Ix c k W ∧ Books D (rc .done (some c)) W) (fun j => M j ∨ j = D + 1) V hbV
    (fun j hj => by
      rcases hj with hj | rfl
      · have := hM j hj; exact ⟨by omega, this.2⟩
      · exact ⟨by omega, fun h => by have := hRd _ h; omega⟩)
    (fun s A B row hs hg' hr => ⟨hI s A B row hs.1 hg' (hrow hr), hs.2.abides hg' fun r e => by have := (hr r e).1; omega⟩)
    (fun s A B row hs hg' hr => by obtain ⟨c, hc, hk⟩ := hs; exact ⟨c, hIx c s A B row hc hg' (hrow hr), hk.abides hg' fun r e => by have := (hr r e).1; omega⟩)
    ?_ ⟨hIV, hB⟩
  · refine hcall.mono ?_
    rintro e W2 ⟨⟨v, rfl⟩, (⟨hi, hk⟩ | ⟨k, hkN, c, hi, hk⟩)⟩
    · exact ⟨none, _, run_endLoop hk.loop (by simp [rc]), hdone D _ (by omega) (hI.putObj _ hi (by omega) hk.loop rfl) ((World.putObj_heap_other (by omega)).trans hk.defs)⟩
    · exact ⟨some c, _, run_endLoop hk.loop (by simp [rc]), hstop D k c _ (by omega) hkN ((hIx c).putObj _ hi (by omega) hk.loop rfl) ((World.putObj_heap_other (by omega)).trans hk.defs)⟩
  · rintro k u v W hkN ⟨hi, hk⟩ hphi
    have hy := run_yield (P := Tryd.prog) (args := #[u, v]) hk.loop rfl
    refine ⟨fn, _, assign, body, hy, roundIn_of_wpIn hfn ?_⟩
    have hwW : w.heap.size ≤ W.heap.size := by have := hk.lt; omega
    refine hassign _ k u v W _ hkN hwW hphi ?_
    intro W1 hb1 hx1
    have hg1 : W.grownBy W1 none := ⟨hb1.os, hb1.tape, hb1.output, hb1.size, fun j hj _ => hb1.block j hj⟩
    have hk1 := hk.abides hg1 (fun r e => by cases e)
    have hi1 := hI k W W1 none hi hg1 (fun r e => by cases e)
    refine ⟨_, run_beginRound hk1.loop rfl, ?_⟩
    have hk2 := hk1.put (rec' := { rc .ready none with state := .busy })
    have hput : ∀ (X : World) (o' : Obj), Keeps (fun j => (M j ∨ j = D + 1) ∨ own v j) X (X.putObj (D + 1) o') := fun X o' => ⟨by simp, fun j _ hm => World.putObj_heap_other fun e => hm (.inl (.inr e))⟩
    refine wpIn_mono (hbody _ k u v W _ hkN hwW (hI.putObj _ hi1 (by omega) hk1.loop rfl) (hX _ _ _ _ _ _ _ _ hx1 hk1.loop rfl)) ?_
    rintro e a3 W3 ⟨hkf, hKK, hp⟩
    have hk3 := hk2.kept (by rw [hD] at hkf; exact hkf)
    have hK3 := fun o' => (Keeps.of_below (M := fun j => (M j ∨ j = D + 1) ∨ own v j) hb1).trans (((hput _ _).trans (hKK.weaken fun j _ hj => hj.elim (fun h => .inl (.inl h)) .inr)).trans (hput W3 o'))
    rcases hp with ⟨rfl, hi3⟩ | ⟨rfl, hi3⟩ | ⟨id, rfl, hi3⟩
    · exact ⟨_, _, run_endRound none hk3.loop, hK3 _, .inl ⟨rfl, hI.putObj _ hi3 (by omega) hk3.loop rfl, hk3.put⟩⟩
    · exact ⟨_, _, run_endRound (some .ret) hk3.loop, hK3 _, .inr ⟨rfl, .ret, (hIx _).putObj _ hi3 (by omega) hk3.loop rfl, hk3.put⟩⟩
    · exact ⟨_, _, run_endRound (some (.exit id)) hk3.loop, hK3 _, .inr ⟨rfl, .exit id, (hIx _).putObj _ hi3 (by omega) hk3.loop rfl, hk3.put⟩⟩
end
theorem YieldAt.wideTo {n m : Nat} {P : Program} {l : Nat} {args : Array Value} {W : World} {R : Ending → World → Prop} (h : YieldAt Fence.wide n P l args W R) (l' : Nat) : YieldAt (Fence.wide.inRound l') m P l args W R := by
  obtain ⟨fn, t, a, b, hy, hr⟩ := h
  exact ⟨fn, t, a, b, hy, hr.1, fun c cs _ => hr.2 c cs (room_wide _)⟩
theorem OwnFrom.mono {β : Type} {B B' : Nat} {I : β → World → Prop} (h : OwnFrom B I) (hB : B ≤ B') : OwnFrom B' I := fun s W W' row hs hg hr => h s W W' row hs hg fun r e => by obtain ⟨h1, h2⟩ := hr r e; exact ⟨by omega, h2⟩
/-- Nothing but M has turned since W, and J is true. -/
theorem own_keeps {J : Nat → World → Prop} {M : Nat → Prop} {B B' : Nat} {V : World} (hJ : OwnFrom B J) (hB : B ≤ B') (hV : V.heap.size ≤ B') (f : Nat → Nat) : OwnFrom B' (fun k X => J (f k) X ∧ Keeps M V X) := by
  intro k X Y row hs hg hr
  refine ⟨(OwnFrom.mono hJ hB) (f k) X Y row hs.1 hg hr, ⟨Nat.le_trans hs.2.size hg.size, fun j hj hm => (hg.block j (Nat.lt_of_lt_of_le hj hs.2.size) fun e => ?_).trans (hs.2.same j hj hm)⟩⟩
  have := (hr j e.symm).1
  omega
def NF (s : Value) (W : World) : Prop := ∀ b off L c, s = .slice (some ⟨b, off, none⟩) L c → ∀ j, j < L → W.frozen? ⟨b, off + j, none⟩ = false
theorem owns_nf {base n : Nat} {w : World} {v : Value} {xs : List Value} (h : w.ownsRow base 5 1 v n xs) : NF v w := by
  rintro b off L c rfl j hj
  rcases h.2 with ⟨e, _⟩ | ⟨g, cap, cur, e, _, hg, _⟩
  · cases e
  · cases e; simp [World.frozen?, hg]
theorem NF.putObj {zs : List Nat} {s : Value} {w : World} (hB : BytesAt zs s w) (h : NF s w) {l : Nat} {o : Obj} (o' : Obj) (hl : w.heap[l]? = some o) (ho : o.isCells = false) : NF s (w.putObj l o') := by
  rintro b off L c rfl j hj
  obtain ⟨_, a0, c0, e, hc, h2⟩ := hB
  cases e
  rcases h2 with h2 | ⟨b', off', e, _, hjj⟩
  · omega
  · cases e
    have hne : b ≠ l := by
      rintro rfl
      have hj0 := hjj j hj
      unfold World.cell? at hj0
      simp only [hl] at hj0
      cases o <;> simp_all [Obj.isCells]
    have := h b off _ c rfl j hj
    unfold World.frozen? at this ⊢
    rw [World.putObj_heap_other hne]; exact this
set_option maxRecDepth 100000 in
set_option maxHeartbeats 1000000 in
theorem bytes_nf (ws : List Nat) (rest : Array Value) (g : Nat) (hs : ws.length = 4) (hw : W32 ws) (w : World) (hrow : rowN w g = some (blA ws rest)) :
    Calls Tryd.prog 25 #[.pointer (some ⟨g, 0, none⟩)] w fun e w' => ∃ s, e = .returned s ∧ BytesAt (bytesL ws) s w' ∧ Nil0 s ∧ (∀ j, InS s j → w.heap.size ≤ j) ∧ NF s w' ∧ Below w.heap.size w w' := by
  have HS := Lib.hid hs
  have HW := Lib.hid hw
  have HR := Lib.hid hrow
  clear hs hw hrow
  have hmk := run_make16
  have hzs : (arr .u8 (zr 16)).size = 16 := by rw [arr_size, zr_len]
  have HI0 := Lib.hid (show ByRel ws w (.slice (some ⟨w.heap.size, 0, none⟩) 0 16) (.int .i64 0) (w.alloc (.cells (arr .u8 (zr 16)) 5)) from
    ⟨0, by omega, rfl, made_own w 16 _ hzs (by omega), (Below.refl _ w).alloc (Nat.le_refl _) _⟩)
  go_enter Tryd.func25, Tryd.ntmps25
  go_wp2_with fail
  go_loopw [3, 8] (fun v i wr => ByRel ws w v i wr) (fun _ i _ => 4 - (intOf i).toNat)
  case atStart => exact HI0.out
  case round =>
    obtain ⟨k, hk, rfl, ho, hB⟩ := hrel
    have HB := Lib.hid hB
    by_cases hlt : k < 4
    · have hk4 : ((k : Nat) : Int) < 4 := by omega
      have hks : k < ws.length := by rw [HS.out]; exact hlt
      have hc0 := cell_bl HS.out (keptW hB HR.out) hlt
      have hx32 := HW.out.get k
      have HSU := Lib.hid (bytesL_succ hks)
      have hll : (bytesL (ws.take k)).length ≤ 16 := by rw [bytesL_len, List.length_take, HS.out]; omega
      obtain ⟨x, hx⟩ : ∃ x, ws.getD k 0 = x := ⟨_, rfl⟩
      rw [hx] at hc0 hx32 HSU
      have HW4 := Lib.hid (bW_256 hx32)
      have HBW := Lib.hid (show bW x = [b0 x, b1 x, b2 x, b3 x] from rfl)
      have e0 : IntKind.u8.wrap (((x : Nat) : Int) / 16777216) = ((b0 x : Nat) : Int) := by rw [IntKind.wrap_u8]; unfold b0; omega
      have e1 : IntKind.u8.wrap (((x : Nat) : Int) / 65536) = ((b1 x : Nat) : Int) := by rw [IntKind.wrap_u8]; unfold b1; omega
      have e2 : IntKind.u8.wrap (((x : Nat) : Int) / 256) = ((b2 x : Nat) : Int) := by rw [IntKind.wrap_u8]; unfold b2; omega
      have e3 : IntKind.u8.wrap ((x : Nat) : Int) = ((b3 x : Nat) : Int) := by rw [IntKind.wrap_u8]; unfold b3; omega
      obtain ⟨a0, ha0⟩ : ∃ z, b0 x = z := ⟨_, rfl⟩
      obtain ⟨a1, ha1⟩ : ∃ z, b1 x = z := ⟨_, rfl⟩
      obtain ⟨a2, ha2⟩ : ∃ z, b2 x = z := ⟨_, rfl⟩
      obtain ⟨a3, ha3⟩ : ∃ z, b3 x = z := ⟨_, rfl⟩
      rw [ha0] at e0 HBW; rw [ha1] at e1 HBW; rw [ha2] at e2 HBW; rw [ha3] at e3 HBW
      have HLIT := Lib.hid (fun (W : World) => show BytesAt (bW x) (.slice (some ⟨W.heap.size, 0, none⟩) 4 4) (W.alloc (.cells #[.int .u8 (a0 : Nat), .int .u8 (a1 : Nat), .int .u8 (a2 : Nat), .int .u8 (a3 : Nat)] 5)) from
        bytes_row HW4.out (by rw [rowN_alloc, if_pos rfl, arr_lit, HBW.out]; rfl) 4 rfl)
      have HO := Lib.hid ho
      obtain ⟨av, cv, rfl⟩ := owns_slice ho
      have hwz := hB.size
      clear ho hB hx ha0 ha1 ha2 ha3
      go_wp2_with (at_builtin; refine wpList_app rfl _ _ rfl w.heap.size rfl rfl (HO.out.alloc _) (HLIT.out wr) (fun L c e => by cases e) (by simp [bW]; omega) (by simp; omega) ?_; intro v' w' hown' hgrow')
      have hb' := below_owned (HB.out.alloc hwz _) (HO.out.alloc _) hgrow' (by simp; omega)
      have HB' := Lib.hid hb'
      have HO' := Lib.hid hown'
      rw [← HSU.out] at HO'
      clear hown' hgrow' hb'
      go_wp2_with fail
      exact ⟨⟨k + 1, by omega, rfl, HO'.out, HB'.out⟩, by simp [intOf]; omega⟩
    · obtain rfl : k = 4 := by omega
      rw [List.take_of_length_le (by rw [HS.out]; exact Nat.le_refl _)] at ho
      have h1 := owns_both (bytesL_256 HW.out) ho
      have HN := Lib.hid (owns_nil0 ho)
      have HNF := Lib.hid (owns_nf ho)
      have H1 := Lib.hid h1
      clear h1 ho hB
      go_wp2_with fail
      go_ret
      exact ⟨_, rfl, H1.out.1, HN.out, H1.out.2, HNF.out, HB.out⟩

def keyN (kw : List Nat) (k : Nat) (v : Value) (V : World) : Prop := BytesAt (bytesL (rk kw k)) v V ∧ NF v V
set_option maxRecDepth 100000 in
set_option maxHeartbeats 4000000 in
theorem keys1_yields (m gb g : Nat) (kw : List Nat) (hl : kw.length = 4) (hw : W32 kw) (w : World) (hgb : rowN w gb = some #[.pointer (some ⟨g, 0, none⟩)]) (hC : rowN w g = some (cphA TB (KS kw 11))) :
    YieldsO m 22 #[.pointer (some ⟨gb, 0, none⟩)] 11 (fun k u v V => u = .int .i64 (k : Nat) ∧ keyN kw k v V ∧ ∀ j, InS v j → w.heap.size ≤ j ∧ j < V.heap.size) (fun j => j = gb ∨ j = g) InS w := by
  intro l J Jx M W hW hM hJ hJx hY h0
  have hmo : Tryd.prog.follows .mixedOrders = true := by kernel_rfl
  have HM := Lib.hid hM
  have HOJ := Lib.hid hJ
  have HOX := Lib.hid hJx
  have HY := Lib.hid hY
  have H0 := Lib.hid h0
  have HGB := Lib.hid (keptW hW hgb)
  have HC := Lib.hid (keptW hW hC)
  have HL := Lib.hid hl
  have HW := Lib.hid hw
  have hwW := hW.size
  have sb1 := rowN_lt HGB.out
  have sb2 := rowN_lt HC.out
  have hbx : Below W.heap.size W (W.alloc (.cells #[.func (.yield l) #[] #[]] 53)) := (Below.refl _ W).alloc (Nat.le_refl _) _
  have c1 := (rowN_cell (keptW hbx HGB.out)).1 0
  have HIC := Lib.hid (isC_yes g _ (cph_99 (keptW hbx HC.out)))
  clear hM hJ hJx hY h0 hgb hC hW hl hw
  refine callsIn_of_wp_marks Tryd.func22 rfl trivial ?_ rfl
  simp only [Tryd.ntmps22, List.size_toArray, List.length_cons, List.length_nil, Nat.reduceAdd, Nat.reduceSub, Array.replicate_succ, Array.replicate_zero, List.push_toArray, List.append_toArray, List.nil_append, List.cons_append]
  refine wpIn_wide.2 ?_
  go_wp2_with fail
  refine HIC.out.mono ?_
  rintro e w1 ⟨rfl, rfl⟩
  go_wp2_with fail
  refine (roundKeys_any g _).mono ?_
  rintro e w2 ⟨rfl, rfl⟩
  go_wp2_with fail
  obtain ⟨W0, hW0⟩ : ∃ V, (W.alloc (.cells #[.func (.yield l) #[] #[]] 53)).alloc (.cells #[.slice (some ⟨g, 512, none⟩) 11 11] 66) = V := ⟨_, rfl⟩
  have hbe : Below W.heap.size W W0 := by rw [← hW0]; exact hbx.alloc (by simp) _
  have hy0 : rowN W0 W.heap.size = some #[.func (.yield l) #[] #[]] := by rw [← hW0, rowN_alloc, if_neg (by simp), rowN_alloc, if_pos rfl]
  have hs0 : rowN W0 (W.heap.size + 1) = some #[.slice (some ⟨g, 512, none⟩) 11 11] := by rw [← hW0, rowN_alloc, if_pos (by simp)]
  have hz0 : W0.heap.size = W.heap.size + 2 := by rw [← hW0]; simp
  rw [hW0]
  have HJ0 := Lib.hid (HOJ.out 0 W W0 none H0.out (grown_none hbe) (fun r e => by cases e))
  have HY0 := Lib.hid hy0
  have HC0 := Lib.hid (keptW hbe HC.out)
  have HAL := Lib.hid (all_yields (5 - 1) (W.heap.size + 1) g (KS kw 11) (KS_len HL.out (by omega)) W0 HC0.out hs0)
  have HNM := Lib.hid (fun j (h : W.heap.size ≤ j) (hm : M j) => show False from by have := (HM.out j hm).1; omega)
  clear hbe hy0 hs0 c1 hW0 hbx
  refine (wpIn_wide (n := 5)).1 ?_
  refine range_yields (by omega) (gf := 55) (lb := #[.pointer (some ⟨W.heap.size + 1, 0, none⟩)]) rfl (enters_of Tryd.func55 (by kernel_rfl) rfl) HAL.out
    M (fun j h => by
      have hm := HM.out j h
      refine ⟨by omega, fun h2 => ?_⟩
      rcases h2 with h2 | h2
      · exact hm.2 (.inr h2)
      · omega)
    (fun j h => by
      rcases h with h | h
      · omega
      · omega) (Below.refl _ _)
    (fun k V => J k V ∧ Keeps M W0 V) (fun c k V => c = .ret ∧ Jx k V) (own_keeps HOJ.out (by omega) (Nat.le_refl _) (fun k => k))
    (fun c k X Y row hs hg hr => ⟨hs.1, (OwnFrom.mono HOX.out (by omega)) k X Y row hs.2 hg hr⟩) ⟨HJ0.out, Keeps.refl _ _⟩ ?a1
    (fun k u v V0 V1 => u = .int .i64 (k : Nat) ∧ rowN V1 V0.heap.size = some (arr .u32 (rk kw k)))
    (fun k u v V0 V1 l o o' h hl ho => ⟨h.1, row_putNo h.2 hl ho⟩) ?assign ?body ?done ?stop
  case assign =>
    rintro l2 j u v W kf hj hWs ⟨hu, hv⟩ hk
    have hv2 : v = .agg (arr .u32 (rk kw j)) := by rw [hv]; exact kyv_rk HL.out (by omega)
    have hkl := rk_len HL.out j
    obtain ⟨kk, hkk⟩ : ∃ z, rk kw j = z := ⟨_, rfl⟩
    rw [hkk] at hv2 hkl hk
    have sz4 : (arr .u32 (zr 4)).size = 4 := by rw [arr_size, zr_len]
    have hst : (arStore 47 (.pointer (some ⟨W.heap.size, 0, none⟩)) v).run Tryd.prog (W.alloc (.cells (arr .u32 (zr 4)) 47)) = .ok .skip ((W.alloc (.cells (arr .u32 (zr 4)) 47)).setRow W.heap.size (arr .u32 kk)) := by
      rw [hv2, run_arStore37 _ _ _ hkl, rowN_alloc, if_pos rfl, rowStore_some _ _ _ _ _ _ sz4]; rfl
    have HKK := Lib.hid (hk ((W.alloc (.cells (arr .u32 (zr 4)) 47)).setRow W.heap.size (arr .u32 kk)) (below_setRow' ((Below.refl _ W).alloc (Nat.le_refl _) _) (Nat.le_refl _) _) ⟨hu, row_new (cs := arr .u32 (zr 4)) (by rw [rowN_alloc, if_pos rfl])⟩)
    clear hu hv hv2 hk hkk
    gi_wp2_with fail
    exact HKK.out
  case body =>
    rintro l2 k u v V0 V hk hV0 ⟨hj, hkp⟩ ⟨rfl, hkr⟩
    obtain ⟨gk, hgk⟩ : ∃ z, V0.heap.size = z := ⟨_, rfl⟩
    rw [hgk] at hkr ⊢
    have hgV := rowN_lt hkr
    have HCC := Lib.hid (show Calls Tryd.prog 25 #[.pointer (some ⟨gk, 0, none⟩)] V.drew (fun e w' => ∃ s, e = .returned s ∧ BytesAt (bytesL (rk kw k)) s w' ∧ Nil0 s ∧ (∀ j, InS s j → V.heap.size ≤ j) ∧ NF s w' ∧ Below V.heap.size V.drew w') from
      bytes_nf (rk kw k) #[] gk (rk_len HL.out k) (rk_w32 HW.out k) V.drew (by rw [blA_nil]; exact hkr))
    have hlen : (bytesL (rk kw k)).length = 16 := bytesL_16 (rk_len HL.out k)
    have hVs : W0.heap.size ≤ V.heap.size := hkp.size
    have hy3 := hkp.row HY0.out (HNM.out _ (Nat.le_refl _))
    have cy := (rowN_cell hy3).1 0
    have HY3 := Lib.hid hy3
    have HKP := Lib.hid hkp
    have HJJ := Lib.hid hj
    clear hkp hj hy3 hkr hgk
    gi_wp2_with fail
    gi_region_with_o (first
      | (refine ⟨trivial, ?_⟩; refine (CallsIn.inRound l2 (callsIn_wide.2 HCC.out)).mono ?_; rintro e V2 ⟨s2, rfl, hb2, hn2, hf2, hnf2, hB2⟩
         have hB2' : Below V.heap.size V V2 := (Below.refl _ V).drew.trans hB2
         have cy2 := (rowN_cell (keptW hB2' HY3.out)).1 0
         have hlt2 : ∀ j, InS s2 j → j < V2.heap.size := fun j h => hb2.lt (by omega) h
         obtain ⟨fn, tmps, assign, body, hy, hR⟩ := YieldAt.wideTo (m := 5 - 1 - 1 - 1) (HY.out k (.int .i64 (k : Nat)) s2 V2 hk (HOJ.out k V V2 none HJJ.out (grown_none hB2') (fun r e => by cases e)) ⟨rfl, ⟨hb2, hnf2⟩, fun j h => ⟨by have := hf2 j h; omega, hlt2 j h⟩⟩) l2
         have HR := Lib.hid hR
         have HB2 := Lib.hid hB2'
         have HF2 := Lib.hid (show ∀ j, InS s2 j → V.heap.size ≤ j from hf2)
         clear hR hB2 hB2' hf2 hlt2 hb2 hn2 hnf2)
      | (refine HR.out.mono ?_; rintro e3 W3 ⟨hk3, h3⟩; obtain ⟨t, rfl, q3⟩ : ∃ t, e3 = .returned (.bool t) ∧ ((t = true ∧ J (k + 1) W3) ∨ (t = false ∧ Jx (k + 1) W3)) := (by rcases h3 with ⟨rfl, h⟩ | ⟨rfl, h⟩; exact ⟨true, rfl, .inl ⟨rfl, h⟩⟩; exact ⟨false, rfl, .inr ⟨rfl, h⟩⟩); have H3 := Lib.hid q3; clear q3 h3))
    all_goals
      have hK3 : Keeps M V W3 := ⟨Nat.le_trans HB2.out.size hk3.size, fun j hj hm => (hk3.same j (Nat.lt_of_lt_of_le hj HB2.out.size) (fun h => by
        rcases h with h | h
        · exact hm h
        · have := HF2.out j h; omega)).trans (HB2.out.block j hj)⟩
      have hF3 : KeepsFrom W0.heap.size V W3 := hK3.from (fun j hj h => HNM.out j (by omega) h)
      have HKK := Lib.hid (show Keeps M W0 W3 from HKP.out.trans hK3)
      have HK3 := Lib.hid hK3
      have HF3 := Lib.hid hF3
      clear hK3 hF3 hk3
    all_goals
      have q3 := H3.out
      clear H3
      rcases q3 with ⟨rfl, hJ3⟩ | ⟨rfl, hJx3⟩
    all_goals first
      | (have HE := Lib.hid (show RoundEnds W0.heap.size (Keeps M) (fun V => J (k + 1) V ∧ Keeps M W0 V) (fun c V => c = Code.ret ∧ Jx (k + 1) V) V .normal W3 from ⟨HF3.out, HK3.out, .inl ⟨rfl, hJ3, HKK.out⟩⟩); clear hJ3)
      | (have HE := Lib.hid (show RoundEnds W0.heap.size (Keeps M) (fun V => J (k + 1) V ∧ Keeps M W0 V) (fun c V => c = Code.ret ∧ Jx (k + 1) V) V .ret W3 from ⟨HF3.out, HK3.out, .inr (.inl ⟨rfl, rfl, hJx3⟩)⟩); clear hJx3)
    all_goals
      gi_wp2_with fail
      exact HE.out
  case done =>
    rintro D V hD ⟨hj, hkp⟩ hK
    have HE := Lib.hid ((OwnFrom.mono HOJ.out (by omega)).putObj (.deferred none) hj hD hK rfl)
    have HK := Lib.hid hK
    clear hj hkp hK
    go_wp2_with fail
    refine ⟨by simp, .inl ⟨_, _, rfl, run_takeDeferred HK.out, ?_⟩⟩
    exact ⟨_, results_none rfl _ _ _, ⟨_, rfl⟩, .inl HE.out⟩
  case stop =>
    rintro D k c V hD hk ⟨rfl, hx⟩ hK
    have HE := Lib.hid ((OwnFrom.mono HOX.out (by omega)).putObj (.deferred none) hx hD hK rfl)
    have HK := Lib.hid hK
    clear hx hK
    gi_wp2_with fail
    refine ⟨by simp, .inl ⟨_, _, rfl, run_takeDeferred HK.out, ?_⟩⟩
    exact ⟨_, results_none rfl _ _ _, ⟨_, rfl⟩, .inr ⟨k, hk, HE.out⟩⟩
end Go.Proofs.YtfmmokcniechcaaDoor
