/- Iterators whose consumer may turn whatever they do not read. -/
import Derived.Test.YtjcdbjapadgdfaaDoorCJ
namespace Go.Proofs.YtjcdbjapadgdfaaDoor
open Go.RowKit Go.Shelf

attribute [local go_sem] Oper.semAt_some
/-- An iterator's word: it yields N values of which Φ holds; its consumer keeps what the iterator reads (Rd), and may turn all else, blocks that it has made itself among them. -/
def YieldsR (n : Nat) (gf : Nat) (lb : Array Value) (N : Nat) (Φ : Nat → Value → World → Prop) (Rd : Nat → Prop) (w : World) : Prop :=
  ∀ (l : Nat) (J Jx : Nat → World → Prop) (W : World), Below w.heap.size w W → OwnFrom W.heap.size J → OwnFrom W.heap.size Jx →
    (∀ k v V, k < N → J k V → Φ k v V → YieldAt Fence.wide (n - 1) Tryd.prog l #[v] V fun e V' => Keeps (fun j => ¬ Rd j) V V' ∧ ((e = .returned (.bool true) ∧ J (k + 1) V') ∨ (e = .returned (.bool false) ∧ Jx (k + 1) V'))) →
    J 0 W →
    CallsIn Fence.wide n Tryd.prog gf (#[.func (.yield l) #[] #[]] ++ lb) W fun e W' => (∃ v, e = .returned v) ∧ (J N W' ∨ ∃ k, k ≤ N ∧ Jx k W')
section
variable {n : Nat}
theorem range_yieldsR {g : Operand} {p : Tmp} {assign body : Code} {Q : Exit → Act → World → Prop} {a : Act} {w : World}
    (h1 : 1 ≤ n) {gf : Nat} {lb : Array Value} (hg : a.eval g = .func (.func gf) #[] lb) (eg : ∀ args w, (callFunc gf args).run Tryd.prog w = .ok (.enter gf args) w)
    {N : Nat} {Φ : Nat → Value → World → Prop} {Rd : Nat → Prop} {w0 : World} (hseq : YieldsR (n - 1) gf lb N Φ Rd w0)
    (hRd : ∀ j, Rd j → j < w.heap.size)
    (hΦ : ∀ (k : Nat) (v : Value) (W : World) (l : Nat) (o o' : Obj), Φ k v W → W.heap[l]? = some o → o.isCells = false → Φ k v (W.putObj l o'))
    (hb0 : Below w0.heap.size w0 w) (I : Nat → World → Prop) (Ix : Code → Nat → World → Prop) (hI : OwnFrom w.heap.size I) (hIx : ∀ c, OwnFrom w.heap.size (Ix c)) (h0 : I 0 w) (a₁ : Value → Act)
    (hassign : ∀ (l : Nat) (v : Value) (W : World) (k : Act → World → Prop), k (a₁ v) W →
      assign.wpIn (Fence.wide.inRound l) (n - 1 - 1) Tryd.prog (Exit.then k (fun _ _ _ => False)) { tmps := ((#[p] : Array Tmp).zip #[v]).foldl (fun t (p, v) => t.setIfInBounds p v) a.tmps, defers := [] } W)
    (hbody : ∀ (l k : Nat) (v : Value) (W : World), k < N → I k W → Φ k v W → body.wpIn (Fence.wide.inRound l) (n - 1 - 1) Tryd.prog (fun e _ W' => RoundEnds w.heap.size (Keeps fun j => ¬ Rd j) (I (k + 1)) (fun c => Ix c (k + 1)) W e W') (a₁ v) W)
    (hdone : ∀ (D : Nat) (W : World), w.heap.size ≤ D → I N W → W.heap[D]? = some (.deferred (some [])) → Q .normal { a with defers := { target := .collected D, args := #[] } :: a.defers } W)
    (hstop : ∀ (D k : Nat) (c : Code) (W : World), w.heap.size ≤ D → k ≤ N → Ix c k W → W.heap[D]? = some (.deferred (some [])) → c.wpIn Fence.wide n Tryd.prog Q { a with defers := { target := .collected D, args := #[] } :: a.defers } W) :
    (Code.rangeFunc g #[p] assign body).wpIn Fence.wide n Tryd.prog Q a w := by
  apply wpIn_rangeFunc
  intro fn hfn
  obtain ⟨D, hD⟩ : ∃ D, w.heap.size = D := ⟨_, rfl⟩
  let rc : LoopState → Option Code → Loop := fun st pe => { state := st, pending := pe, fn, tmps := a.tmps, params := #[p], assign, body, defers := D }
  let V := (w.alloc (.deferred (some []))).alloc (.loop (rc .ready none))
  have hVs : V.heap.size = D + 2 := by simp only [V, World.size_alloc]; omega
  have hB : Books D (rc .ready none) V := by
    refine ⟨?_, ?_⟩
    · have := World.alloc_heap_new (w.alloc (.deferred (some []))) (.loop (rc .ready none))
      rw [World.size_alloc, hD] at this
      exact this
    · have h2 := World.alloc_heap_new w (.deferred (some []))
      rw [hD] at h2
      exact (Below.heap_alloc _ _ _ (by simp; omega)).trans h2
  have hIV : I 0 V := hI.alloc _ (hI.alloc _ h0)
  have hbV : Below w0.heap.size w0 V := hb0.trans ((((Below.refl _ w).alloc (Nat.le_refl _) _).alloc (by simp) _).mono hb0.size)
  refine ⟨D + 1, [{ target := .collected D, args := #[] }], V, { target := .fn (.func gf) lb, args := #[.func (.yield (D + 1)) #[] #[]] }, V, gf, #[.func (.yield (D + 1)) #[] #[]] ++ lb, V, ?_, ?_, fun _ _ => trivial, ?_, fun _ => h1, ?_⟩
  · have := run_enterLoop_outer (P := Tryd.prog) (w := w) fn a.tmps #[p] assign body
    rw [hD] at this
    exact this
  · simp only [resolve, hg]
    simp [go_sem]
  · simp [invoke, go_sem, eg]
  have hrow : ∀ {A : World} {row : Option Nat}, (∀ r, row = some r → V.heap.size ≤ r ∧ ∃ o : Obj, A.heap[r]? = some o ∧ o.isCells = false) → ∀ r, row = some r → w.heap.size ≤ r ∧ ∃ o : Obj, A.heap[r]? = some o ∧ o.isCells = false :=
    fun hr r e => by obtain ⟨hb, ho⟩ := hr r e; exact ⟨by omega, ho⟩
  have hcall := hseq (D + 1) (fun k W => I k W ∧ Books D (rc .ready none) W) (fun k W => ∃ c, Ix c k W ∧ Books D (rc .done (some c)) W) V hbV
    (fun s A B row hs hg' hr => ⟨hI s A B row hs.1 hg' (hrow hr), hs.2.abides hg' fun r e => by have := (hr r e).1; omega⟩)
    (fun s A B row hs hg' hr => by obtain ⟨c, hc, hk⟩ := hs; exact ⟨c, hIx c s A B row hc hg' (hrow hr), hk.abides hg' fun r e => by have := (hr r e).1; omega⟩)
    ?_ ⟨hIV, hB⟩
  · refine hcall.mono ?_
    rintro e W2 ⟨⟨v, rfl⟩, (⟨hi, hk⟩ | ⟨k, hkN, c, hi, hk⟩)⟩
    · exact ⟨none, _, run_endLoop hk.loop (by simp [rc]), hdone D _ (by omega) (hI.putObj _ hi (by omega) hk.loop rfl) ((World.putObj_heap_other (by omega)).trans hk.defs)⟩
    · exact ⟨some c, _, run_endLoop hk.loop (by simp [rc]), hstop D k c _ (by omega) hkN ((hIx c).putObj _ hi (by omega) hk.loop rfl) ((World.putObj_heap_other (by omega)).trans hk.defs)⟩
  · rintro k v W hkN ⟨hi, hk⟩ hphi
    have hy := run_yield (P := Tryd.prog) (args := #[v]) hk.loop rfl
    refine ⟨fn, _, assign, body, hy, roundIn_of_wpIn hfn ?_⟩
    refine hassign _ v W _ ?_
    refine ⟨_, run_beginRound hk.loop rfl, ?_⟩
    have hk2 := hk.put (rec' := { rc .ready none with state := .busy })
    have hput : ∀ (X : World) (o' : Obj), Keeps (fun j => ¬ Rd j) X (X.putObj (D + 1) o') := fun X o' => ⟨by simp, fun j _ hm => World.putObj_heap_other fun e => hm (fun h => by have := hRd _ h; omega)⟩
    refine wpIn_mono (hbody _ k v _ hkN (hI.putObj _ hi (by omega) hk.loop rfl) (hΦ _ _ _ _ _ _ hphi hk.loop rfl)) ?_
    rintro e a3 W3 ⟨hkf, hKK, hp⟩
    have hk3 := hk2.kept (by rw [hD] at hkf; exact hkf)
    have hK3 := fun o' => ((hput _ _).trans hKK).trans (hput W3 o')
    rcases hp with ⟨rfl, hi3⟩ | ⟨rfl, hi3⟩ | ⟨id, rfl, hi3⟩
    · exact ⟨_, _, run_endRound none hk3.loop, hK3 _, .inl ⟨rfl, hI.putObj _ hi3 (by omega) hk3.loop rfl, hk3.put⟩⟩
    · exact ⟨_, _, run_endRound (some .ret) hk3.loop, hK3 _, .inr ⟨rfl, .ret, (hIx _).putObj _ hi3 (by omega) hk3.loop rfl, hk3.put⟩⟩
    · exact ⟨_, _, run_endRound (some (.exit id)) hk3.loop, hK3 _, .inr ⟨rfl, .exit id, (hIx _).putObj _ hi3 (by omega) hk3.loop rfl, hk3.put⟩⟩
end
set_option maxRecDepth 100000 in
set_option maxHeartbeats 2000000 in
theorem chunk1_yieldsR (m gs gn n : Nat) (zs : List Nat) (s : Value) (hL : zs.length = 16 * n) (hn : n ≤ 100000) (w : World) (hgs : rowN w gs = some #[s]) (hgn : rowN w gn = some #[.int .i64 16]) (hB : BytesAt zs s w) :
    YieldsR m 54 #[.pointer (some ⟨gs, 0, none⟩), .pointer (some ⟨gn, 0, none⟩)] n (fun k v V => BytesAt (blkB zs k) v V ∧ (∀ j, InS v j → InS s j)) (fun j => j = gs ∨ j = gn ∨ (0 < zs.length ∧ InS s j)) w := by
  intro l J Jx W hW hJ hJx hY h0
  have HJ := Lib.hid hJ
  have HY := Lib.hid hY
  have HB := Lib.hid (hB.kept hW)
  have HL := Lib.hid hL
  have HI0 := Lib.hid (show ChR n gs gn s zs W J (.int .i64 0) W from ⟨0, by omega, rfl, h0, keptW hW hgs, keptW hW hgn, hB.kept hW, Nat.le_refl _⟩)
  obtain ⟨a, c, rfl, hcL⟩ : ∃ a c, s = .slice a zs.length c ∧ zs.length ≤ c := by obtain ⟨_, a, c, e, h, _⟩ := hB; exact ⟨a, c, e, h⟩
  rw [hL] at hcL
  clear hJ hJx hY h0 hgs hgn hB hW hL
  refine callsIn_of_wp Tryd.func54 rfl trivial ?_ rfl
  simp only [Tryd.ntmps54, List.size_toArray, List.length_cons, List.length_nil, Nat.reduceAdd, Nat.reduceSub, Array.replicate_succ, Array.replicate_zero, List.push_toArray, List.append_toArray, List.nil_append, List.cons_append]
  gi_wp2_with fail
  gi_loopw [4] (fun i wr => ChR n gs gn (.slice a zs.length c) zs W J i wr) (fun i _ => 16 * n - (intOf i).toNat)
  case atStart => exact HI0.out
  case round =>
    obtain ⟨k, hk, rfl, hj, hrs, hrn, hb, hws⟩ := hrel
    have c1 := (rowN_cell hrs).1 0
    have c2 := (rowN_cell hrn).1 0
    have HJK := Lib.hid hj
    have HRS := Lib.hid hrs
    have HRN := Lib.hid hrn
    have HBB := Lib.hid hb
    have HWS := Lib.hid hws
    rw [HL.out] at c1
    by_cases hlt : k < n
    · have h1 : ((16 * k : Nat) : Int) < ((16 * n : Nat) : Int) := by omega
      obtain ⟨b, off, c', e, _, _⟩ := hb.cells (by rw [HL.out]; omega)
      cases e
      have hs1 := fun W => run_slice22_l b off (16 * n) c (16 * k) (by omega) hcL W
      have hs2 := fun W => run_slice22_lhm b off (16 * n) c (16 * k) (16 * k + 16) (by omega) (by omega) W
      rw [show 16 * k + 16 - 16 * k = 16 by omega, show ((16 * k + 16 : Nat) : Int) = ((16 * k : Nat) : Int) + 16 by omega] at hs2
      have h2 : IntKind.i64.wrap (((16 * k : Nat) : Int) + 16) = ((16 * k : Nat) : Int) + 16 := IntWalk.i64_in _ (by omega)
      have h3 : (16 : Int) ≤ ((16 * n - 16 * k : Nat) : Int) := by omega
      have HIN := Lib.hid (show ∀ j, InS (Value.slice (some ⟨b, off + 16 * k, none⟩) 16 16) j → InS (.slice (some ⟨b, off, none⟩) zs.length c) j from fun j h => by
        obtain ⟨o, sp, L', c', e⟩ := h
        cases e
        exact ⟨off, none, _, _, rfl⟩)
      have HBK := Lib.hid (show ∀ q, BytesAt (blkB zs k) (.slice (some ⟨b, off + 16 * k, none⟩) 16 16) (wr.drewN q) from fun q => by
        have h := bytes_cutm hb (16 * k) 16 16 (by rw [HL.out]; omega) (Nat.le_refl _)
        exact h)
      have HLK := Lib.hid (show 16 * (k + 1) = 16 * k + 16 by omega)
      obtain ⟨P, hP⟩ : ∃ q, 16 * k = q := ⟨_, rfl⟩
      obtain ⟨Ln, hLn⟩ : ∃ q, 16 * n = q := ⟨_, rfl⟩
      rw [hP, hLn] at h1 hs1 h3
      rw [hP] at h2 HIN HBK hs2 HLK ⊢
      rw [hLn] at c1 hs2
      have HPE := Lib.hid hP
      have HLN := Lib.hid hLn
      clear hj hrs hrn hb hws hP hLn
      gi_wp2_with fail
      refine quiet_round_lit (by kernel_rfl) (by kernel_rfl) (by kernel_rfl) ?_
      repeat (gi_big_quiet_step (fail))
      refine wpQuietIn_nil ?_
      intro _ hw'
      obtain ⟨nq, rfl⟩ := hw'
      have hbq : Below wr.heap.size wr (wr.drewN nq) := below_drewN (Below.refl _ wr) nq
      obtain ⟨fn, tmps, assign, body, hy, hR⟩ := HY.out k _ (wr.drewN nq) hlt (HJ.out k wr _ none HJK.out (grown_none hbq) (fun r e => by cases e)) ⟨HBK.out nq, HIN.out⟩
      have d1 : (wr.drewN nq).cell? ⟨gs, 0, none⟩ = some (.slice (some ⟨b, off, none⟩) Ln c) := c1
      have HRR := Lib.hid hR
      have HQS := Lib.hid (show rowN (wr.drewN nq) gs = some #[.slice (some ⟨b, off, none⟩) zs.length c] from HRS.out)
      have HQN := Lib.hid (show rowN (wr.drewN nq) gn = some #[.int .i64 16] from HRN.out)
      have HQB := Lib.hid (show BytesAt zs (.slice (some ⟨b, off, none⟩) zs.length c) (wr.drewN nq) from HBB.out)
      have HQW := Lib.hid (show W.heap.size ≤ (wr.drewN nq).heap.size from HWS.out)
      clear hR hbq c1 c2 HRS HRN HBB HWS HBK HIN
      generalize wr.drewN nq = V at *
      gi_wp2_with fail
      refine ⟨(fun h => by cases h), ?_⟩
      refine HRR.out.mono ?_
      rintro e3 W3 ⟨hk3, (⟨rfl, hJ3⟩ | ⟨rfl, hJx3⟩)⟩
      · have HJ3 := Lib.hid hJ3
        have HS3 := Lib.hid (hk3.row HQS.out (fun h => h (.inl rfl)))
        have HN3 := Lib.hid (hk3.row HQN.out (fun h => h (.inr (.inl rfl))))
        have HB3 := Lib.hid (HQB.out.keeps hk3 (fun j h0 hj h => h (.inr (.inr ⟨h0, hj⟩))))
        have HW3 := Lib.hid (Nat.le_trans HQW.out hk3.size)
        have d2 := (rowN_cell HN3.out).1 0
        clear hJ3 hk3 d1
        gi_wp2_with fail
        exact ⟨⟨k + 1, by omega, by rw [HLK.out]; rfl, HJ3.out, HS3.out, HN3.out, HB3.out, HW3.out⟩, by simp [intOf]; have := HPE.out; have := HLN.out; omega⟩
      · have HJX := Lib.hid hJx3
        clear hJx3 hk3
        gi_wp2_with fail
        refine bodyPost_ret (results_none rfl _ _ _) rfl ?_
        exact ⟨⟨_, rfl⟩, .inr ⟨k + 1, by omega, HJX.out⟩⟩
    · obtain rfl : k = n := by omega
      gi_wp2_with fail
      go_end0
      exact ⟨⟨_, rfl⟩, .inl HJK.out⟩
set_option maxRecDepth 100000 in
set_option maxHeartbeats 2000000 in
theorem lblocks1_yieldsR (m gb n : Nat) (vs : Nat → Value) (p : Nat → List Nat) (s : Value) (hn : n ≤ 100000) (w : World) (hgb : rowN w gb = some #[s]) (hL : LsAt n vs s w) (hB : ∀ k, k < n → BytesAt (p k) (vs k) w) :
    YieldsR m 23 #[.pointer (some ⟨gb, 0, none⟩)] n (fun k v V => BytesAt (p k) v V ∧ v = vs k) (fun j => j = gb ∨ (0 < n ∧ InS s j) ∨ ∃ k, k < n ∧ 0 < (p k).length ∧ InS (vs k) j) w := by
  intro l J Jx W hW hJ hJx hY h0
  have HJ := Lib.hid hJ
  have HY := Lib.hid hY
  have HI0 := Lib.hid (show LbR n gb vs p s W J (.int .i64 0) W from ⟨0, by omega, rfl, h0, keptW hW hgb, hL.same hW.size (fun j _ hj => hW.block j hj), fun k hk => (hB k hk).kept hW, Nat.le_refl _⟩)
  obtain ⟨a, c, rfl, hcL⟩ : ∃ a c, s = .slice a n c ∧ n ≤ c := by obtain ⟨a, c, e, h, _⟩ := hL; exact ⟨a, c, e, h⟩
  clear hJ hJx hY h0 hgb hB hW hL
  refine callsIn_of_wp Tryd.func23 rfl trivial ?_ rfl
  simp only [Tryd.ntmps23, List.size_toArray, List.length_cons, List.length_nil, Nat.reduceAdd, Nat.reduceSub, Array.replicate_succ, Array.replicate_zero, List.push_toArray, List.append_toArray, List.nil_append, List.cons_append]
  gi_wp2_with fail
  gi_loopw [3] (fun i wr => LbR n gb vs p (.slice a n c) W J i wr) (fun i _ => n - (intOf i).toNat)
  case atStart => exact HI0.out
  case round =>
    obtain ⟨k, hk, rfl, hj, hrb, hls, hbs, hws⟩ := hrel
    have c1 := (rowN_cell hrb).1 0
    have HJK := Lib.hid hj
    have HRB := Lib.hid hrb
    have HLS := Lib.hid hls
    have HBS := Lib.hid hbs
    have HWS := Lib.hid hws
    by_cases hlt : k < n
    · have h1 : ((k : Nat) : Int) < ((n : Nat) : Int) := by omega
      obtain ⟨a', c', e, _, hh⟩ := hls
      cases e
      rcases hh with hh | ⟨b, off, rfl, hbl, hcell⟩
      · omega
      have hc2 := hcell k hlt
      have h2 : IntKind.i64.wrap (((k : Nat) : Int) + 1) = ((k : Nat) : Int) + 1 := IntWalk.i64_in _ (by omega)
      obtain ⟨fn, tmps, assign, body, hy, hR⟩ := HY.out k (vs k) wr hlt hj ⟨hbs k hlt, rfl⟩
      have HRR := Lib.hid hR
      clear hR hj hrb hbs hws hcell
      gi_wp2_with fail
      refine ⟨(fun h => by cases h), ?_⟩
      refine HRR.out.mono ?_
      rintro e3 W3 ⟨hk3, (⟨rfl, hJ3⟩ | ⟨rfl, hJx3⟩)⟩
      · have HJ3 := Lib.hid hJ3
        have HS3 := Lib.hid (hk3.row HRB.out (fun h => h (.inl rfl)))
        have HL3 := Lib.hid (HLS.out.same hk3.size (fun j hj hjl => hk3.same j hjl (fun h => h (.inr (.inl ⟨by omega, hj⟩)))))
        have HB3 := Lib.hid (show ∀ k, k < n → BytesAt (p k) (vs k) W3 from fun q hq => (HBS.out q hq).keeps hk3 (fun j h0 hj h => h (.inr (.inr ⟨q, hq, h0, hj⟩))))
        have HW3 := Lib.hid (Nat.le_trans HWS.out hk3.size)
        clear hJ3 hk3 c1 hc2
        gi_wp2_with fail
        exact ⟨⟨k + 1, by omega, rfl, HJ3.out, HS3.out, HL3.out, HB3.out, HW3.out⟩, by simp [intOf]; omega⟩
      · have HJX := Lib.hid hJx3
        clear hJx3 hk3
        gi_wp2_with fail
        refine bodyPost_ret (results_none rfl _ _ _) rfl ?_
        exact ⟨⟨_, rfl⟩, .inr ⟨k + 1, by omega, HJX.out⟩⟩
    · obtain rfl : k = n := by omega
      gi_wp2_with fail
      go_end0
      exact ⟨⟨_, rfl⟩, .inl HJK.out⟩
end Go.Proofs.YtjcdbjapadgdfaaDoor
