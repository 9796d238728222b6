/- AES: AesKeys walked. -/
import Derived.Sort.QuietIn
import Derived.Sort.QuietTacIn
import Derived.Test.YtfmmokcniechcaaDoorBK
namespace Go.Proofs.YtfmmokcniechcaaDoor
open Go.RowKit Go.Shelf

attribute [local go_sem] Oper.semAt_some
section
variable {F : Fence} {n : Nat} {P : Program} {ops : Array Oper} {C : World → Prop} {md : Region.Mode}
theorem quiet_op {o : Oper} {a : Act} {K : Act → Prop} {K' : Act → World → Prop} {Q : Exit → Act → World → Prop} {w : World} (hnd : ∀ c : Call, o.op ≠ Op.defer c) (hw : C w) (h : ∀ a w', C w' → K a → K' a w')
    (ha : o.askedIn F P a C) (hh : o.quietIn F n P a C K) : o.wpIn F n P a w K' Q := by
  obtain ⟨v, hv, hK⟩ := hh
  have hq := hv w hw
  unfold Oper.wpIn
  rw [Oper.semAt_eq _ _ _ hnd]
  refine ⟨ha w hw, ?_⟩
  unfold Oper.quietAtIn at hq
  revert hq
  generalize (execOp a.eval o).run P w = r
  intro hq
  match r, hq with
  | .ok (.value u) w', hq =>
    obtain ⟨rfl, rfl⟩ : w' = w ∧ u = v := hq
    simp only [Oper.uponIn]
    exact h _ _ hw hK
  | .ok .skip w', hq =>
    obtain ⟨rfl, rfl⟩ : w' = w ∧ v = undef := hq
    simp only [Oper.uponIn]
    exact h _ _ hw hK
  | .ok (.enter f args) w', hq =>
    obtain ⟨rfl, hd, hc⟩ := hq
    simp only [Oper.uponIn]
    exact ⟨hd, hc.mono fun e w'' ⟨he, hw''⟩ => by subst he; exact h _ _ hw'' hK⟩
theorem quiet_any {Q : Act → Prop} {Q' : Exit → Act → World → Prop} (hnd : ∀ (i : Nat) (o : Oper), ops[i]? = some o → ∀ c : Call, o.op ≠ Op.defer c) (hQ : ∀ a w, C w → Q a → Q' .normal a w) : ∀ (fuel : Nat) (listed : Array Bool) (a : Act) (w : World), C w →
    wpAnyQIn F n P md ops C Q fuel listed a → wpAnyIn F n P md ops Q' fuel listed a w := by
  intro fuel
  induction fuel with
  | zero => intro listed a w hw h; exact ⟨h.1, hQ _ _ hw h.2⟩
  | succ fuel ih =>
    intro listed a w hw h
    refine ⟨fun h0 => hQ _ _ hw (h.1 h0), fun i hi => ?_⟩
    have hi2 := h.2 i hi
    unfold qOpIn at hi2
    unfold wpOpIn
    cases ho : ops[i]? with
    | none => simp only [ho] at hi2; exact ih _ _ _ hw hi2
    | some o =>
      simp only [ho] at hi2 ⊢
      obtain ⟨ha, hh⟩ := hi2
      by_cases hwt : Region.wanted o (yielded ops a.tmps) = true
      · rw [if_pos hwt] at hh ⊢
        exact quiet_op (hnd i o ho) hw (fun a' w' hw' h' => ih _ _ _ hw' h') ha hh
      · rw [if_neg hwt] at hh ⊢
        exact ⟨ha w hw, ih _ _ _ hw hh⟩
theorem quiet_round_lit {id : Nat} {Q : Exit → Act → World → Prop} {a : Act} {w : World} {l : List Oper} (hnd : (l.all fun o => match o.op with | .defer _ => false | _ => true) = true) (hm : P.follows .mixedOrders = true) (hB : Region.lexB .any l.toArray = true)
    (h : wpQuietIn F n P l.toArray (fun w' => ∃ n, w' = w.drewN n) (fun a' => ∀ w', (∃ n, w' = w.drewN n) → Q .normal a' w') l a) : (Code.region id l.toArray true).wpIn F n P Q a w := by
  simp only [Region.lexB, Bool.and_eq_true] at hB
  refine wpIn_region_any hm (quiet_any (C := fun w' => ∃ n, w' = w.drewN n) (Q := fun a' => ∀ w', (∃ n, w' = w.drewN n) → Q .normal a' w') (fun i o ho c e => ?_) (fun _ w' hw' h => h w' hw') _ _ _ _ ⟨1, rfl⟩ ?_)
  · have hmem : o ∈ l := List.mem_of_getElem? (by simpa using ho)
    have := List.all_eq_true.1 hnd o hmem
    rw [e] at this
    cases this
  · have := wpAnyQIn_lex (F := F) (n := n) (P := P) (C := fun w' => ∃ n, w' = w.drewN n) (md := .any) hB.1 l 0 (Array.replicate l.toArray.size false) a (by simp) (by simpa using hB.2) h
    simpa using this
end
def IncRel (B L : Nat) (v : Value) (w : World) (i : Value) (wr : World) : Prop :=
  ∃ (k : Nat) (ys : List Nat), k ≤ L ∧ i = .int .i64 (k : Nat) ∧ ys.length = L ∧ (∀ x ∈ ys, x < 256) ∧ wr.ownsRow B 5 1 v L (cl ys) ∧ w.grownBy wr v.ownBlock
theorem inc_cell {B L k : Nat} {a : Option Addr} {c : Nat} {wr : World} {ys : List Nat} (hys : ys.length = L) (h : wr.ownsRow B 5 1 (.slice a L c) L (cl ys)) (hk : k < L) :
    ∃ g, a = some ⟨g, 0, none⟩ ∧ L ≤ c ∧ wr.cell? ⟨g, k, none⟩ = some (.int .u8 (ys.getD k 0 : Nat)) ∧ wr.frozen? ⟨g, k, none⟩ = false := by
  rcases h.2 with ⟨e, h0⟩ | ⟨g, cap, cur, e, hb, hg, hn, hc, hs, ht⟩
  · omega
  · injection e with e1 e2 e3
    subst e1
    subst e3
    exact ⟨g, rfl, hn, by rw [h.cellAt k (by omega)]; exact cl_get ys k (by omega), h.frozenAt k⟩
theorem IncRel.step {B L k : Nat} {g c : Nat} {w wr : World} {ys : List Nat} (hk : k < L) (hys : ys.length = L) (h256 : ∀ x ∈ ys, x < 256) (ho : wr.ownsRow B 5 1 (.slice (some ⟨g, 0, none⟩) L c) L (cl ys)) (hg : w.grownBy wr (some g)) (x : Nat) (hx : x < 256) :
    IncRel B L (.slice (some ⟨g, 0, none⟩) L c) w (.int .i64 ((k + 1 : Nat) : Int)) (wr.setCell ⟨g, k, none⟩ (.int .u8 (x : Nat))) := by
  have h := ho.stored k (.int .u8 (x : Nat))
  rw [cl_set] at h
  refine ⟨k + 1, ys.set k x, hk, rfl, by rw [List.length_set, hys], fun y hy => ?_, h.1, grownBy_trans hg h.2⟩
  rcases List.mem_or_eq_of_mem_set hy with hy | rfl
  · exact h256 y hy
  · exact hx
theorem BytesAt.grownNC {zs : List Nat} {s : Value} {X Y : World} {row : Option Nat} (h : BytesAt zs s X) (hg : X.grownBy Y row) (hr : ∀ r, row = some r → ∃ o : Obj, X.heap[r]? = some o ∧ o.isCells = false) : BytesAt zs s Y := by
  obtain ⟨h1, a, c, rfl, hc, h⟩ := h
  refine ⟨h1, a, c, rfl, hc, ?_⟩
  rcases h with h | ⟨b, off, rfl, hlt, hj⟩
  · exact .inl h
  · refine .inr ⟨b, off, rfl, Nat.lt_of_lt_of_le hlt hg.size, fun j hjl => ?_⟩
    have hj0 := hj j hjl
    refine (World.cell?_of_block (w := X) (a := ⟨b, off + j, none⟩) (hg.block b hlt (fun e => ?_))).trans hj0
    obtain ⟨o, ho, hnc⟩ := hr b e.symm
    unfold World.cell? at hj0
    simp only [ho] at hj0
    cases o <;> simp_all [Obj.isCells]
theorem run_load4 {W : World} {g : Nat} {b : Bool} (h : rowN W g = some #[.bool b]) : (loadVar 4 ⟨g, 0, none⟩).run Tryd.prog W = .ok (.bool b) W := by
  have hc := (rowN_cell h).1 0
  go_simp
theorem ret_bool {fn : Func} {p : Tmp} {R : Ending → World → Prop} {a : Act} {w : World} (g : Nat) (b : Bool) (h : fn.results = #[.cell p 4])
    (hp : a.tmps.getD p undef = .pointer (some ⟨g, 0, none⟩)) (hd : a.defers = []) (hr : rowN w g = some #[.bool b]) (hR : R (.returned (.bool b)) w) : bodyPost Tryd.prog fn R .ret a w := by
  refine bodyPost_ret (v := .bool b) ?_ hd hR
  have hp' : a.tmps[p]?.getD undef = .pointer (some ⟨g, 0, none⟩) := by simpa using hp
  simp [results, h, hp', asAddr, run_load4 hr]
theorem results_bool {fn : Func} {p : Tmp} {tmps : Array Value} {w : World} (g : Nat) (b : Bool) (h : fn.results = #[.cell p 4])
    (hp : tmps.getD p undef = .pointer (some ⟨g, 0, none⟩)) (hr : rowN w g = some #[.bool b]) : (results fn tmps).run Tryd.prog w = .ok (.bool b) w := by
  have hp' : tmps[p]?.getD undef = .pointer (some ⟨g, 0, none⟩) := by simpa using hp
  simp [results, h, hp', asAddr, run_load4 hr]
theorem keepsFrom_cells {n : Nat} {V V' : World} {M : Nat → Prop} (hk : Keeps M V V') (hM : ∀ j o, V.heap[j]? = some o → o.isCells = false → ¬ M j) : KeepsFrom n V V' :=
  ⟨hk.size, fun j o _ ho hc => (hk.same j (Array.getElem?_eq_some_iff.1 ho).1 (hM j o ho hc)).trans ho⟩
theorem row_cells {V : World} {g : Nat} {cs : Array Value} (h : rowN V g = some cs) {o : Obj} (ho : V.heap[g]? = some o) : o.isCells = true := by
  obtain ⟨t, hg⟩ := rowN_some h
  rw [hg] at ho; cases ho; rfl
theorem cell_cells {V : World} {g off : Nat} {v : Value} (h : V.cell? ⟨g, off, none⟩ = some v) {o : Obj} (ho : V.heap[g]? = some o) : o.isCells = true := by
  unfold World.cell? at h
  simp only [ho] at h
  cases o <;> simp_all [Obj.isCells]
theorem setCell_grown (W : World) (p : Addr) (v : Value) : W.grownBy (W.setCell p v) (some p.block) :=
  ⟨rfl, rfl, rfl, by simp, fun i _ hi => Below.heap_setCell _ _ _ i (fun e => hi (by rw [e]))⟩
theorem run_eqnil31 (W : World) (gb : Nat) : (binOp .eql 31 (.func (.func 22) #[] #[.pointer (some ⟨gb, 0, none⟩)]) Value.nilFunc).run Tryd.prog W = .ok (.bool false) W := by kernel_rfl
def KBk (w : World) (g8 g9 gb g : Nat) (many turn : Int) (s2 : Value) (F K : List Nat) (B : Nat) (Ds : List Nat) (V : World) : Prop :=
  (rowN V g9 = some #[.int .i64 turn] ∧ rowN V g8 = some #[s2] ∧ rowN V w.heap.size = some #[.int .i64 many] ∧ rowN V (w.heap.size + 1) = some #[.bool false] ∧ rowN V gb = some #[.pointer (some ⟨g, 0, none⟩)]) ∧ (BytesAt F s2 V ∧ rowN V g = some (cphA TB K)) ∧
    (∀ D ∈ Ds, D < B ∧ V.heap[D]? = some (.deferred (some []))) ∧ Below w.heap.size w V
structure KBL (w : World) (g8 g9 gb g : Nat) (s2 : Value) (B : Nat) : Prop where
  l9 : g9 < B
  l8 : g8 < B
  lw : w.heap.size + 1 < B
  lb : gb < B
  lg : g < B
  l2 : ∀ j, InS s2 j → j < B
theorem KBk.keeps {w : World} {g8 g9 gb g : Nat} {many turn : Int} {s2 : Value} {F K : List Nat} {B : Nat} {Ds : List Nat} {V V' : World} (h : KBk w g8 g9 gb g many turn s2 F K B Ds V) (hl : KBL w g8 g9 gb g s2 B) {M : Nat → Prop} (hk : Keeps M V V') (hM : ∀ j, j < B → ¬ M j) (hb : Below w.heap.size w V') : KBk w g8 g9 gb g many turn s2 F K B Ds V' := by
  obtain ⟨⟨h1, h2, h3, h4, h5⟩, ⟨h6, h7⟩, h8, h9⟩ := h
  have hlw := hl.lw
  exact ⟨⟨hk.row h1 (hM _ hl.l9), hk.row h2 (hM _ hl.l8), hk.row h3 (hM _ (by omega)), hk.row h4 (hM _ hlw), hk.row h5 (hM _ hl.lb)⟩, ⟨h6.keeps hk (fun j _ hj => hM j (hl.l2 j hj)), hk.row h7 (hM _ hl.lg)⟩,
    (fun D hD => ⟨(h8 D hD).1, (hk.same D (Array.getElem?_eq_some_iff.1 (h8 D hD).2).1 (hM D (h8 D hD).1)).trans (h8 D hD).2⟩), hb⟩
def KIk (w : World) (g8 g9 gb g g10 : Nat) (many turn : Int) (s2 : Value) (F K : List Nat) (Ds : List Nat) (k : Nat) (V : World) : Prop :=
  rowN V g10 = some #[.int .i64 ((k : Nat) : Int)] ∧ KBk w g8 g9 gb g many turn s2 F K g10 Ds V
theorem kI_own (w : World) (g8 g9 gb g g10 : Nat) (many turn : Int) (s2 : Value) (F K : List Nat) (Ds : List Nat) {B : Nat} (hB : g10 < B) (hw : w.heap.size ≤ g10) : OwnFrom B (KIk w g8 g9 gb g g10 many turn s2 F K Ds) := by
  rintro k X Y row ⟨h0, ⟨h1, h2, h3, h4, h5⟩, ⟨h6, h7⟩, h8, h9⟩ hg hr
  have hr' := fun r e => (hr r e).2
  exact ⟨row_grown hg hr' h0, ⟨row_grown hg hr' h1, row_grown hg hr' h2, row_grown hg hr' h3, row_grown hg hr' h4, row_grown hg hr' h5⟩, ⟨h6.grownNC hg hr', row_grown hg hr' h7⟩,
    (fun D hD => ⟨(h8 D hD).1, (hg.block D (Array.getElem?_eq_some_iff.1 (h8 D hD).2).1 (fun e => by have := (hr D e.symm).1; have := (h8 D hD).1; omega)).trans (h8 D hD).2⟩), h9.grown hg h9.size (fun r e => by have := (hr r e).1; omega)⟩

set_option maxRecDepth 100000 in
set_option maxHeartbeats 8000000 in
theorem keys_walk (zs : List Nat) (s : Value) (many : Int) (w : World) (hB : BytesAt zs s w) (hnil : Nil0 s) (hG : SG w) :
    Calls Tryd.prog 4 #[s, .int .i64 many] w fun e w' => e = .returned (.bool true) ∧ Below w.heap.size w w' := by
  have HB := Lib.hid hB
  have HN := Lib.hid hnil
  have HG := Lib.hid hG
  have HKA := Lib.hid (fun W => known_any W)
  obtain ⟨a, c, rfl⟩ : ∃ a c, s = .slice a zs.length c := by obtain ⟨_, a, c, e, _⟩ := hB; exact ⟨a, c, e⟩
  obtain ⟨L, hl⟩ : ∃ L, zs.length = L := ⟨_, rfl⟩
  have HL := Lib.hid hl
  rw [hl] at HB HN ⊢
  clear hB hnil hG hl
  obtain ⟨W0, hW0⟩ : ∃ W, (w.alloc (.cells #[.int .i64 many] 3)).alloc (.cells #[.bool false] 4) = W := ⟨_, rfl⟩
  have hbA : Below w.heap.size w W0 := by rw [← hW0]; exact ((Below.refl _ w).alloc (Nat.le_refl _) _).alloc (by simp) _
  have hr3 : rowN W0 w.heap.size = some #[.int .i64 many] := by rw [← hW0, rowN_alloc, if_neg (by simp), rowN_alloc, if_pos rfl]
  have hr4 : rowN W0 (w.heap.size + 1) = some #[.bool false] := by rw [← hW0, rowN_alloc, if_pos (by simp)]
  have HBA := Lib.hid hbA
  have HR3 := Lib.hid hr3
  have HR4 := Lib.hid hr4
  have hs4 : w.heap.size + 1 < W0.heap.size := rowN_lt hr4
  by_cases hbig : 40 < L
  · have hb : (40 : Int) < ((L : Nat) : Int) := by omega
    clear hbA hr3 hr4
    go_enter Tryd.func4, Tryd.ntmps4
    go_upto_region 1 with fail
    try rw [hW0]
    clear hW0
    go_wp2_with fail
    refine (HKA.out _).mono ?_
    rintro e w1 ⟨rfl, hb1⟩
    have HB1 := Lib.hid (HBA.out.trans (hb1.mono HBA.out.size))
    have hr1 := keptW hb1 HR4.out
    have hc4 := (rowN_cell hr1).1 0
    have hf4 := (rowN_cell hr1).2 0
    have HR := Lib.hid hr1
    clear hb1 hr1
    go_wp2_with fail
    exact ret_bool _ _ rfl rfl rfl (row_set0 HR.out) ⟨rfl, HB1.out.setCell (p := ⟨w.heap.size + 1, 0, none⟩) (by show w.heap.size ≤ w.heap.size + 1; omega) _⟩
  have hb : ¬ (40 : Int) < ((L : Nat) : Int) := by omega
  have hown0 : (W0.alloc (.cells #[] 5)).ownsRow W0.heap.size 5 1 (.slice (some ⟨W0.heap.size, 0, none⟩) 0 0) ([] : List Nat).length (cl []) := World.ownsRow_lit W0 #[] 0 (Nat.le_refl _) (by unfold maxLen; omega) rfl
  have hbel0 : Below W0.heap.size W0 (W0.alloc (.cells #[] 5)) := (Below.refl _ W0).alloc (Nat.le_refl _) _
  have hwX := hbA.size
  by_cases h16 : L = 16
  case neg =>
    have hi : ¬ ((L : Nat) : Int) = 16 := by omega
    clear hbA hr3 hr4
    go_enter Tryd.func4, Tryd.ntmps4
    go_upto_region 1 with fail
    try rw [hW0]
    clear hW0
    go_wp2_with (at_builtin; refine wpList_app rfl _ _ rfl W0.heap.size rfl rfl hown0 (HB.out.kept (HBA.out.trans (hbel0.mono hwX))) HN.out (by rw [HL.out]; simp; omega) hbel0.size ?_; intro v3 w3 hown3 hgrow3)
    have hb3 := below_owned hbel0 hown0 hgrow3 hbel0.size
    rw [List.nil_append] at hown3
    have hz3 := owns_both HB.out.1 hown3
    have HB3 := Lib.hid (HBA.out.trans (hb3.mono HBA.out.size))
    have HR4a := Lib.hid (keptW hb3 HR4.out)
    have HNW := Lib.hid (new_len zs v3 (by rw [HL.out]; exact h16) w3 hz3.1)
    clear hown0 hbel0 hown3 hgrow3 hb3 hz3 HR3 HR4 HBA
    refine HNW.out.mono ?_
    rintro e w4 ⟨rfl, hb4⟩
    have HB4 := Lib.hid (HB3.out.trans (hb4.mono HB3.out.size))
    have HR4b := Lib.hid (keptW hb4 HR4a.out)
    clear hb4 HNW HB3 HR4a
    go_wp2_with fail
    refine (HKA.out _).mono ?_
    rintro e w1 ⟨rfl, hb1⟩
    have HB1 := Lib.hid (HB4.out.trans (hb1.mono HB4.out.size))
    have hr1 := keptW hb1 HR4b.out
    have hc4 := (rowN_cell hr1).1 0
    have hf4 := (rowN_cell hr1).2 0
    have HR := Lib.hid hr1
    clear hb1 hr1
    go_wp2_with fail
    exact ret_bool _ _ rfl rfl rfl (row_set0 HR.out) ⟨rfl, HB1.out.setCell (p := ⟨w.heap.size + 1, 0, none⟩) (by show w.heap.size ≤ w.heap.size + 1; omega) _⟩
  subst h16
  have hnf := run_eqnil31
  have hp24 := run_eqp24
  have HKW := Lib.hid (wordsL_w32 HB.out.1)
  have HKL := Lib.hid (wordsL_len zs)
  clear hbA hr3 hr4
  refine (callsIn_wide (n := 6)).1 ?_
  refine callsIn_of_wp_marks Tryd.func4 rfl trivial ?_ rfl
  simp only [Tryd.ntmps4, List.size_toArray, List.length_cons, List.length_nil, Nat.reduceAdd, Nat.reduceSub, Array.replicate_succ, Array.replicate_zero, List.push_toArray, List.append_toArray, List.nil_append, List.cons_append]
  refine wpIn_wide.2 ?_
  go_upto_region 1 with fail
  try rw [hW0]
  clear hW0
  go_wp2_with (at_builtin; refine wpList_app rfl _ _ rfl W0.heap.size rfl rfl hown0 (HB.out.kept (HBA.out.trans (hbel0.mono hwX))) HN.out (by rw [HL.out]; simp) hbel0.size ?_; intro v3 w3 hown3 hgrow3)
  have hb3 := below_owned hbel0 hown0 hgrow3 hbel0.size
  rw [List.nil_append] at hown3
  have hz3 := owns_both HB.out.1 hown3
  have hlt3 := hown3.lt
  obtain ⟨a3, c3, rfl⟩ : ∃ a c, v3 = .slice a 16 c := by obtain ⟨_, a, c, e, _⟩ := hz3.1; exact ⟨a, c, by rw [e, HL.out]⟩
  have HB3 := Lib.hid (HBA.out.trans (hb3.mono HBA.out.size))
  have HR3a := Lib.hid (keptW hb3 HR3.out)
  have HR4a := Lib.hid (keptW hb3 HR4.out)
  have HOWN := Lib.hid (show w3.ownsRow W0.heap.size 5 1 (.slice a3 16 c3) 16 (cl zs) by rw [HL.out] at hown3; exact hown3)
  have HLT3 := Lib.hid (show ∀ k, (Value.slice a3 16 c3).ownBlock = some k → W0.heap.size ≤ k ∧ k < w3.heap.size from hlt3)
  have HNW := Lib.hid (new_any zs (.slice a3 16 c3) HL.out w3 hz3.1)
  have hw03 := hb3.size
  clear hown0 hbel0 hown3 hgrow3 hb3 hz3 hlt3 HR3 HR4 HBA
  refine HNW.out.mono ?_
  rintro e w4 ⟨g, rfl, hgw, hC4, hbB⟩
  have HB4 := Lib.hid (HB3.out.trans (hbB.mono HB3.out.size))
  have HR3b := Lib.hid (keptW hbB HR3a.out)
  have HR4b := Lib.hid (keptW hbB HR4a.out)
  have HOWN4 := Lib.hid (HOWN.out.kept (grown_none hbB) (by rcases h : (Value.slice a3 16 c3).ownBlock with _ | _; exact .inl rfl; exact .inr (fun e => by cases e)))
  have HC4 := Lib.hid (show rowN w4 g = some (cphA TB (KS (wordsL zs) 11)) from hC4)
  have hw34 := hbB.size
  have hp := hp24 g
  clear HNW HB3 HR3a HR4a HOWN hC4 hbB hp24
  go_wp2_with fail
  go_loopw [8] (fun i wq => IncRel W0.heap.size 16 (.slice a3 16 c3) w4 i wq) (fun i _ => 16 - (intOf i).toNat)
  case atStart => exact ⟨0, zs, by omega, rfl, HL.out, HB.out.1, HOWN4.out, grownBy_refl _ _⟩
  case round => as_aux_lemma =>
    obtain ⟨wq, rfl⟩ : ∃ W, W = wr := ⟨_, rfl⟩
    obtain ⟨m, ys, hm, rfl, hys, hy256, hyo, hyg⟩ := hrel
    by_cases hlt2 : m < 16
    · obtain ⟨g3, rfl, hLc, hcm, hfm⟩ := inc_cell hys hyo hlt2
      have hy := byte_lt hy256 m
      have HST := Lib.hid (fun x hx => IncRel.step hlt2 hys hy256 hyo hyg x hx)
      obtain ⟨y, hyy⟩ : ∃ y, ys.getD m 0 = y := ⟨_, rfl⟩
      rw [hyy] at hcm hy
      have hm1 : ((m : Nat) : Int) < 16 := by omega
      have ey : IntKind.u8.wrap (((y : Nat) : Int) + 1) = (((y + 1) % 256 : Nat) : Int) := by rw [IntKind.wrap_u8]; omega
      have HST2 := Lib.hid (HST.out ((y + 1) % 256) (Nat.mod_lt _ (by omega)))
      clear hyy hys hy256 hyo hyg HST
      go_wp2_with fail
      exact ⟨HST2.out, by simp [intOf]; omega⟩
    · obtain rfl : m = 16 := by omega
      have HNE := Lib.hid (show ∀ x, (Value.slice a3 16 c3).ownBlock = some x → W0.heap.size ≤ x ∧ x < w3.heap.size from HLT3.out)
      have hkq : Keeps (fun j => (Value.slice a3 16 c3).ownBlock = some j) w4 wq := Keeps.of_grownBy hyg (fun r e => e)
      have hB5 := HB4.out.grown hyg HB4.out.size (fun r e => by have := HNE.out r e; omega)
      have HB5 := Lib.hid hB5
      have HR3c := Lib.hid (hkq.row HR3b.out (fun e => by have := HNE.out _ e; omega))
      have HR4c := Lib.hid (hkq.row HR4b.out (fun e => by have := HNE.out _ e; omega))
      have HCc := Lib.hid (hkq.row HC4.out (fun e => by have := HNE.out _ e; omega))
      have HKY := Lib.hid (keys_any (some ⟨g, 0, none⟩) wq)
      clear hys hy256 hyo hyg HOWN4 hkq hB5 HR3b HR4b HC4 HNE HB4
      go_wp2_with fail
      refine HKY.out.mono ?_
      rintro e wk ⟨rfl, hwk⟩
      have hbK : Below wq.heap.size wq wk := by rw [hwk]; exact (Below.refl _ _).alloc (Nat.le_refl _) _
      have HRB := Lib.hid (show rowN wk wq.heap.size = some #[.pointer (some ⟨g, 0, none⟩)] by rw [hwk, rowN_alloc, if_pos rfl])
      obtain ⟨gb, hgb⟩ : ∃ x, wq.heap.size = x := ⟨_, rfl⟩
      have HBk := Lib.hid (HB5.out.trans (hbK.mono HB5.out.size))
      have HR3k := Lib.hid (keptW hbK HR3c.out)
      have HR4k := Lib.hid (keptW hbK HR4c.out)
      have HCk := Lib.hid (keptW hbK HCc.out)
      rw [hgb] at HRB ⊢
      have hnfb := fun W => hnf W gb
      have HPD := Lib.hid (rwords_any zs (.slice a 16 c) HL.out wk (HG.out.kept HBk.out) (HB.out.kept HBk.out) HN.out)
      clear hwk hbK hgb HKY HB5 HR3c HR4c HCc hnf
      go_wp2_with fail
      refine HPD.out.mono ?_
      rintro e w6 ⟨s2, rfl, hb2, _, _, hbP⟩
      have HB6 := Lib.hid (HBk.out.trans (hbP.mono HBk.out.size))
      have HR3d := Lib.hid (keptW hbP HR3k.out)
      have HR4d := Lib.hid (keptW hbP HR4k.out)
      have HRBd := Lib.hid (keptW hbP HRB.out)
      have HCd := Lib.hid (keptW hbP HCk.out)
      have HFL := Lib.hid (FL_len HKL.out)
      have HRK := Lib.hid (fun r (hr : r < 11) => rkB_FL HKL.out hr)
      have HRL := Lib.hid (fun r => bytesL_16 (rk_len HKL.out r))
      have HR2 := Lib.hid (fun r => bytesL_256 (rk_w32 HKW.out r))
      obtain ⟨F, hF⟩ : ∃ q, FL (wordsL zs) = q := ⟨_, rfl⟩
      obtain ⟨kw, hkw⟩ : ∃ q, wordsL zs = q := ⟨_, rfl⟩
      rw [hF] at HFL HRK hb2
      rw [hkw] at HCd HRK HRL HR2 HKW HKL
      obtain ⟨b2, of2, c2, rfl, hPc⟩ : ∃ b off c, s2 = .slice (some ⟨b, off, none⟩) 176 c ∧ 176 ≤ c := by
        obtain ⟨_, a, c, e, hc, h2⟩ := hb2
        rw [HFL.out] at e hc h2
        rcases h2 with h2 | ⟨b, off, rfl, _⟩
        · omega
        · exact ⟨b, off, c, e, hc⟩
      have HB2 := Lib.hid hb2
      clear hb2 hbP hF hkw HBk HR3k HR4k HCk HRB HPD
      go_wp2_with fail
      refine wp_loop_rounds 3 ?_
      rw [rounds_succ]
      go_wp2_with fail
      obtain ⟨g8, hg8⟩ : ∃ g, w6.heap.size = g := ⟨_, rfl⟩
      obtain ⟨U, hU⟩ : ∃ U, ((w6.alloc (.cells #[(.slice (some ⟨b2, of2, none⟩) 176 c2)] 25)).alloc (.cells #[.int .i64 0] 3)).alloc (.cells #[.int .i64 0] 3) = U := ⟨_, rfl⟩
      have hbU : Below w6.heap.size w6 U := by rw [← hU]; exact (((Below.refl _ _).alloc (Nat.le_refl _) _).alloc (by simp) _).alloc (by simp <;> omega) _
      have hq8 : rowN U w6.heap.size = some #[(.slice (some ⟨b2, of2, none⟩) 176 c2)] := by rw [← hU]; simp only [rowN_alloc, World.size_alloc, if_true]; (repeat rw [if_neg (by omega)])
      have hq9 : rowN U (w6.heap.size + 1) = some #[.int .i64 0] := by rw [← hU]; simp only [rowN_alloc, World.size_alloc, if_true]; (repeat rw [if_neg (by omega)])
      have hq10 : rowN U (w6.heap.size + 1 + 1) = some #[.int .i64 0] := by rw [← hU]; simp only [rowN_alloc, World.size_alloc, if_true]
      rw [hU]
      have hlw := rowN_lt HR4d.out
      have hlb := rowN_lt HRBd.out
      have hlg := rowN_lt HCd.out
      have HTL_0 := Lib.hid (show KBL w w6.heap.size (w6.heap.size + 1) gb g (.slice (some ⟨b2, of2, none⟩) 176 c2) (w6.heap.size + 1 + 1) from
        ⟨by omega, by omega, by omega, by omega, by omega, fun j hj => by have := HB2.out.lt (by rw [HFL.out]; omega) hj; omega⟩)
      have HT_0 := Lib.hid (show KIk w w6.heap.size (w6.heap.size + 1) gb g (w6.heap.size + 1 + 1) many 0 (.slice (some ⟨b2, of2, none⟩) 176 c2) F (KS kw 11) [] 0 U from
        ⟨hq10, ⟨hq9, hq8, keptW hbU HR3d.out, keptW hbU HR4d.out, keptW hbU HRBd.out⟩, ⟨HB2.out.kept hbU, keptW hbU HCd.out⟩, (fun D h => by cases h), HB6.out.trans (hbU.mono HB6.out.size)⟩)
      obtain ⟨g9, hg9⟩ : ∃ g, w6.heap.size + 1 = g := ⟨_, rfl⟩
      obtain ⟨g10, hg10⟩ : ∃ g, w6.heap.size + 1 + 1 = g := ⟨_, rfl⟩
      rw [hg10, hg9, hg8] at HTL_0 HT_0
      rw [hg10, hg9, hg8]
      clear hU hbU hq8 hq9 hq10 hlw hlb hlg hg9 hg10 hg8 HB6 HR3d HR4d HRBd HB2 HCd
      have hg10U_0 : g10 < U.heap.size := rowN_lt HT_0.out.1
      have HYL_0 := Lib.hid (keys1_yields (6 - 1) gb g kw HKL.out HKW.out U HT_0.out.2.1.2.2.2.2 HT_0.out.2.2.1.2)
      refine (wpIn_wide (n := 6)).1 ?_
      refine range_yieldsO (by omega) (gf := 22) (lb := #[.pointer (some ⟨gb, 0, none⟩)]) rfl (enters_of Tryd.func22 (by kernel_rfl) rfl) HYL_0.out
        (fun j => j = g10) (fun j e => by
          subst e
          refine ⟨hg10U_0, fun h => ?_⟩
          rcases h with h | h
          · have := HTL_0.out.lb; omega
          · have := HTL_0.out.lg; omega)
        (fun j h => by
          rcases h with h | h
          · have := HTL_0.out.lb; omega
          · have := HTL_0.out.lg; omega) (Below.refl _ _)
        (KIk w g8 g9 gb g g10 many 0 (.slice (some ⟨b2, of2, none⟩) 176 c2) F (KS kw 11) []) (fun c k V => c = .exit 4 ∧ KIk w g8 g9 gb g g10 many 0 (.slice (some ⟨b2, of2, none⟩) 176 c2) F (KS kw 11) [] k V) (kI_own _ _ _ _ _ _ _ _ _ _ _ _ hg10U_0 (by have := HTL_0.out.lw; omega)) (fun c k X Y row hs hg hr => ⟨hs.1, kI_own _ _ _ _ _ _ _ _ _ _ _ _ hg10U_0 (by have := HTL_0.out.lw; omega) k X Y row hs.2 hg hr⟩) HT_0.out ?a1_0
        (fun k u v _ V => u = .int .i64 (k : Nat) ∧ keyN kw k v V ∧ ∀ j, InS v j → U.heap.size ≤ j ∧ j < V.heap.size)
        (fun k u v _ V l o o' h hl ho => ⟨h.1, ⟨h.2.1.1.putObj o' hl ho, NF.putObj h.2.1.1 h.2.1.2 o' hl ho⟩, fun j hj => by have := h.2.2 j hj; simp; exact this⟩)
        ?assign_0 ?body_0 ?done_0 ?stop_0
      case assign_0 =>
        intro l2 j u v V k hj hVs hphi hk
        have HKQ := Lib.hid (hk V (Below.refl _ _) hphi)
        clear hphi hk
        gi_wp2_with fail
        exact HKQ.out
      case body_0 => as_aux_lemma =>
        rintro l2 k u v V0 V hk hV0 ⟨hr, hT⟩ ⟨rfl, ⟨hbv, hnfv⟩, hins⟩
        have hl64 := HRL.out k
        have hrkb := HRK.out k hk
        have h256 := HR2.out k
        obtain ⟨blk, hblk⟩ : ∃ x, bytesL (rk kw k) = x := ⟨_, rfl⟩
        rw [hblk] at hl64 hrkb h256 hbv
        obtain ⟨bv, ov, cv, rfl, hbvl, hcv⟩ := hbv.cells (by omega)
        rw [hl64] at hcv hnfv hins ⊢
        have hy0 := byte_lt h256 0
        have hinb := hins bv ⟨ov, none, _, _, rfl⟩
        have hx0 : V.cell? ⟨bv, ov, none⟩ = some (.int .u8 (blk.getD 0 0 : Nat)) := hcv 0 (by omega)
        have hxf : V.frozen? ⟨bv, ov, none⟩ = false := hnfv bv ov 16 cv rfl 0 (by omega)
        obtain ⟨y, hy⟩ : ∃ y, blk.getD 0 0 = y := ⟨_, rfl⟩
        rw [hy] at hx0 hy0
        have hst1 : ∀ n, (convert 25 9 (.slice (some ⟨bv, ov, none⟩) 16 cv)).run Tryd.prog (V.drewN n) = .ok (.string (strOf blk)) (V.drewN n) := fun n => run_str (V.drewN n) bv ov 16 cv blk hl64 hcv
        have hst2 : ∀ n, (convert 25 9 (.slice (some ⟨b2, of2 + 16 * k, none⟩) 16 (c2 - 16 * k))).run Tryd.prog (V.drewN n) = .ok (.string (strOf blk)) (V.drewN n) := fun n => by
          have hb := bytes_cut hT.2.1.1 (16 * k) 16 (by rw [HFL.out]; omega)
          rw [show (F.drop (16 * k)).take 16 = blk from hrkb] at hb
          obtain ⟨_, a', c', e, _, h2⟩ := hb
          rw [hl64] at e h2
          cases e
          rcases h2 with h2 | ⟨b', o', e', _, hj⟩
          · omega
          · cases e'
            exact run_str (V.drewN n) _ _ 16 _ blk hl64 hj
        have hsl : ∀ W, (Instr.sliceAt 25 (.slice (some ⟨b2, of2, none⟩) 176 c2) (some (.int .i64 (16 * ((k : Nat) : Int)))) (some (.int .i64 (16 * ((k : Nat) : Int) + 16))) none).run Tryd.prog W = .ok (.slice (some ⟨b2, of2 + 16 * k, none⟩) 16 (c2 - 16 * k)) W := fun W => by
          have h := run_slice25_lh b2 of2 176 c2 (16 * k) (16 * k + 16) (by omega) (by omega) (by omega) W
          rw [show ((16 * k : Nat) : Int) = 16 * ((k : Nat) : Int) by omega, show ((16 * k + 16 : Nat) : Int) = 16 * ((k : Nat) : Int) + 16 by omega, show 16 * k + 16 - 16 * k = 16 by omega] at h
          exact h
        have hc10 : V.cell? ⟨g10, 0, none⟩ = some (.int .i64 ((k : Nat) : Int)) := (rowN_cell hr).1 0
        have hf10 := (rowN_cell hr).2 0
        have hc9 := (rowN_cell hT.1.1).1 0
        have hc8 := (rowN_cell hT.1.2.1).1 0
        have hc3 := (rowN_cell hT.1.2.2.1).1 0
        have e0 : IntKind.i64.wrap (16 * ((k : Nat) : Int)) = 16 * ((k : Nat) : Int) := IntWalk.i64_in _ (by omega)
        have e1 : IntKind.i64.wrap (16 * ((k : Nat) : Int) + 16) = 16 * ((k : Nat) : Int) + 16 := IntWalk.i64_in _ (by omega)
        have e2 : decide ((10 : Int) < ((k : Nat) : Int)) = false := decide_eq_false (by omega)
        have e3 : IntKind.i64.wrap (((k : Nat) : Int) + 1) = ((k : Nat) : Int) + 1 := IntWalk.i64_in _ (by omega)
        have HR := Lib.hid hr
        have HT := Lib.hid hT
        have HCX := Lib.hid hx0
        have hne1 : bv ≠ g10 := by omega
        have hne2 : g10 ≠ bv := by omega
        have hne3 : g9 ≠ bv := by have := HTL_0.out.l9; omega
        have hne4 : g9 ≠ g10 := by have := HTL_0.out.l9; omega
        have hne5 : w.heap.size ≠ bv := by have := HTL_0.out.lw; omega
        have hne6 : w.heap.size ≠ g10 := by have := HTL_0.out.lw; omega
        clear hy hblk hbv hnfv hins h256 hcv hr hT hl64 hrkb
        gi_wp2_with fail
        refine quiet_round_lit (by kernel_rfl) (by kernel_rfl) (by kernel_rfl) ?_
        repeat (gi_big_quiet_step (fail))
        refine wpQuietIn_nil ?_
        intro _ hw'
        obtain ⟨nq, rfl⟩ := hw'
        have HR1 := Lib.hid (show rowN (V.drewN nq) g10 = some #[.int .i64 ((k : Nat) : Int)] from HR.out)
        have hd10 : (V.drewN nq).cell? ⟨g10, 0, none⟩ = some (.int .i64 ((k : Nat) : Int)) := hc10
        have hg10 : (V.drewN nq).frozen? ⟨g10, 0, none⟩ = false := hf10
        have hd9 : (V.drewN nq).cell? ⟨g9, 0, none⟩ = some (.int .i64 0) := hc9
        have hd3 : (V.drewN nq).cell? ⟨w.heap.size, 0, none⟩ = some (.int .i64 many) := hc3
        have hdx : (V.drewN nq).cell? ⟨bv, ov, none⟩ = some (.int .u8 (y : Nat)) := hx0
        have hdf : (V.drewN nq).frozen? ⟨bv, ov, none⟩ = false := hxf
        have HKV := Lib.hid (show Keeps (fun j => j = g10 ∨ j = bv) V (V.drewN nq) from ⟨Nat.le_refl _, fun _ _ _ => rfl⟩)
        have HBV := Lib.hid (show Below w.heap.size w (V.drewN nq) from below_drewN HT.out.2.2.2 nq)
        have ey : IntKind.u8.wrap (((y : Nat) : Int) + 1) = (((y + 1) % 256 : Nat) : Int) := by rw [IntKind.wrap_u8]; omega
        obtain ⟨y1, hy1⟩ : ∃ x, (y + 1) % 256 = x := ⟨_, rfl⟩
        rw [hy1] at ey
        clear hc10 hf10 hc9 hc8 hc3 hx0 hxf hst1 hst2 hsl hy1
        generalize V.drewN nq = V1 at *
        have HEND := Lib.hid (show KeepsFrom U.heap.size V ((V1.setCell ⟨bv, ov, none⟩ (.int .u8 (y1 : Nat))).setCell ⟨g10, 0, none⟩ (.int .i64 (((k : Nat) : Int) + 1))) ∧ Keeps (fun j => j = g10 ∨ InS (.slice (some ⟨bv, ov, none⟩) 16 cv) j) V ((V1.setCell ⟨bv, ov, none⟩ (.int .u8 (y1 : Nat))).setCell ⟨g10, 0, none⟩ (.int .i64 (((k : Nat) : Int) + 1))) ∧
            KIk w g8 g9 gb g g10 many 0 (.slice (some ⟨b2, of2, none⟩) 176 c2) F (KS kw 11) [] (k + 1) ((V1.setCell ⟨bv, ov, none⟩ (.int .u8 (y1 : Nat))).setCell ⟨g10, 0, none⟩ (.int .i64 (((k : Nat) : Int) + 1))) by
          have hlw := HTL_0.out.lw
          have hks : Keeps (fun j => j = g10 ∨ j = bv) V ((V1.setCell ⟨bv, ov, none⟩ (.int .u8 (y1 : Nat))).setCell ⟨g10, 0, none⟩ (.int .i64 (((k : Nat) : Int) + 1))) :=
            (HKV.out.trans (Keeps.of_grownBy (setCell_grown V1 ⟨bv, ov, none⟩ _) (fun r e => by cases e; exact .inr rfl))).trans (Keeps.of_grownBy (setCell_grown _ ⟨g10, 0, none⟩ _) (fun r e => by cases e; exact .inl rfl))
          have hbe : Below w.heap.size w ((V1.setCell ⟨bv, ov, none⟩ (.int .u8 (y1 : Nat))).setCell ⟨g10, 0, none⟩ (.int .i64 (((k : Nat) : Int) + 1))) :=
            (HBV.out.setCell (p := ⟨bv, ov, none⟩) (by show w.heap.size ≤ bv; omega) _).setCell (p := ⟨g10, 0, none⟩) (by show w.heap.size ≤ g10; omega) _
          refine ⟨keepsFrom_cells hks (fun j o ho hc h => ?_), hks.weaken (fun j _ h => h.imp id (fun h => by subst h; exact ⟨ov, none, _, _, rfl⟩)), ?_, HT.out.keeps HTL_0.out hks (fun j hj h => by omega) hbe⟩
          · rcases h with rfl | rfl
            · rw [row_cells HR.out ho] at hc; cases hc
            · rw [cell_cells HCX.out ho] at hc; cases hc
          · have h := row_set0 (x := .int .i64 (((k : Nat) : Int) + 1)) (row_cell0 (o := ov) (x := .int .u8 (y1 : Nat)) HR1.out hne2)
            rw [show ((k + 1 : Nat) : Int) = ((k : Nat) : Int) + 1 by omega]; exact h)
        clear HKV HBV HR HT HR1 HCX
        by_cases hbr : many ≤ ((k : Nat) : Int) + 1
        · gi_wp2_with fail
          exact ⟨HEND.out.1, HEND.out.2.1, .inr (.inr ⟨4, rfl, rfl, HEND.out.2.2⟩)⟩
        · gi_wp2_with fail
          exact ⟨HEND.out.1, HEND.out.2.1, .inl ⟨rfl, HEND.out.2.2⟩⟩
      case done_0 => as_aux_lemma =>
        rintro D0 V hD ⟨h10, hT⟩ hKd
        have hc9 := (rowN_cell hT.1.1).1 0
        have hV10 := rowN_lt h10
        have hDV := (Array.getElem?_eq_some_iff.1 hKd).1
        have HTV := Lib.hid hT
        have HKD := Lib.hid hKd
        clear h10 hT hKd
        go_wp2_with fail
        rw [rounds_succ]
        go_wp2_with fail
        obtain ⟨U1, hU⟩ : ∃ U, (V.alloc (.cells #[.int .i64 1] 3)).alloc (.cells #[.int .i64 0] 3) = U := ⟨_, rfl⟩
        have hbU : Below V.heap.size V U1 := by rw [← hU]; exact ((Below.refl _ _).alloc (Nat.le_refl _) _).alloc (by simp) _
        have hq9 : rowN U1 V.heap.size = some #[.int .i64 1] := by rw [← hU, rowN_alloc, if_neg (by simp), rowN_alloc, if_pos rfl]
        have hq10 : rowN U1 (V.heap.size + 1) = some #[.int .i64 0] := by rw [← hU, rowN_alloc, if_pos (by simp)]
        rw [hU]
        have hUd : g10 < D0 := Nat.lt_of_lt_of_le hg10U_0 hD
        have HTLS := Lib.hid (show KBL w g8 V.heap.size gb g (.slice (some ⟨b2, of2, none⟩) 176 c2) (V.heap.size + 1) from by
          obtain ⟨q1, q2, q3, q4, q5, q6⟩ := HTL_0.out
          exact ⟨by omega, by omega, by omega, by omega, by omega, fun j hj => by have := q6 j hj; omega⟩)
        have HTS := Lib.hid (show KIk w g8 V.heap.size gb g (V.heap.size + 1) many 1 (.slice (some ⟨b2, of2, none⟩) 176 c2) F (KS kw 11) [D0] 0 U1 from by
          obtain ⟨⟨p1, p2, p3, p4, p5⟩, ⟨p6, p7⟩, p8, p9⟩ := HTV.out
          exact ⟨hq10, ⟨hq9, keptW hbU p2, keptW hbU p3, keptW hbU p4, keptW hbU p5⟩, ⟨p6.kept hbU, keptW hbU p7⟩, (fun D h => by
            obtain rfl : D = D0 := by simpa using h
            exact ⟨by omega, (hbU.block D hDV).trans HKD.out⟩), p9.trans (hbU.mono p9.size)⟩)
        have HDW := Lib.hid (show w.heap.size + 1 < D0 by have := HTL_0.out.lw; omega)
        have HDV := Lib.hid (show D0 < V.heap.size from hDV)
        obtain ⟨g9b, hg9⟩ : ∃ g, V.heap.size = g := ⟨_, rfl⟩
        obtain ⟨g10b, hg10⟩ : ∃ g, V.heap.size + 1 = g := ⟨_, rfl⟩
        rw [hg10, hg9] at HTLS HTS
        rw [hg10, hg9]
        have HG910 := Lib.hid (show D0 < g10b by omega)
        clear hU hbU hq9 hq10 hg9 hg10 HTV HKD hV10 hDV hUd HDV
        have HTL_1 := HTLS
        have HT_1 := HTS
        clear HTLS HTS
        have hg10U_1 : g10b < U1.heap.size := rowN_lt HT_1.out.1
        have HYL_1 := Lib.hid (keys1_yields (6 - 1) gb g kw HKL.out HKW.out U1 HT_1.out.2.1.2.2.2.2 HT_1.out.2.2.1.2)
        refine (wpIn_wide (n := 6)).1 ?_
        refine range_yieldsO (by omega) (gf := 22) (lb := #[.pointer (some ⟨gb, 0, none⟩)]) rfl (enters_of Tryd.func22 (by kernel_rfl) rfl) HYL_1.out
          (fun j => j = g10b) (fun j e => by
            subst e
            refine ⟨hg10U_1, fun h => ?_⟩
            rcases h with h | h
            · have := HTL_1.out.lb; omega
            · have := HTL_1.out.lg; omega)
          (fun j h => by
            rcases h with h | h
            · have := HTL_1.out.lb; omega
            · have := HTL_1.out.lg; omega) (Below.refl _ _)
          (KIk w g8 g9b gb g g10b many 1 (.slice (some ⟨b2, of2, none⟩) 176 c2) F (KS kw 11) [D0]) (fun _ _ _ => False) (kI_own _ _ _ _ _ _ _ _ _ _ _ _ hg10U_1 (by have := HTL_1.out.lw; omega)) (fun _ _ _ _ _ hs _ _ => hs) HT_1.out ?a1_1
          (fun k u v _ V => u = .int .i64 (k : Nat) ∧ keyN kw k v V ∧ ∀ j, InS v j → U1.heap.size ≤ j ∧ j < V.heap.size)
          (fun k u v _ V l o o' h hl ho => ⟨h.1, ⟨h.2.1.1.putObj o' hl ho, NF.putObj h.2.1.1 h.2.1.2 o' hl ho⟩, fun j hj => by have := h.2.2 j hj; simp; exact this⟩)
          ?assign_1 ?body_1 ?done_1 ?stop_1
        case assign_1 =>
          intro l2 j u v V k hj hVs hphi hk
          have HKQ := Lib.hid (hk V (Below.refl _ _) hphi)
          clear hphi hk
          gi_wp2_with fail
          exact HKQ.out
        case body_1 => as_aux_lemma =>
          rintro l2 k u v V0 V hk hV0 ⟨hr, hT⟩ ⟨rfl, ⟨hbv, hnfv⟩, hins⟩
          have hl64 := HRL.out k
          have hrkb := HRK.out k hk
          have h256 := HR2.out k
          obtain ⟨blk, hblk⟩ : ∃ x, bytesL (rk kw k) = x := ⟨_, rfl⟩
          rw [hblk] at hl64 hrkb h256 hbv
          obtain ⟨bv, ov, cv, rfl, hbvl, hcv⟩ := hbv.cells (by omega)
          rw [hl64] at hcv hnfv hins ⊢
          have hy0 := byte_lt h256 0
          have hinb := hins bv ⟨ov, none, _, _, rfl⟩
          have hx0 : V.cell? ⟨bv, ov, none⟩ = some (.int .u8 (blk.getD 0 0 : Nat)) := hcv 0 (by omega)
          have hxf : V.frozen? ⟨bv, ov, none⟩ = false := hnfv bv ov 16 cv rfl 0 (by omega)
          obtain ⟨y, hy⟩ : ∃ y, blk.getD 0 0 = y := ⟨_, rfl⟩
          rw [hy] at hx0 hy0
          have hst1 : ∀ n, (convert 25 9 (.slice (some ⟨bv, ov, none⟩) 16 cv)).run Tryd.prog (V.drewN n) = .ok (.string (strOf blk)) (V.drewN n) := fun n => run_str (V.drewN n) bv ov 16 cv blk hl64 hcv
          have hst2 : ∀ n, (convert 25 9 (.slice (some ⟨b2, of2 + 16 * k, none⟩) 16 (c2 - 16 * k))).run Tryd.prog (V.drewN n) = .ok (.string (strOf blk)) (V.drewN n) := fun n => by
            have hb := bytes_cut hT.2.1.1 (16 * k) 16 (by rw [HFL.out]; omega)
            rw [show (F.drop (16 * k)).take 16 = blk from hrkb] at hb
            obtain ⟨_, a', c', e, _, h2⟩ := hb
            rw [hl64] at e h2
            cases e
            rcases h2 with h2 | ⟨b', o', e', _, hj⟩
            · omega
            · cases e'
              exact run_str (V.drewN n) _ _ 16 _ blk hl64 hj
          have hsl : ∀ W, (Instr.sliceAt 25 (.slice (some ⟨b2, of2, none⟩) 176 c2) (some (.int .i64 (16 * ((k : Nat) : Int)))) (some (.int .i64 (16 * ((k : Nat) : Int) + 16))) none).run Tryd.prog W = .ok (.slice (some ⟨b2, of2 + 16 * k, none⟩) 16 (c2 - 16 * k)) W := fun W => by
            have h := run_slice25_lh b2 of2 176 c2 (16 * k) (16 * k + 16) (by omega) (by omega) (by omega) W
            rw [show ((16 * k : Nat) : Int) = 16 * ((k : Nat) : Int) by omega, show ((16 * k + 16 : Nat) : Int) = 16 * ((k : Nat) : Int) + 16 by omega, show 16 * k + 16 - 16 * k = 16 by omega] at h
            exact h
          have hc10 : V.cell? ⟨g10b, 0, none⟩ = some (.int .i64 ((k : Nat) : Int)) := (rowN_cell hr).1 0
          have hf10 := (rowN_cell hr).2 0
          have hc9 := (rowN_cell hT.1.1).1 0
          have hc8 := (rowN_cell hT.1.2.1).1 0
          have hc3 := (rowN_cell hT.1.2.2.1).1 0
          have e0 : IntKind.i64.wrap (16 * ((k : Nat) : Int)) = 16 * ((k : Nat) : Int) := IntWalk.i64_in _ (by omega)
          have e1 : IntKind.i64.wrap (16 * ((k : Nat) : Int) + 16) = 16 * ((k : Nat) : Int) + 16 := IntWalk.i64_in _ (by omega)
          have e2 : decide ((10 : Int) < ((k : Nat) : Int)) = false := decide_eq_false (by omega)
          have e3 : IntKind.i64.wrap (((k : Nat) : Int) + 1) = ((k : Nat) : Int) + 1 := IntWalk.i64_in _ (by omega)
          have HR := Lib.hid hr
          have HT := Lib.hid hT
          have HCX := Lib.hid hx0
          have hne1 : bv ≠ g10b := by omega
          have hne2 : g10b ≠ bv := by omega
          have hne3 : g9b ≠ bv := by have := HTL_1.out.l9; omega
          have hne4 : g9b ≠ g10b := by have := HTL_1.out.l9; omega
          have hne5 : w.heap.size ≠ bv := by have := HTL_1.out.lw; omega
          have hne6 : w.heap.size ≠ g10b := by have := HTL_1.out.lw; omega
          clear hy hblk hbv hnfv hins h256 hcv hr hT hl64 hrkb
          gi_wp2_with fail
          refine quiet_round_lit (by kernel_rfl) (by kernel_rfl) (by kernel_rfl) ?_
          repeat (gi_big_quiet_step (fail))
          refine wpQuietIn_nil ?_
          intro _ hw'
          obtain ⟨nq, rfl⟩ := hw'
          have HR1 := Lib.hid (show rowN (V.drewN nq) g10b = some #[.int .i64 ((k : Nat) : Int)] from HR.out)
          have hd10 : (V.drewN nq).cell? ⟨g10b, 0, none⟩ = some (.int .i64 ((k : Nat) : Int)) := hc10
          have hg10 : (V.drewN nq).frozen? ⟨g10b, 0, none⟩ = false := hf10
          have hd9 : (V.drewN nq).cell? ⟨g9b, 0, none⟩ = some (.int .i64 1) := hc9
          have hd3 : (V.drewN nq).cell? ⟨w.heap.size, 0, none⟩ = some (.int .i64 many) := hc3
          have hdx : (V.drewN nq).cell? ⟨bv, ov, none⟩ = some (.int .u8 (y : Nat)) := hx0
          have hdf : (V.drewN nq).frozen? ⟨bv, ov, none⟩ = false := hxf
          have HKV := Lib.hid (show Keeps (fun j => j = g10b ∨ j = bv) V (V.drewN nq) from ⟨Nat.le_refl _, fun _ _ _ => rfl⟩)
          have HBV := Lib.hid (show Below w.heap.size w (V.drewN nq) from below_drewN HT.out.2.2.2 nq)
          have ey : IntKind.u8.wrap (((y : Nat) : Int) + 1) = (((y + 1) % 256 : Nat) : Int) := by rw [IntKind.wrap_u8]; omega
          obtain ⟨y1, hy1⟩ : ∃ x, (y + 1) % 256 = x := ⟨_, rfl⟩
          rw [hy1] at ey
          clear hc10 hf10 hc9 hc8 hc3 hx0 hxf hst1 hst2 hsl hy1
          generalize V.drewN nq = V1 at *
          have HEND := Lib.hid (show KeepsFrom U1.heap.size V ((V1.setCell ⟨bv, ov, none⟩ (.int .u8 (y1 : Nat))).setCell ⟨g10b, 0, none⟩ (.int .i64 (((k : Nat) : Int) + 1))) ∧ Keeps (fun j => j = g10b ∨ InS (.slice (some ⟨bv, ov, none⟩) 16 cv) j) V ((V1.setCell ⟨bv, ov, none⟩ (.int .u8 (y1 : Nat))).setCell ⟨g10b, 0, none⟩ (.int .i64 (((k : Nat) : Int) + 1))) ∧
              KIk w g8 g9b gb g g10b many 1 (.slice (some ⟨b2, of2, none⟩) 176 c2) F (KS kw 11) [D0] (k + 1) ((V1.setCell ⟨bv, ov, none⟩ (.int .u8 (y1 : Nat))).setCell ⟨g10b, 0, none⟩ (.int .i64 (((k : Nat) : Int) + 1))) by
            have hlw := HTL_1.out.lw
            have hks : Keeps (fun j => j = g10b ∨ j = bv) V ((V1.setCell ⟨bv, ov, none⟩ (.int .u8 (y1 : Nat))).setCell ⟨g10b, 0, none⟩ (.int .i64 (((k : Nat) : Int) + 1))) :=
              (HKV.out.trans (Keeps.of_grownBy (setCell_grown V1 ⟨bv, ov, none⟩ _) (fun r e => by cases e; exact .inr rfl))).trans (Keeps.of_grownBy (setCell_grown _ ⟨g10b, 0, none⟩ _) (fun r e => by cases e; exact .inl rfl))
            have hbe : Below w.heap.size w ((V1.setCell ⟨bv, ov, none⟩ (.int .u8 (y1 : Nat))).setCell ⟨g10b, 0, none⟩ (.int .i64 (((k : Nat) : Int) + 1))) :=
              (HBV.out.setCell (p := ⟨bv, ov, none⟩) (by show w.heap.size ≤ bv; omega) _).setCell (p := ⟨g10b, 0, none⟩) (by show w.heap.size ≤ g10b; omega) _
            refine ⟨keepsFrom_cells hks (fun j o ho hc h => ?_), hks.weaken (fun j _ h => h.imp id (fun h => by subst h; exact ⟨ov, none, _, _, rfl⟩)), ?_, HT.out.keeps HTL_1.out hks (fun j hj h => by omega) hbe⟩
            · rcases h with rfl | rfl
              · rw [row_cells HR.out ho] at hc; cases hc
              · rw [cell_cells HCX.out ho] at hc; cases hc
            · have h := row_set0 (x := .int .i64 (((k : Nat) : Int) + 1)) (row_cell0 (o := ov) (x := .int .u8 (y1 : Nat)) HR1.out hne2)
              rw [show ((k + 1 : Nat) : Int) = ((k : Nat) : Int) + 1 by omega]; exact h)
          clear HKV HBV HR HT HR1 HCX
          gi_wp2_with fail
          exact ⟨HEND.out.1, HEND.out.2.1, .inl ⟨rfl, HEND.out.2.2⟩⟩
        case done_1 => as_aux_lemma =>
          rintro D1 V1 hD1 ⟨h10, hT⟩ hKd
          have hc9 := (rowN_cell hT.1.1).1 0
          have h11 : rowN V1 g10b = some #[.int .i64 11] := h10
          have hc10 := (rowN_cell h11).1 0
          have HTV := Lib.hid hT
          have HKD := Lib.hid hKd
          have hDV := (Array.getElem?_eq_some_iff.1 hKd).1
          clear h10 hT hKd
          go_wp2_with fail
          rw [rounds_succ]
          go_wp2_with fail
          obtain ⟨X, hX⟩ : ∃ X, V1.alloc (.cells #[.int .i64 2] 3) = X := ⟨_, rfl⟩
          have hbX : Below V1.heap.size V1 X := by rw [← hX]; exact (Below.refl _ _).alloc (Nat.le_refl _) _
          rw [hX]
          have HBX := Lib.hid (HTV.out.2.2.2.trans (hbX.mono HTV.out.2.2.2.size))
          refine (HKA.out _).mono ?_
          rintro e Y ⟨rfl, hbY⟩
          have hbZ : Below V1.heap.size V1 Y := hbX.trans (hbY.mono hbX.size)
          have hr4 := keptW hbZ HTV.out.1.2.2.2.1
          have hc4 := (rowN_cell hr4).1 0
          have hf4 := (rowN_cell hr4).2 0
          have HR4 := Lib.hid hr4
          have HD1 := Lib.hid ((hbZ.block D1 hDV).trans HKD.out)
          have hd0 := HTV.out.2.2.1 D0 (by simp)
          have HD0 := Lib.hid ((hbZ.block D0 (Array.getElem?_eq_some_iff.1 hd0.2).1).trans hd0.2)
          have HBY := Lib.hid (HBX.out.trans (hbY.mono HBX.out.size))
          clear hX hbX hbY hbZ hr4 hd0 HBX HTV HKD h11
          go_wp2_with fail
          have hw0 := HDW.out
          have hU1s : g10b < U1.heap.size := rowN_lt HT_1.out.1
          have hw1 := HG910.out
          have n0 : D0 ≠ w.heap.size + 1 := by omega
          have n1 : D1 ≠ w.heap.size + 1 := by omega
          have n01 : D0 ≠ D1 := by omega
          refine ⟨by simp, .inl ⟨_, _, rfl, run_takeDeferred ((Below.heap_setCell _ _ _ D1 (by show D1 ≠ w.heap.size + 1; exact n1)).trans HD1.out), ?_⟩⟩
          refine ⟨by simp, .inl ⟨_, _, rfl, run_takeDeferred ((World.putObj_heap_other n01).trans ((Below.heap_setCell _ _ _ D0 (by show D0 ≠ w.heap.size + 1; exact n0)).trans HD0.out)), ?_⟩⟩
          refine ⟨_, results_bool (w.heap.size + 1) true rfl rfl (by rw [rowN_putObj (fun e => n0 e.symm), rowN_putObj (fun e => n1 e.symm)]; exact row_set0 HR4.out), rfl, ?_⟩
          have hb := HBY.out.setCell (p := ⟨w.heap.size + 1, 0, none⟩) (by show w.heap.size ≤ w.heap.size + 1; omega) (.bool true)
          exact (hb.grown (grownBy_putObj' _ D1 _) hb.size (fun r e => by cases e; omega)).grown (grownBy_putObj' _ D0 _) (by simp; exact HBY.out.size) (fun r e => by cases e; omega)
        case stop_1 => as_aux_lemma =>
          rintro D k c V hD hk hx hK
          exact hx.elim
      case stop_0 => as_aux_lemma =>
        rintro D0 k c V hD hk ⟨rfl, h10, hT⟩ hKd
        refine wpIn_wide.2 ?_
        have hc9 := (rowN_cell hT.1.1).1 0
        have hV10 := rowN_lt h10
        have hDV := (Array.getElem?_eq_some_iff.1 hKd).1
        have HTV := Lib.hid hT
        have HKD := Lib.hid hKd
        clear h10 hT hKd
        go_wp2_with fail
        rw [rounds_succ]
        go_wp2_with fail
        obtain ⟨U1, hU⟩ : ∃ U, (V.alloc (.cells #[.int .i64 1] 3)).alloc (.cells #[.int .i64 0] 3) = U := ⟨_, rfl⟩
        have hbU : Below V.heap.size V U1 := by rw [← hU]; exact ((Below.refl _ _).alloc (Nat.le_refl _) _).alloc (by simp) _
        have hq9 : rowN U1 V.heap.size = some #[.int .i64 1] := by rw [← hU, rowN_alloc, if_neg (by simp), rowN_alloc, if_pos rfl]
        have hq10 : rowN U1 (V.heap.size + 1) = some #[.int .i64 0] := by rw [← hU, rowN_alloc, if_pos (by simp)]
        rw [hU]
        have hUd : g10 < D0 := Nat.lt_of_lt_of_le hg10U_0 hD
        have HTLS := Lib.hid (show KBL w g8 V.heap.size gb g (.slice (some ⟨b2, of2, none⟩) 176 c2) (V.heap.size + 1) from by
          obtain ⟨q1, q2, q3, q4, q5, q6⟩ := HTL_0.out
          exact ⟨by omega, by omega, by omega, by omega, by omega, fun j hj => by have := q6 j hj; omega⟩)
        have HTS := Lib.hid (show KIk w g8 V.heap.size gb g (V.heap.size + 1) many 1 (.slice (some ⟨b2, of2, none⟩) 176 c2) F (KS kw 11) [D0] 0 U1 from by
          obtain ⟨⟨p1, p2, p3, p4, p5⟩, ⟨p6, p7⟩, p8, p9⟩ := HTV.out
          exact ⟨hq10, ⟨hq9, keptW hbU p2, keptW hbU p3, keptW hbU p4, keptW hbU p5⟩, ⟨p6.kept hbU, keptW hbU p7⟩, (fun D h => by
            obtain rfl : D = D0 := by simpa using h
            exact ⟨by omega, (hbU.block D hDV).trans HKD.out⟩), p9.trans (hbU.mono p9.size)⟩)
        have HDW := Lib.hid (show w.heap.size + 1 < D0 by have := HTL_0.out.lw; omega)
        have HDV := Lib.hid (show D0 < V.heap.size from hDV)
        obtain ⟨g9b, hg9⟩ : ∃ g, V.heap.size = g := ⟨_, rfl⟩
        obtain ⟨g10b, hg10⟩ : ∃ g, V.heap.size + 1 = g := ⟨_, rfl⟩
        rw [hg10, hg9] at HTLS HTS
        rw [hg10, hg9]
        have HG910 := Lib.hid (show D0 < g10b by omega)
        clear hU hbU hq9 hq10 hg9 hg10 HTV HKD hV10 hDV hUd HDV
        have HTL_2 := HTLS
        have HT_2 := HTS
        clear HTLS HTS
        have hg10U_2 : g10b < U1.heap.size := rowN_lt HT_2.out.1
        have HYL_2 := Lib.hid (keys1_yields (6 - 1) gb g kw HKL.out HKW.out U1 HT_2.out.2.1.2.2.2.2 HT_2.out.2.2.1.2)
        refine (wpIn_wide (n := 6)).1 ?_
        refine range_yieldsO (by omega) (gf := 22) (lb := #[.pointer (some ⟨gb, 0, none⟩)]) rfl (enters_of Tryd.func22 (by kernel_rfl) rfl) HYL_2.out
          (fun j => j = g10b) (fun j e => by
            subst e
            refine ⟨hg10U_2, fun h => ?_⟩
            rcases h with h | h
            · have := HTL_2.out.lb; omega
            · have := HTL_2.out.lg; omega)
          (fun j h => by
            rcases h with h | h
            · have := HTL_2.out.lb; omega
            · have := HTL_2.out.lg; omega) (Below.refl _ _)
          (KIk w g8 g9b gb g g10b many 1 (.slice (some ⟨b2, of2, none⟩) 176 c2) F (KS kw 11) [D0]) (fun _ _ _ => False) (kI_own _ _ _ _ _ _ _ _ _ _ _ _ hg10U_2 (by have := HTL_2.out.lw; omega)) (fun _ _ _ _ _ hs _ _ => hs) HT_2.out ?a1_2
          (fun k u v _ V => u = .int .i64 (k : Nat) ∧ keyN kw k v V ∧ ∀ j, InS v j → U1.heap.size ≤ j ∧ j < V.heap.size)
          (fun k u v _ V l o o' h hl ho => ⟨h.1, ⟨h.2.1.1.putObj o' hl ho, NF.putObj h.2.1.1 h.2.1.2 o' hl ho⟩, fun j hj => by have := h.2.2 j hj; simp; exact this⟩)
          ?assign_2 ?body_2 ?done_2 ?stop_2
        case assign_2 =>
          intro l2 j u v V k hj hVs hphi hk
          have HKQ := Lib.hid (hk V (Below.refl _ _) hphi)
          clear hphi hk
          gi_wp2_with fail
          exact HKQ.out
        case body_2 => as_aux_lemma =>
          rintro l2 k u v V0 V hk hV0 ⟨hr, hT⟩ ⟨rfl, ⟨hbv, hnfv⟩, hins⟩
          have hl64 := HRL.out k
          have hrkb := HRK.out k hk
          have h256 := HR2.out k
          obtain ⟨blk, hblk⟩ : ∃ x, bytesL (rk kw k) = x := ⟨_, rfl⟩
          rw [hblk] at hl64 hrkb h256 hbv
          obtain ⟨bv, ov, cv, rfl, hbvl, hcv⟩ := hbv.cells (by omega)
          rw [hl64] at hcv hnfv hins ⊢
          have hy0 := byte_lt h256 0
          have hinb := hins bv ⟨ov, none, _, _, rfl⟩
          have hx0 : V.cell? ⟨bv, ov, none⟩ = some (.int .u8 (blk.getD 0 0 : Nat)) := hcv 0 (by omega)
          have hxf : V.frozen? ⟨bv, ov, none⟩ = false := hnfv bv ov 16 cv rfl 0 (by omega)
          obtain ⟨y, hy⟩ : ∃ y, blk.getD 0 0 = y := ⟨_, rfl⟩
          rw [hy] at hx0 hy0
          have hst1 : ∀ n, (convert 25 9 (.slice (some ⟨bv, ov, none⟩) 16 cv)).run Tryd.prog (V.drewN n) = .ok (.string (strOf blk)) (V.drewN n) := fun n => run_str (V.drewN n) bv ov 16 cv blk hl64 hcv
          have hst2 : ∀ n, (convert 25 9 (.slice (some ⟨b2, of2 + 16 * k, none⟩) 16 (c2 - 16 * k))).run Tryd.prog (V.drewN n) = .ok (.string (strOf blk)) (V.drewN n) := fun n => by
            have hb := bytes_cut hT.2.1.1 (16 * k) 16 (by rw [HFL.out]; omega)
            rw [show (F.drop (16 * k)).take 16 = blk from hrkb] at hb
            obtain ⟨_, a', c', e, _, h2⟩ := hb
            rw [hl64] at e h2
            cases e
            rcases h2 with h2 | ⟨b', o', e', _, hj⟩
            · omega
            · cases e'
              exact run_str (V.drewN n) _ _ 16 _ blk hl64 hj
          have hsl : ∀ W, (Instr.sliceAt 25 (.slice (some ⟨b2, of2, none⟩) 176 c2) (some (.int .i64 (16 * ((k : Nat) : Int)))) (some (.int .i64 (16 * ((k : Nat) : Int) + 16))) none).run Tryd.prog W = .ok (.slice (some ⟨b2, of2 + 16 * k, none⟩) 16 (c2 - 16 * k)) W := fun W => by
            have h := run_slice25_lh b2 of2 176 c2 (16 * k) (16 * k + 16) (by omega) (by omega) (by omega) W
            rw [show ((16 * k : Nat) : Int) = 16 * ((k : Nat) : Int) by omega, show ((16 * k + 16 : Nat) : Int) = 16 * ((k : Nat) : Int) + 16 by omega, show 16 * k + 16 - 16 * k = 16 by omega] at h
            exact h
          have hc10 : V.cell? ⟨g10b, 0, none⟩ = some (.int .i64 ((k : Nat) : Int)) := (rowN_cell hr).1 0
          have hf10 := (rowN_cell hr).2 0
          have hc9 := (rowN_cell hT.1.1).1 0
          have hc8 := (rowN_cell hT.1.2.1).1 0
          have hc3 := (rowN_cell hT.1.2.2.1).1 0
          have e0 : IntKind.i64.wrap (16 * ((k : Nat) : Int)) = 16 * ((k : Nat) : Int) := IntWalk.i64_in _ (by omega)
          have e1 : IntKind.i64.wrap (16 * ((k : Nat) : Int) + 16) = 16 * ((k : Nat) : Int) + 16 := IntWalk.i64_in _ (by omega)
          have e2 : decide ((10 : Int) < ((k : Nat) : Int)) = false := decide_eq_false (by omega)
          have e3 : IntKind.i64.wrap (((k : Nat) : Int) + 1) = ((k : Nat) : Int) + 1 := IntWalk.i64_in _ (by omega)
          have HR := Lib.hid hr
          have HT := Lib.hid hT
          have HCX := Lib.hid hx0
          have hne1 : bv ≠ g10b := by omega
          have hne2 : g10b ≠ bv := by omega
          have hne3 : g9b ≠ bv := by have := HTL_2.out.l9; omega
          have hne4 : g9b ≠ g10b := by have := HTL_2.out.l9; omega
          have hne5 : w.heap.size ≠ bv := by have := HTL_2.out.lw; omega
          have hne6 : w.heap.size ≠ g10b := by have := HTL_2.out.lw; omega
          clear hy hblk hbv hnfv hins h256 hcv hr hT hl64 hrkb
          gi_wp2_with fail
          refine quiet_round_lit (by kernel_rfl) (by kernel_rfl) (by kernel_rfl) ?_
          repeat (gi_big_quiet_step (fail))
          refine wpQuietIn_nil ?_
          intro _ hw'
          obtain ⟨nq, rfl⟩ := hw'
          have HR1 := Lib.hid (show rowN (V.drewN nq) g10b = some #[.int .i64 ((k : Nat) : Int)] from HR.out)
          have hd10 : (V.drewN nq).cell? ⟨g10b, 0, none⟩ = some (.int .i64 ((k : Nat) : Int)) := hc10
          have hg10 : (V.drewN nq).frozen? ⟨g10b, 0, none⟩ = false := hf10
          have hd9 : (V.drewN nq).cell? ⟨g9b, 0, none⟩ = some (.int .i64 1) := hc9
          have hd3 : (V.drewN nq).cell? ⟨w.heap.size, 0, none⟩ = some (.int .i64 many) := hc3
          have hdx : (V.drewN nq).cell? ⟨bv, ov, none⟩ = some (.int .u8 (y : Nat)) := hx0
          have hdf : (V.drewN nq).frozen? ⟨bv, ov, none⟩ = false := hxf
          have HKV := Lib.hid (show Keeps (fun j => j = g10b ∨ j = bv) V (V.drewN nq) from ⟨Nat.le_refl _, fun _ _ _ => rfl⟩)
          have HBV := Lib.hid (show Below w.heap.size w (V.drewN nq) from below_drewN HT.out.2.2.2 nq)
          have ey : IntKind.u8.wrap (((y : Nat) : Int) + 1) = (((y + 1) % 256 : Nat) : Int) := by rw [IntKind.wrap_u8]; omega
          obtain ⟨y1, hy1⟩ : ∃ x, (y + 1) % 256 = x := ⟨_, rfl⟩
          rw [hy1] at ey
          clear hc10 hf10 hc9 hc8 hc3 hx0 hxf hst1 hst2 hsl hy1
          generalize V.drewN nq = V1 at *
          have HEND := Lib.hid (show KeepsFrom U1.heap.size V ((V1.setCell ⟨bv, ov, none⟩ (.int .u8 (y1 : Nat))).setCell ⟨g10b, 0, none⟩ (.int .i64 (((k : Nat) : Int) + 1))) ∧ Keeps (fun j => j = g10b ∨ InS (.slice (some ⟨bv, ov, none⟩) 16 cv) j) V ((V1.setCell ⟨bv, ov, none⟩ (.int .u8 (y1 : Nat))).setCell ⟨g10b, 0, none⟩ (.int .i64 (((k : Nat) : Int) + 1))) ∧
              KIk w g8 g9b gb g g10b many 1 (.slice (some ⟨b2, of2, none⟩) 176 c2) F (KS kw 11) [D0] (k + 1) ((V1.setCell ⟨bv, ov, none⟩ (.int .u8 (y1 : Nat))).setCell ⟨g10b, 0, none⟩ (.int .i64 (((k : Nat) : Int) + 1))) by
            have hlw := HTL_2.out.lw
            have hks : Keeps (fun j => j = g10b ∨ j = bv) V ((V1.setCell ⟨bv, ov, none⟩ (.int .u8 (y1 : Nat))).setCell ⟨g10b, 0, none⟩ (.int .i64 (((k : Nat) : Int) + 1))) :=
              (HKV.out.trans (Keeps.of_grownBy (setCell_grown V1 ⟨bv, ov, none⟩ _) (fun r e => by cases e; exact .inr rfl))).trans (Keeps.of_grownBy (setCell_grown _ ⟨g10b, 0, none⟩ _) (fun r e => by cases e; exact .inl rfl))
            have hbe : Below w.heap.size w ((V1.setCell ⟨bv, ov, none⟩ (.int .u8 (y1 : Nat))).setCell ⟨g10b, 0, none⟩ (.int .i64 (((k : Nat) : Int) + 1))) :=
              (HBV.out.setCell (p := ⟨bv, ov, none⟩) (by show w.heap.size ≤ bv; omega) _).setCell (p := ⟨g10b, 0, none⟩) (by show w.heap.size ≤ g10b; omega) _
            refine ⟨keepsFrom_cells hks (fun j o ho hc h => ?_), hks.weaken (fun j _ h => h.imp id (fun h => by subst h; exact ⟨ov, none, _, _, rfl⟩)), ?_, HT.out.keeps HTL_2.out hks (fun j hj h => by omega) hbe⟩
            · rcases h with rfl | rfl
              · rw [row_cells HR.out ho] at hc; cases hc
              · rw [cell_cells HCX.out ho] at hc; cases hc
            · have h := row_set0 (x := .int .i64 (((k : Nat) : Int) + 1)) (row_cell0 (o := ov) (x := .int .u8 (y1 : Nat)) HR1.out hne2)
              rw [show ((k + 1 : Nat) : Int) = ((k : Nat) : Int) + 1 by omega]; exact h)
          clear HKV HBV HR HT HR1 HCX
          gi_wp2_with fail
          exact ⟨HEND.out.1, HEND.out.2.1, .inl ⟨rfl, HEND.out.2.2⟩⟩
        case done_2 => as_aux_lemma =>
          rintro D1 V1 hD1 ⟨h10, hT⟩ hKd
          have hc9 := (rowN_cell hT.1.1).1 0
          have h11 : rowN V1 g10b = some #[.int .i64 11] := h10
          have hc10 := (rowN_cell h11).1 0
          have HTV := Lib.hid hT
          have HKD := Lib.hid hKd
          have hDV := (Array.getElem?_eq_some_iff.1 hKd).1
          clear h10 hT hKd
          go_wp2_with fail
          rw [rounds_succ]
          go_wp2_with fail
          obtain ⟨X, hX⟩ : ∃ X, V1.alloc (.cells #[.int .i64 2] 3) = X := ⟨_, rfl⟩
          have hbX : Below V1.heap.size V1 X := by rw [← hX]; exact (Below.refl _ _).alloc (Nat.le_refl _) _
          rw [hX]
          have HBX := Lib.hid (HTV.out.2.2.2.trans (hbX.mono HTV.out.2.2.2.size))
          refine (HKA.out _).mono ?_
          rintro e Y ⟨rfl, hbY⟩
          have hbZ : Below V1.heap.size V1 Y := hbX.trans (hbY.mono hbX.size)
          have hr4 := keptW hbZ HTV.out.1.2.2.2.1
          have hc4 := (rowN_cell hr4).1 0
          have hf4 := (rowN_cell hr4).2 0
          have HR4 := Lib.hid hr4
          have HD1 := Lib.hid ((hbZ.block D1 hDV).trans HKD.out)
          have hd0 := HTV.out.2.2.1 D0 (by simp)
          have HD0 := Lib.hid ((hbZ.block D0 (Array.getElem?_eq_some_iff.1 hd0.2).1).trans hd0.2)
          have HBY := Lib.hid (HBX.out.trans (hbY.mono HBX.out.size))
          clear hX hbX hbY hbZ hr4 hd0 HBX HTV HKD h11
          go_wp2_with fail
          have hw0 := HDW.out
          have hU1s : g10b < U1.heap.size := rowN_lt HT_2.out.1
          have hw1 := HG910.out
          have n0 : D0 ≠ w.heap.size + 1 := by omega
          have n1 : D1 ≠ w.heap.size + 1 := by omega
          have n01 : D0 ≠ D1 := by omega
          refine ⟨by simp, .inl ⟨_, _, rfl, run_takeDeferred ((Below.heap_setCell _ _ _ D1 (by show D1 ≠ w.heap.size + 1; exact n1)).trans HD1.out), ?_⟩⟩
          refine ⟨by simp, .inl ⟨_, _, rfl, run_takeDeferred ((World.putObj_heap_other n01).trans ((Below.heap_setCell _ _ _ D0 (by show D0 ≠ w.heap.size + 1; exact n0)).trans HD0.out)), ?_⟩⟩
          refine ⟨_, results_bool (w.heap.size + 1) true rfl rfl (by rw [rowN_putObj (fun e => n0 e.symm), rowN_putObj (fun e => n1 e.symm)]; exact row_set0 HR4.out), rfl, ?_⟩
          have hb := HBY.out.setCell (p := ⟨w.heap.size + 1, 0, none⟩) (by show w.heap.size ≤ w.heap.size + 1; omega) (.bool true)
          exact (hb.grown (grownBy_putObj' _ D1 _) hb.size (fun r e => by cases e; omega)).grown (grownBy_putObj' _ D0 _) (by simp; exact HBY.out.size) (fun r e => by cases e; omega)
        case stop_2 => as_aux_lemma =>
          rintro D k c V hD hk hx hK
          exact hx.elim
end Go.Proofs.YtfmmokcniechcaaDoor
