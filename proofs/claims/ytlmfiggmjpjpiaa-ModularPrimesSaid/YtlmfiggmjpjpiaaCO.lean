/- ModularPrimes, walked. -/
import Derived.Test.YtlmfiggmjpjpiaaCN
import Derived.Deep.RegionHeld3
import Derived.Deep.DeepCutAuto
namespace Go.Proofs.Ytlmfiggmjpjpiaa
open Go.RowKit Go.Shelf

set_option linter.unusedVariables false
attribute [local go_sem] Oper.semAt_some

attribute [local go_sem] run_seq2_nil

theorem results_bool4 {fn : Func} {p : Tmp} (tmps : Array Value) {w : World} (g : Nat) {b : Bool} (h : fn.results = #[.cell p 4])
    (hp : tmps.getD p undef = .pointer (some ⟨g, 0, none⟩)) (hr : rowN w g = some #[.bool b]) : (results fn tmps).run Try.prog w = .ok (.bool b) w := by
  have hp' : tmps[p]?.getD undef = .pointer (some ⟨g, 0, none⟩) := by simpa using hp
  have hc := (rowN_cell hr).1 0
  simp [results, h, hp', asAddr, hc, go_sem]

/-- What holds between two factors. -/
def PmI (v : Nat) (bK bL bQ : Nat) (Wb : World) (pre : List (FP v)) (W : World) : Prop :=
  (GoodF pre ∧ rowN W bK = some #[.int .i64 (pre.length : Nat)] ∧ rowN W bL = some #[.int .i64 (lastF (vals pre) : Nat)] ∧ rowN W bQ = some #[.int .i64 (restF v (vals pre) : Nat)]) ∧ Below Wb.heap.size Wb W
def PmX (v : Nat) (tt : Int) (Wb : World) (c : Code) (pre : List (FP v)) (W : World) : Prop :=
  (∃ pre' x, pre = pre' ++ [x] ∧ ¬ lastF (vals pre') < x.1.1) ∨ ((c = .exit 2 ∧ tt = 0) ∧ Below Wb.heap.size Wb W)
def PmL (xp xe s kk lst : Nat) (bK bL bQ : Nat) (Wb W : World) (si : Value) (wr : World) : Prop :=
  ∃ i : Nat, i ≤ xe ∧ si = .int .i64 (i : Nat) ∧ rowN wr bQ = some #[.int .i64 ((xp ^ (xe - i) * s : Nat))] ∧ rowN wr bK = some #[.int .i64 (kk : Nat)] ∧ rowN wr bL = some #[.int .i64 (lst : Nat)] ∧ Below Wb.heap.size Wb wr ∧ KeepsOthers W wr
def PzI (z : Int) (bK bL bQ : Nat) (Wb : World) (pre : List (FP 0)) (W : World) : Prop :=
  (pre = [] ∧ rowN W bQ = some #[.int .i64 z]) ∧ Below Wb.heap.size Wb W
def PzX (_ : Code) (_ : List (FP 0)) (_ : World) : Prop := False

theorem pmI_own {v bK bL bQ B : Nat} {Wb : World} (h : Wb.heap.size ≤ B) : OwnFrom B (PmI v bK bL bQ Wb) :=
  OwnFrom.and (Own.from (fun _ _ _ _ hs hg hr => ⟨hs.1, row_kept hs.2.1 hg hr, row_kept hs.2.2.1 hg hr, row_kept hs.2.2.2 hg hr⟩) _) (ownFrom_below (Nat.le_refl _) h)
theorem pzI_own {z : Int} {bK bL bQ B : Nat} {Wb : World} (h : Wb.heap.size ≤ B) : OwnFrom B (PzI z bK bL bQ Wb) :=
  OwnFrom.and (Own.from (fun _ _ _ _ hs hg hr => ⟨hs.1, row_kept hs.2 hg hr⟩) _) (ownFrom_below (Nat.le_refl _) h)
theorem pmX_own {v B : Nat} {tt : Int} {Wb : World} (h : Wb.heap.size ≤ B) (c : Code) : OwnFrom B (PmX v tt Wb c) := by
  intro s X Y row hs hg hr
  rcases hs with hs | ⟨h1, hb⟩
  · exact .inl hs
  · exact .inr ⟨h1, hb.grown hg hb.size (fun k e => Nat.le_trans h (hr k e).1)⟩
theorem pzX_own {B : Nat} (c : Code) : OwnFrom B (PzX c) := fun _ _ _ _ hs _ _ => hs.elim
theorem pmI_start {v bK bL bQ : Nat} {Wb W : World} (hK : rowN W bK = some #[.int .i64 0]) (hL : rowN W bL = some #[.int .i64 1]) (hQ : rowN W bQ = some #[.int .i64 (v : Nat)]) (hB : Below Wb.heap.size Wb W) : PmI v bK bL bQ Wb [] W :=
  ⟨⟨goodF_nil v, hK, hL, by rw [show vals ([] : List (FP v)) = [] from rfl, restF_nil]; exact hQ⟩, hB⟩
theorem pmI_next {v bK bL bQ kk xp s : Nat} {kz : Int} {Wb wr : World} {pre : List (FP v)} {x : FP v} (hg : GoodF pre) (hx : lastF (vals pre) < x.1.1) (hxp : x.1.1 = xp) (hr : restF v (vals (pre ++ [x])) = s) (hk : pre.length = kk) (hkz : kz = (kk : Int) + 1)
    (hQ : rowN wr bQ = some #[.int .i64 (s : Nat)]) (hK : rowN wr bK = some #[.int .i64 (kk : Nat)]) (hL : ∃ y, rowN wr bL = some #[y]) (hB : Below Wb.heap.size Wb wr) (n1 : bK ≠ bL) (n2 : bQ ≠ bL) (n3 : bQ ≠ bK) (n4 : Wb.heap.size ≤ bK) (n5 : Wb.heap.size ≤ bL) :
    PmI v bK bL bQ Wb (pre ++ [x]) ((wr.setCell ⟨bL, 0, none⟩ (.int .i64 (xp : Nat))).setCell ⟨bK, 0, none⟩ (.int .i64 kz)) := by
  obtain ⟨y, hL⟩ := hL
  refine ⟨⟨goodF_step hg hx, ?_, ?_, ?_⟩, (hB.setCell (p := ⟨bL, 0, none⟩) n5 _).setCell (p := ⟨bK, 0, none⟩) n4 _⟩
  · rw [row_set0 (row_cell0 hK n1), List.length_append, hk, hkz]; rfl
  · rw [vals_snoc, lastF_snoc, hxp]; exact row_cell0 (row_set0 hL) (fun e => n1 e.symm)
  · rw [hr]; exact row_cell0 (row_cell0 hQ n2) n3
theorem pm_brk {bK bL : Nat} {Wb wr : World} {y z : Value} (hB : Below Wb.heap.size Wb wr) (n4 : Wb.heap.size ≤ bK) (n5 : Wb.heap.size ≤ bL) : (Code.exit 2 = .exit 2 ∧ (0 : Int) = 0) ∧ Below Wb.heap.size Wb ((wr.setCell ⟨bL, 0, none⟩ y).setCell ⟨bK, 0, none⟩ z) :=
  ⟨⟨rfl, rfl⟩, (hB.setCell (p := ⟨bL, 0, none⟩) n5 _).setCell (p := ⟨bK, 0, none⟩) n4 _⟩
theorem pmL_step {xp xe s kk lst bK bL bQ i : Nat} {Wb W wr : World} {z : Int} (hi : i < xe) (hz : z = ((xp ^ (xe - (i + 1)) * s : Nat) : Int)) (hQ : ∃ y, rowN wr bQ = some #[y]) (hK : rowN wr bK = some #[.int .i64 (kk : Nat)]) (hL : rowN wr bL = some #[.int .i64 (lst : Nat)]) (hB : Below Wb.heap.size Wb wr) (hKO : KeepsOthers W wr)
    (n1 : bK ≠ bQ) (n2 : bL ≠ bQ) (n3 : Wb.heap.size ≤ bQ) : PmL xp xe s kk lst bK bL bQ Wb W (.int .i64 ((i : Int) + 1)) (wr.setCell ⟨bQ, 0, none⟩ (.int .i64 z)) := by
  obtain ⟨y, hQ⟩ := hQ
  refine ⟨i + 1, by omega, by simp, ?_, row_cell0 hK n1, row_cell0 hL n2, hB.setCell (p := ⟨bQ, 0, none⟩) n3 _, hKO.trans (KeepsOthers.setCell _ _ _)⟩
  rw [row_set0 hQ, hz]
theorem pow_pred {xp e s : Nat} (h : 0 < e) : xp ^ e * s = xp * (xp ^ (e - 1) * s) := by
  obtain ⟨k, rfl⟩ : ∃ k, e = k + 1 := ⟨e - 1, by omega⟩
  rw [Nat.pow_succ, Nat.add_sub_cancel]; ac_rfl

/-- Behind the last call: the two records are taken up, and nothing that was there has turned. -/
theorem pm_end {w W9 W wK : World} {D0 D1 bR : Nat} (h9 : Below w.heap.size w W9) (hB : Below W9.heap.size W9 W) (hK : Below W.heap.size W wK) (hd0 : W9.heap[D0]? = some (.deferred (some [])))
    (hd1 : W.heap[D1]? = some (.deferred (some []))) (hD1 : W9.heap.size ≤ D1) (hD0 : w.heap.size ≤ D0) (hbR : w.heap.size ≤ bR) (hR : rowN wK bR = some #[.bool false]) :
    (wK.setCell ⟨bR, 0, none⟩ (.bool true)).heap[D1]? = some (.deferred (some [])) ∧
    ((wK.setCell ⟨bR, 0, none⟩ (.bool true)).putObj D1 (.deferred none)).heap[D0]? = some (.deferred (some [])) ∧
    rowN (((wK.setCell ⟨bR, 0, none⟩ (.bool true)).putObj D1 (.deferred none)).putObj D0 (.deferred none)) bR = some #[.bool true] ∧
    Below w.heap.size w (((wK.setCell ⟨bR, 0, none⟩ (.bool true)).putObj D1 (.deferred none)).putObj D0 (.deferred none)) := by
  have l0 := (Array.getElem?_eq_some_iff.1 hd0).1
  have l1 := (Array.getElem?_eq_some_iff.1 hd1).1
  have a0 : wK.heap[D0]? = some (.deferred (some [])) := ((hK.block D0 (Nat.lt_of_lt_of_le l0 hB.size)).trans (hB.block D0 l0)).trans hd0
  have a1 : wK.heap[D1]? = some (.deferred (some [])) := (hK.block D1 l1).trans hd1
  have n0 : D0 ≠ bR := by
    rintro rfl
    obtain ⟨t, ht⟩ := rowN_some hR
    rw [a0] at ht; cases ht
  have n1 : D1 ≠ bR := by
    rintro rfl
    obtain ⟨t, ht⟩ := rowN_some hR
    rw [a1] at ht; cases ht
  have b0 : (wK.setCell ⟨bR, 0, none⟩ (.bool true)).heap[D0]? = some (.deferred (some [])) := (Below.heap_setCell wK _ _ _ n0).trans a0
  have b1 : (wK.setCell ⟨bR, 0, none⟩ (.bool true)).heap[D1]? = some (.deferred (some [])) := (Below.heap_setCell wK _ _ _ n1).trans a1
  have c0 : ((wK.setCell ⟨bR, 0, none⟩ (.bool true)).putObj D1 (.deferred none)).heap[D0]? = some (.deferred (some [])) := (World.putObj_heap_other (by omega)).trans b0
  have hall : Below w.heap.size w wK := h9.trans ((hB.trans (hK.mono hB.size)).mono h9.size)
  have hset : Below w.heap.size w (wK.setCell ⟨bR, 0, none⟩ (.bool true)) := hall.setCell (p := ⟨bR, 0, none⟩) hbR _
  have s0 : w.heap.size ≤ W9.heap.size := h9.size
  have hp1 : Below w.heap.size w ((wK.setCell ⟨bR, 0, none⟩ (.bool true)).putObj D1 (.deferred none)) := hset.grown (grownBy_putObj' _ D1 (.deferred none)) hset.size (fun k e => by cases e; omega)
  refine ⟨b1, c0, ?_, ?_⟩
  · refine row_kept (row_kept (row_set0 hR) (grownBy_putObj' _ D1 (.deferred none)) ?_) (grownBy_putObj' _ D0 (.deferred none)) ?_
    · rintro k e; cases e; exact ⟨_, b1, rfl⟩
    · rintro k e; cases e; exact ⟨_, c0, rfl⟩
  · exact hp1.grown (grownBy_putObj' _ D0 (.deferred none)) hp1.size (fun k e => by cases e; omega)

set_option maxRecDepth 100000 in
set_option maxHeartbeats 4000000 in
theorem pm_reg10 {W : World} {Q : Exit → Act → World → Prop} {df : List Deferred} {s0 s1 s3 s4 s5 s6 s7 s8 s9 s10 s11 s12 s13 s14 s15 s16 s17 s18 s19 s20 s21 s22 s23 s24 s25 s26 s27 s28 s29 s30 s31 s32 s33 s34 s35 s36 s37 s38 s39 s40 s41 s42 s43 s44 s45 s46 s47 s48 s49 s50 s51 s52 s53 s54 s55 s56 s57 s58 s59 s60 s61 s62 s63 s64 s65 s66 s67 s68 s69 s70 s71 s72 s73 s74 s75 s76 s77 s78 s79 s80 s81 s82 s83 s84 s85 s86 s87 s88 s89 s90 s91 s92 s93 s94 s95 s96 s97 s98 s99 s100 s101 s102 s103 s104 s105 s106 s107 s108 s109 s110 s111 s112 s113 s114 s115 s116 s117 s118 s119 s120 s121 s122 s123 s124 s125 s126 s127 s128 s129 s130 s131 s132 : Value} {gv : Nat} {z : Int}
    (R_v : Go.RowKit.Hid (rowN W gv = some #[.int .i64 z]))
    (hQ : ∀ (bK bL bQ : Nat) (u35 : Value) (wx : World), bK ≠ bL → bQ ≠ bL → bQ ≠ bK → W.heap.size ≤ bK → W.heap.size ≤ bL → W.heap.size ≤ bQ → rowN wx bK = some #[.int .i64 0] → rowN wx bL = some #[.int .i64 1] → rowN wx bQ = some #[.int .i64 z] → Below W.heap.size W wx → Q .normal ⟨#[s0, s1, .pointer (some ⟨gv, 0, none⟩), s3, s4, s5, s6, s7, s8, .pointer (some ⟨bK, 0, none⟩), .pointer (some ⟨bL, 0, none⟩), .pointer (some ⟨bQ, 0, none⟩), s12, s13, s14, s15, s16, s17, s18, s19, s20, s21, s22, s23, s24, s25, s26, s27, s28, s29, s30, s31, s32, s33, s34, u35, s36, s37, s38, s39, s40, s41, s42, s43, s44, s45, s46, s47, s48, s49, s50, s51, s52, s53, s54, s55, s56, s57, s58, s59, s60, s61, s62, s63, s64, s65, s66, s67, s68, s69, s70, s71, s72, s73, s74, s75, s76, s77, s78, s79, s80, s81, s82, s83, s84, s85, s86, s87, s88, s89, s90, s91, s92, s93, s94, s95, s96, s97, s98, s99, s100, s101, s102, s103, s104, s105, s106, s107, s108, s109, s110, s111, s112, s113, s114, s115, s116, s117, s118, s119, s120, s121, s122, s123, s124, s125, s126, s127, s128, s129, s130, s131, s132], df⟩ wx) :
    Code.wp Try.prog (Code.region 10 #[{ dst := some 35, op := Op.load 3 (Operand.tmp 2), type := 3, pos := "law.go:136", after := #[{ on := 5, ground := Ground.gcOnly Departure.lateStores }], guard := none }, { dst := some 9, op := Op.alloc 3, type := 0, pos := "law.go:136", after := #[], guard := none }, { dst := some 10, op := Op.alloc 3, type := 0, pos := "law.go:136", after := #[], guard := none }, { dst := some 11, op := Op.alloc 3, type := 0, pos := "law.go:136", after := #[], guard := none }, { dst := none, op := Op.store 3 (Operand.tmp 9) (Operand.const (Value.int IntKind.i64 0)), type := 0, pos := "law.go:136", after := #[{ on := 1, ground := Ground.data }, { on := 0, ground := Ground.textOnly Departure.lateStores }, { on := 1, ground := Ground.phase }, { on := 2, ground := Ground.phase }, { on := 3, ground := Ground.phase }], guard := none }, { dst := none, op := Op.store 3 (Operand.tmp 10) (Operand.const (Value.int IntKind.i64 1)), type := 0, pos := "law.go:136", after := #[{ on := 2, ground := Ground.data }, { on := 4, ground := Ground.chain }, { on := 0, ground := Ground.textOnly Departure.lateStores }, { on := 1, ground := Ground.phase }, { on := 2, ground := Ground.phase }, { on := 3, ground := Ground.phase }, { on := 4, ground := Ground.phase }], guard := none }, { dst := none, op := Op.store 3 (Operand.tmp 11) (Operand.tmp 35), type := 0, pos := "law.go:136", after := #[{ on := 3, ground := Ground.data }, { on := 0, ground := Ground.data }, { on := 5, ground := Ground.chain }, { on := 0, ground := Ground.phase }, { on := 1, ground := Ground.phase }, { on := 2, ground := Ground.phase }, { on := 3, ground := Ground.phase }, { on := 4, ground := Ground.phase }, { on := 5, ground := Ground.phase }], guard := none }] true) Q ⟨#[s0, s1, .pointer (some ⟨gv, 0, none⟩), s3, s4, s5, s6, s7, s8, s9, s10, s11, s12, s13, s14, s15, s16, s17, s18, s19, s20, s21, s22, s23, s24, s25, s26, s27, s28, s29, s30, s31, s32, s33, s34, s35, s36, s37, s38, s39, s40, s41, s42, s43, s44, s45, s46, s47, s48, s49, s50, s51, s52, s53, s54, s55, s56, s57, s58, s59, s60, s61, s62, s63, s64, s65, s66, s67, s68, s69, s70, s71, s72, s73, s74, s75, s76, s77, s78, s79, s80, s81, s82, s83, s84, s85, s86, s87, s88, s89, s90, s91, s92, s93, s94, s95, s96, s97, s98, s99, s100, s101, s102, s103, s104, s105, s106, s107, s108, s109, s110, s111, s112, s113, s114, s115, s116, s117, s118, s119, s120, s121, s122, s123, s124, s125, s126, s127, s128, s129, s130, s131, s132], df⟩ W := by
  have HQ := Lib.hid hQ
  clear hQ
  have Hv_0 := Lib.hid (show rowN W.drew gv = some #[.int .i64 z] from R_v.out)
  have HL_0 := Lib.hid (show Below W.heap.size W W.drew from (Below.refl _ W).drew)
  clear R_v
  refine wp_region_noPanic ?_
  refine wp_region_held_drew (S := fun W => rowN W gv = some #[.int .i64 z]) (by kernel_rfl) Hv_0.out (fun hHeld0 => ?_)
  obtain ⟨x0, hx0⟩ : ∃ X, W.drew = X := ⟨_, rfl⟩
  rw [hx0] at Hv_0 HL_0 hHeld0 ⊢
  clear hx0
  refine wpAnyH_take (i := 0) (oi := { dst := some 35, op := Op.load 3 (Operand.tmp 2), type := 3, pos := "law.go:136", after := #[{ on := 5, ground := Ground.gcOnly Departure.lateStores }], guard := none }) (v := .int .i64 z) rfl (by kernel_rfl) (by kernel_rfl) (by kernel_rfl) (fun _ _ _ h => h) (Or.inl ⟨by rfl, fun W hW => ?_⟩) hHeld0 ?_
  · (have hW1 := (rowN_cell hW).1 0; clear hW; go_simp)
  try simp only [Act.put, List.setIfInBounds_toArray, List.set_cons_zero, List.set_cons_succ]
  refine wpAnyH_ready (rs := [1, 2, 3]) (by kernel_rfl) (by simp) ?_
  refine AllReadyH.cons (o := { dst := some 9, op := Op.alloc 3, type := 0, pos := "law.go:136", after := #[], guard := none }) rfl (fun K' hK => ?_) ?_
  · go_simp
    obtain ⟨x1, hx1⟩ : ∃ X, x0.alloc (.cells #[.int .i64 0] 3) = X := ⟨_, rfl⟩
    have hb : Below x0.heap.size x0 x1 := by rw [← hx1]; exact (Below.refl _ _).alloc (Nat.le_refl _) _
    have Hv_1 := Lib.hid (keptW hb Hv_0.out)
    have HL_1 := Lib.hid (HL_0.out.trans (hb.mono HL_0.out.size))
    have hnew : rowN x1 x0.heap.size = some #[.int .i64 0] := by rw [← hx1, rowN_alloc, if_pos rfl]
    have hgeK : W.heap.size ≤ x0.heap.size := HL_0.out.size
    have hlv_K := rowN_lt Hv_0.out
    rw [hx1]
    obtain ⟨gK, hgK⟩ : ∃ g, x0.heap.size = g := ⟨_, rfl⟩
    rw [hgK] at hnew hgeK hlv_K ⊢
    have HK_1 := Lib.hid hnew
    clear hb hnew hgK hx1
    refine hK.out _ _ Hv_1.out (fun hHeld1 => ?_)
    clear hK K'
    try simp only [Act.put, List.setIfInBounds_toArray, List.set_cons_zero, List.set_cons_succ]
    refine wpAnyH_ready (rs := [2, 3]) (by kernel_rfl) (by simp) ?_
    refine AllReadyH.cons (o := { dst := some 10, op := Op.alloc 3, type := 0, pos := "law.go:136", after := #[], guard := none }) rfl (fun K' hK => ?_) ?_
    · go_simp
      obtain ⟨x2, hx2⟩ : ∃ X, x1.alloc (.cells #[.int .i64 0] 3) = X := ⟨_, rfl⟩
      have hb : Below x1.heap.size x1 x2 := by rw [← hx2]; exact (Below.refl _ _).alloc (Nat.le_refl _) _
      have Hv_2 := Lib.hid (keptW hb Hv_1.out)
      have HK_2 := Lib.hid (keptW hb HK_1.out)
      have HL_2 := Lib.hid (HL_1.out.trans (hb.mono HL_1.out.size))
      have hnew : rowN x2 x1.heap.size = some #[.int .i64 0] := by rw [← hx2, rowN_alloc, if_pos rfl]
      have hgeL_ : W.heap.size ≤ x1.heap.size := HL_1.out.size
      have hlv_L_ := rowN_lt Hv_1.out
      have hlK_L_ := rowN_lt HK_1.out
      rw [hx2]
      obtain ⟨gL, hgL⟩ : ∃ g, x1.heap.size = g := ⟨_, rfl⟩
      rw [hgL] at hnew hgeL_ hlv_L_ hlK_L_ ⊢
      have HL__2 := Lib.hid hnew
      clear hb hnew hgL hx2
      refine hK.out _ _ Hv_2.out (fun hHeld2 => ?_)
      clear hK K'
      try simp only [Act.put, List.setIfInBounds_toArray, List.set_cons_zero, List.set_cons_succ]
      refine wpAnyH_ready (rs := [3]) (by kernel_rfl) (by simp) ?_
      refine AllReadyH.cons (o := { dst := some 11, op := Op.alloc 3, type := 0, pos := "law.go:136", after := #[], guard := none }) rfl (fun K' hK => ?_) AllReadyH.nil
      go_simp
      obtain ⟨x3, hx3⟩ : ∃ X, x2.alloc (.cells #[.int .i64 0] 3) = X := ⟨_, rfl⟩
      have hb : Below x2.heap.size x2 x3 := by rw [← hx3]; exact (Below.refl _ _).alloc (Nat.le_refl _) _
      have Hv_3 := Lib.hid (keptW hb Hv_2.out)
      have HK_3 := Lib.hid (keptW hb HK_2.out)
      have HL__3 := Lib.hid (keptW hb HL__2.out)
      have HL_3 := Lib.hid (HL_2.out.trans (hb.mono HL_2.out.size))
      have hnew : rowN x3 x2.heap.size = some #[.int .i64 0] := by rw [← hx3, rowN_alloc, if_pos rfl]
      have hgeQ_ : W.heap.size ≤ x2.heap.size := HL_2.out.size
      have hlv_Q_ := rowN_lt Hv_2.out
      have hlK_Q_ := rowN_lt HK_2.out
      have hlL__Q_ := rowN_lt HL__2.out
      rw [hx3]
      obtain ⟨gQ, hgQ⟩ : ∃ g, x2.heap.size = g := ⟨_, rfl⟩
      rw [hgQ] at hnew hgeQ_ hlv_Q_ hlK_Q_ hlL__Q_ ⊢
      have HQ__3 := Lib.hid hnew
      clear hb hnew hgQ hx3
      refine hK.out _ _ Hv_3.out (fun hHeld3 => ?_)
      clear hK K'
      try simp only [Act.put, List.setIfInBounds_toArray, List.set_cons_zero, List.set_cons_succ]
      refine wpAnyH_ready (rs := [4]) (by kernel_rfl) (by simp) ?_
      refine AllReadyH.cons (o := { dst := none, op := Op.store 3 (Operand.tmp 9) (Operand.const (Value.int IntKind.i64 0)), type := 0, pos := "law.go:136", after := #[{ on := 1, ground := Ground.data }, { on := 0, ground := Ground.textOnly Departure.lateStores }, { on := 1, ground := Ground.phase }, { on := 2, ground := Ground.phase }, { on := 3, ground := Ground.phase }], guard := none }) rfl (fun K' hK => ?_) AllReadyH.nil
      have hc1 := (rowN_cell HK_3.out).1 0
      have hf1 := (rowN_cell HK_3.out).2 0
      go_simp
      obtain ⟨x4, hx4⟩ : ∃ X, x3.setCell ⟨gK, 0, none⟩ (.int .i64 0) = X := ⟨_, rfl⟩
      rw [hx4]
      have Hv_4 := Lib.hid (show rowN x4 gv = some #[.int .i64 z] by rw [← hx4]; exact row_cell0 Hv_3.out (by omega))
      have HL__4 := Lib.hid (show rowN x4 gL = some #[.int .i64 0] by rw [← hx4]; exact row_cell0 HL__3.out (by omega))
      have HQ__4 := Lib.hid (show rowN x4 gQ = some #[.int .i64 0] by rw [← hx4]; exact row_cell0 HQ__3.out (by omega))
      have HK_4 := Lib.hid (show rowN x4 gK = some #[.int .i64 0] by rw [← hx4]; exact row_set0 HK_3.out)
      have hbl : Below W.heap.size W x4 := by rw [← hx4]; exact HL_3.out.setCell (p := ⟨gK, 0, none⟩) (by show W.heap.size ≤ gK; omega) _
      have HL_4 := Lib.hid hbl
      clear hc1 hf1 hbl hx4
      refine hK.out _ _ Hv_4.out (fun hHeld4 => ?_)
      clear hK K'
      try simp only [Act.put, List.setIfInBounds_toArray, List.set_cons_zero, List.set_cons_succ]
      refine wpAnyH_ready (rs := [5]) (by kernel_rfl) (by simp) ?_
      refine AllReadyH.cons (o := { dst := none, op := Op.store 3 (Operand.tmp 10) (Operand.const (Value.int IntKind.i64 1)), type := 0, pos := "law.go:136", after := #[{ on := 2, ground := Ground.data }, { on := 4, ground := Ground.chain }, { on := 0, ground := Ground.textOnly Departure.lateStores }, { on := 1, ground := Ground.phase }, { on := 2, ground := Ground.phase }, { on := 3, ground := Ground.phase }, { on := 4, ground := Ground.phase }], guard := none }) rfl (fun K' hK => ?_) AllReadyH.nil
      have hc1 := (rowN_cell HL__4.out).1 0
      have hf1 := (rowN_cell HL__4.out).2 0
      go_simp
      obtain ⟨x5, hx5⟩ : ∃ X, x4.setCell ⟨gL, 0, none⟩ (.int .i64 1) = X := ⟨_, rfl⟩
      rw [hx5]
      have Hv_5 := Lib.hid (show rowN x5 gv = some #[.int .i64 z] by rw [← hx5]; exact row_cell0 Hv_4.out (by omega))
      have HK_5 := Lib.hid (show rowN x5 gK = some #[.int .i64 0] by rw [← hx5]; exact row_cell0 HK_4.out (by omega))
      have HQ__5 := Lib.hid (show rowN x5 gQ = some #[.int .i64 0] by rw [← hx5]; exact row_cell0 HQ__4.out (by omega))
      have HL__5 := Lib.hid (show rowN x5 gL = some #[.int .i64 1] by rw [← hx5]; exact row_set0 HL__4.out)
      have hbl : Below W.heap.size W x5 := by rw [← hx5]; exact HL_4.out.setCell (p := ⟨gL, 0, none⟩) (by show W.heap.size ≤ gL; omega) _
      have HL_5 := Lib.hid hbl
      clear hc1 hf1 hbl hx5
      refine hK.out _ _ Hv_5.out (fun hHeld5 => ?_)
      clear hK K'
      try simp only [Act.put, List.setIfInBounds_toArray, List.set_cons_zero, List.set_cons_succ]
      refine wpAnyH_ready (rs := [6]) (by kernel_rfl) (by simp) ?_
      refine AllReadyH.cons (o := { dst := none, op := Op.store 3 (Operand.tmp 11) (Operand.tmp 35), type := 0, pos := "law.go:136", after := #[{ on := 3, ground := Ground.data }, { on := 0, ground := Ground.data }, { on := 5, ground := Ground.chain }, { on := 0, ground := Ground.phase }, { on := 1, ground := Ground.phase }, { on := 2, ground := Ground.phase }, { on := 3, ground := Ground.phase }, { on := 4, ground := Ground.phase }, { on := 5, ground := Ground.phase }], guard := none }) rfl (fun K' hK => ?_) AllReadyH.nil
      have hc1 := (rowN_cell HQ__5.out).1 0
      have hf1 := (rowN_cell HQ__5.out).2 0
      go_simp
      obtain ⟨x6, hx6⟩ : ∃ X, x5.setCell ⟨gQ, 0, none⟩ (.int .i64 z) = X := ⟨_, rfl⟩
      rw [hx6]
      have Hv_6 := Lib.hid (show rowN x6 gv = some #[.int .i64 z] by rw [← hx6]; exact row_cell0 Hv_5.out (by omega))
      have HK_6 := Lib.hid (show rowN x6 gK = some #[.int .i64 0] by rw [← hx6]; exact row_cell0 HK_5.out (by omega))
      have HL__6 := Lib.hid (show rowN x6 gL = some #[.int .i64 1] by rw [← hx6]; exact row_cell0 HL__5.out (by omega))
      have HQ__6 := Lib.hid (show rowN x6 gQ = some #[.int .i64 z] by rw [← hx6]; exact row_set0 HQ__5.out)
      have hbl : Below W.heap.size W x6 := by rw [← hx6]; exact HL_5.out.setCell (p := ⟨gQ, 0, none⟩) (by show W.heap.size ≤ gQ; omega) _
      have HL_6 := Lib.hid hbl
      clear hc1 hf1 hbl hx6
      refine hK.out _ _ Hv_6.out (fun hHeld6 => ?_)
      clear hK K'
      try simp only [Act.put, List.setIfInBounds_toArray, List.set_cons_zero, List.set_cons_succ]
      refine wpAnyH_done (by kernel_rfl) ?_ _
      refine NoPanic.normal ?_
      exact HQ.out gK gL gQ _ _ (by omega) (by omega) (by omega) (by omega) (by omega) (by omega) HK_6.out HL__6.out HQ__6.out HL_6.out
    refine AllReadyH.cons (o := { dst := some 11, op := Op.alloc 3, type := 0, pos := "law.go:136", after := #[], guard := none }) rfl (fun K' hK => ?_) AllReadyH.nil
    go_simp
    obtain ⟨x2, hx2⟩ : ∃ X, x1.alloc (.cells #[.int .i64 0] 3) = X := ⟨_, rfl⟩
    have hb : Below x1.heap.size x1 x2 := by rw [← hx2]; exact (Below.refl _ _).alloc (Nat.le_refl _) _
    have Hv_2 := Lib.hid (keptW hb Hv_1.out)
    have HK_2 := Lib.hid (keptW hb HK_1.out)
    have HL_2 := Lib.hid (HL_1.out.trans (hb.mono HL_1.out.size))
    have hnew : rowN x2 x1.heap.size = some #[.int .i64 0] := by rw [← hx2, rowN_alloc, if_pos rfl]
    have hgeQ_ : W.heap.size ≤ x1.heap.size := HL_1.out.size
    have hlv_Q_ := rowN_lt Hv_1.out
    have hlK_Q_ := rowN_lt HK_1.out
    rw [hx2]
    obtain ⟨gQ, hgQ⟩ : ∃ g, x1.heap.size = g := ⟨_, rfl⟩
    rw [hgQ] at hnew hgeQ_ hlv_Q_ hlK_Q_ ⊢
    have HQ__2 := Lib.hid hnew
    clear hb hnew hgQ hx2
    refine hK.out _ _ Hv_2.out (fun hHeld2 => ?_)
    clear hK K'
    try simp only [Act.put, List.setIfInBounds_toArray, List.set_cons_zero, List.set_cons_succ]
    refine wpAnyH_ready (rs := [2]) (by kernel_rfl) (by simp) ?_
    refine AllReadyH.cons (o := { dst := some 10, op := Op.alloc 3, type := 0, pos := "law.go:136", after := #[], guard := none }) rfl (fun K' hK => ?_) AllReadyH.nil
    go_simp
    obtain ⟨x3, hx3⟩ : ∃ X, x2.alloc (.cells #[.int .i64 0] 3) = X := ⟨_, rfl⟩
    have hb : Below x2.heap.size x2 x3 := by rw [← hx3]; exact (Below.refl _ _).alloc (Nat.le_refl _) _
    have Hv_3 := Lib.hid (keptW hb Hv_2.out)
    have HK_3 := Lib.hid (keptW hb HK_2.out)
    have HQ__3 := Lib.hid (keptW hb HQ__2.out)
    have HL_3 := Lib.hid (HL_2.out.trans (hb.mono HL_2.out.size))
    have hnew : rowN x3 x2.heap.size = some #[.int .i64 0] := by rw [← hx3, rowN_alloc, if_pos rfl]
    have hgeL_ : W.heap.size ≤ x2.heap.size := HL_2.out.size
    have hlv_L_ := rowN_lt Hv_2.out
    have hlK_L_ := rowN_lt HK_2.out
    have hlQ__L_ := rowN_lt HQ__2.out
    rw [hx3]
    obtain ⟨gL, hgL⟩ : ∃ g, x2.heap.size = g := ⟨_, rfl⟩
    rw [hgL] at hnew hgeL_ hlv_L_ hlK_L_ hlQ__L_ ⊢
    have HL__3 := Lib.hid hnew
    clear hb hnew hgL hx3
    refine hK.out _ _ Hv_3.out (fun hHeld3 => ?_)
    clear hK K'
    try simp only [Act.put, List.setIfInBounds_toArray, List.set_cons_zero, List.set_cons_succ]
    refine wpAnyH_ready (rs := [4]) (by kernel_rfl) (by simp) ?_
    refine AllReadyH.cons (o := { dst := none, op := Op.store 3 (Operand.tmp 9) (Operand.const (Value.int IntKind.i64 0)), type := 0, pos := "law.go:136", after := #[{ on := 1, ground := Ground.data }, { on := 0, ground := Ground.textOnly Departure.lateStores }, { on := 1, ground := Ground.phase }, { on := 2, ground := Ground.phase }, { on := 3, ground := Ground.phase }], guard := none }) rfl (fun K' hK => ?_) AllReadyH.nil
    have hc1 := (rowN_cell HK_3.out).1 0
    have hf1 := (rowN_cell HK_3.out).2 0
    go_simp
    obtain ⟨x4, hx4⟩ : ∃ X, x3.setCell ⟨gK, 0, none⟩ (.int .i64 0) = X := ⟨_, rfl⟩
    rw [hx4]
    have Hv_4 := Lib.hid (show rowN x4 gv = some #[.int .i64 z] by rw [← hx4]; exact row_cell0 Hv_3.out (by omega))
    have HQ__4 := Lib.hid (show rowN x4 gQ = some #[.int .i64 0] by rw [← hx4]; exact row_cell0 HQ__3.out (by omega))
    have HL__4 := Lib.hid (show rowN x4 gL = some #[.int .i64 0] by rw [← hx4]; exact row_cell0 HL__3.out (by omega))
    have HK_4 := Lib.hid (show rowN x4 gK = some #[.int .i64 0] by rw [← hx4]; exact row_set0 HK_3.out)
    have hbl : Below W.heap.size W x4 := by rw [← hx4]; exact HL_3.out.setCell (p := ⟨gK, 0, none⟩) (by show W.heap.size ≤ gK; omega) _
    have HL_4 := Lib.hid hbl
    clear hc1 hf1 hbl hx4
    refine hK.out _ _ Hv_4.out (fun hHeld4 => ?_)
    clear hK K'
    try simp only [Act.put, List.setIfInBounds_toArray, List.set_cons_zero, List.set_cons_succ]
    refine wpAnyH_ready (rs := [5]) (by kernel_rfl) (by simp) ?_
    refine AllReadyH.cons (o := { dst := none, op := Op.store 3 (Operand.tmp 10) (Operand.const (Value.int IntKind.i64 1)), type := 0, pos := "law.go:136", after := #[{ on := 2, ground := Ground.data }, { on := 4, ground := Ground.chain }, { on := 0, ground := Ground.textOnly Departure.lateStores }, { on := 1, ground := Ground.phase }, { on := 2, ground := Ground.phase }, { on := 3, ground := Ground.phase }, { on := 4, ground := Ground.phase }], guard := none }) rfl (fun K' hK => ?_) AllReadyH.nil
    have hc1 := (rowN_cell HL__4.out).1 0
    have hf1 := (rowN_cell HL__4.out).2 0
    go_simp
    obtain ⟨x5, hx5⟩ : ∃ X, x4.setCell ⟨gL, 0, none⟩ (.int .i64 1) = X := ⟨_, rfl⟩
    rw [hx5]
    have Hv_5 := Lib.hid (show rowN x5 gv = some #[.int .i64 z] by rw [← hx5]; exact row_cell0 Hv_4.out (by omega))
    have HK_5 := Lib.hid (show rowN x5 gK = some #[.int .i64 0] by rw [← hx5]; exact row_cell0 HK_4.out (by omega))
    have HQ__5 := Lib.hid (show rowN x5 gQ = some #[.int .i64 0] by rw [← hx5]; exact row_cell0 HQ__4.out (by omega))
    have HL__5 := Lib.hid (show rowN x5 gL = some #[.int .i64 1] by rw [← hx5]; exact row_set0 HL__4.out)
    have hbl : Below W.heap.size W x5 := by rw [← hx5]; exact HL_4.out.setCell (p := ⟨gL, 0, none⟩) (by show W.heap.size ≤ gL; omega) _
    have HL_5 := Lib.hid hbl
    clear hc1 hf1 hbl hx5
    refine hK.out _ _ Hv_5.out (fun hHeld5 => ?_)
    clear hK K'
    try simp only [Act.put, List.setIfInBounds_toArray, List.set_cons_zero, List.set_cons_succ]
    refine wpAnyH_ready (rs := [6]) (by kernel_rfl) (by simp) ?_
    refine AllReadyH.cons (o := { dst := none, op := Op.store 3 (Operand.tmp 11) (Operand.tmp 35), type := 0, pos := "law.go:136", after := #[{ on := 3, ground := Ground.data }, { on := 0, ground := Ground.data }, { on := 5, ground := Ground.chain }, { on := 0, ground := Ground.phase }, { on := 1, ground := Ground.phase }, { on := 2, ground := Ground.phase }, { on := 3, ground := Ground.phase }, { on := 4, ground := Ground.phase }, { on := 5, ground := Ground.phase }], guard := none }) rfl (fun K' hK => ?_) AllReadyH.nil
    have hc1 := (rowN_cell HQ__5.out).1 0
    have hf1 := (rowN_cell HQ__5.out).2 0
    go_simp
    obtain ⟨x6, hx6⟩ : ∃ X, x5.setCell ⟨gQ, 0, none⟩ (.int .i64 z) = X := ⟨_, rfl⟩
    rw [hx6]
    have Hv_6 := Lib.hid (show rowN x6 gv = some #[.int .i64 z] by rw [← hx6]; exact row_cell0 Hv_5.out (by omega))
    have HK_6 := Lib.hid (show rowN x6 gK = some #[.int .i64 0] by rw [← hx6]; exact row_cell0 HK_5.out (by omega))
    have HL__6 := Lib.hid (show rowN x6 gL = some #[.int .i64 1] by rw [← hx6]; exact row_cell0 HL__5.out (by omega))
    have HQ__6 := Lib.hid (show rowN x6 gQ = some #[.int .i64 z] by rw [← hx6]; exact row_set0 HQ__5.out)
    have hbl : Below W.heap.size W x6 := by rw [← hx6]; exact HL_5.out.setCell (p := ⟨gQ, 0, none⟩) (by show W.heap.size ≤ gQ; omega) _
    have HL_6 := Lib.hid hbl
    clear hc1 hf1 hbl hx6
    refine hK.out _ _ Hv_6.out (fun hHeld6 => ?_)
    clear hK K'
    try simp only [Act.put, List.setIfInBounds_toArray, List.set_cons_zero, List.set_cons_succ]
    refine wpAnyH_done (by kernel_rfl) ?_ _
    refine NoPanic.normal ?_
    exact HQ.out gK gL gQ _ _ (by omega) (by omega) (by omega) (by omega) (by omega) (by omega) HK_6.out HL__6.out HQ__6.out HL_6.out
  refine AllReadyH.cons (o := { dst := some 10, op := Op.alloc 3, type := 0, pos := "law.go:136", after := #[], guard := none }) rfl (fun K' hK => ?_) ?_
  · go_simp
    obtain ⟨x1, hx1⟩ : ∃ X, x0.alloc (.cells #[.int .i64 0] 3) = X := ⟨_, rfl⟩
    have hb : Below x0.heap.size x0 x1 := by rw [← hx1]; exact (Below.refl _ _).alloc (Nat.le_refl _) _
    have Hv_1 := Lib.hid (keptW hb Hv_0.out)
    have HL_1 := Lib.hid (HL_0.out.trans (hb.mono HL_0.out.size))
    have hnew : rowN x1 x0.heap.size = some #[.int .i64 0] := by rw [← hx1, rowN_alloc, if_pos rfl]
    have hgeL_ : W.heap.size ≤ x0.heap.size := HL_0.out.size
    have hlv_L_ := rowN_lt Hv_0.out
    rw [hx1]
    obtain ⟨gL, hgL⟩ : ∃ g, x0.heap.size = g := ⟨_, rfl⟩
    rw [hgL] at hnew hgeL_ hlv_L_ ⊢
    have HL__1 := Lib.hid hnew
    clear hb hnew hgL hx1
    refine hK.out _ _ Hv_1.out (fun hHeld1 => ?_)
    clear hK K'
    try simp only [Act.put, List.setIfInBounds_toArray, List.set_cons_zero, List.set_cons_succ]
    refine wpAnyH_ready (rs := [1, 3]) (by kernel_rfl) (by simp) ?_
    refine AllReadyH.cons (o := { dst := some 9, op := Op.alloc 3, type := 0, pos := "law.go:136", after := #[], guard := none }) rfl (fun K' hK => ?_) ?_
    · go_simp
      obtain ⟨x2, hx2⟩ : ∃ X, x1.alloc (.cells #[.int .i64 0] 3) = X := ⟨_, rfl⟩
      have hb : Below x1.heap.size x1 x2 := by rw [← hx2]; exact (Below.refl _ _).alloc (Nat.le_refl _) _
      have Hv_2 := Lib.hid (keptW hb Hv_1.out)
      have HL__2 := Lib.hid (keptW hb HL__1.out)
      have HL_2 := Lib.hid (HL_1.out.trans (hb.mono HL_1.out.size))
      have hnew : rowN x2 x1.heap.size = some #[.int .i64 0] := by rw [← hx2, rowN_alloc, if_pos rfl]
      have hgeK : W.heap.size ≤ x1.heap.size := HL_1.out.size
      have hlv_K := rowN_lt Hv_1.out
      have hlL__K := rowN_lt HL__1.out
      rw [hx2]
      obtain ⟨gK, hgK⟩ : ∃ g, x1.heap.size = g := ⟨_, rfl⟩
      rw [hgK] at hnew hgeK hlv_K hlL__K ⊢
      have HK_2 := Lib.hid hnew
      clear hb hnew hgK hx2
      refine hK.out _ _ Hv_2.out (fun hHeld2 => ?_)
      clear hK K'
      try simp only [Act.put, List.setIfInBounds_toArray, List.set_cons_zero, List.set_cons_succ]
      refine wpAnyH_ready (rs := [3]) (by kernel_rfl) (by simp) ?_
      refine AllReadyH.cons (o := { dst := some 11, op := Op.alloc 3, type := 0, pos := "law.go:136", after := #[], guard := none }) rfl (fun K' hK => ?_) AllReadyH.nil
      go_simp
      obtain ⟨x3, hx3⟩ : ∃ X, x2.alloc (.cells #[.int .i64 0] 3) = X := ⟨_, rfl⟩
      have hb : Below x2.heap.size x2 x3 := by rw [← hx3]; exact (Below.refl _ _).alloc (Nat.le_refl _) _
      have Hv_3 := Lib.hid (keptW hb Hv_2.out)
      have HL__3 := Lib.hid (keptW hb HL__2.out)
      have HK_3 := Lib.hid (keptW hb HK_2.out)
      have HL_3 := Lib.hid (HL_2.out.trans (hb.mono HL_2.out.size))
      have hnew : rowN x3 x2.heap.size = some #[.int .i64 0] := by rw [← hx3, rowN_alloc, if_pos rfl]
      have hgeQ_ : W.heap.size ≤ x2.heap.size := HL_2.out.size
      have hlv_Q_ := rowN_lt Hv_2.out
      have hlL__Q_ := rowN_lt HL__2.out
      have hlK_Q_ := rowN_lt HK_2.out
      rw [hx3]
      obtain ⟨gQ, hgQ⟩ : ∃ g, x2.heap.size = g := ⟨_, rfl⟩
      rw [hgQ] at hnew hgeQ_ hlv_Q_ hlL__Q_ hlK_Q_ ⊢
      have HQ__3 := Lib.hid hnew
      clear hb hnew hgQ hx3
      refine hK.out _ _ Hv_3.out (fun hHeld3 => ?_)
      clear hK K'
      try simp only [Act.put, List.setIfInBounds_toArray, List.set_cons_zero, List.set_cons_succ]
      refine wpAnyH_ready (rs := [4]) (by kernel_rfl) (by simp) ?_
      refine AllReadyH.cons (o := { dst := none, op := Op.store 3 (Operand.tmp 9) (Operand.const (Value.int IntKind.i64 0)), type := 0, pos := "law.go:136", after := #[{ on := 1, ground := Ground.data }, { on := 0, ground := Ground.textOnly Departure.lateStores }, { on := 1, ground := Ground.phase }, { on := 2, ground := Ground.phase }, { on := 3, ground := Ground.phase }], guard := none }) rfl (fun K' hK => ?_) AllReadyH.nil
      have hc1 := (rowN_cell HK_3.out).1 0
      have hf1 := (rowN_cell HK_3.out).2 0
      go_simp
      obtain ⟨x4, hx4⟩ : ∃ X, x3.setCell ⟨gK, 0, none⟩ (.int .i64 0) = X := ⟨_, rfl⟩
      rw [hx4]
      have Hv_4 := Lib.hid (show rowN x4 gv = some #[.int .i64 z] by rw [← hx4]; exact row_cell0 Hv_3.out (by omega))
      have HL__4 := Lib.hid (show rowN x4 gL = some #[.int .i64 0] by rw [← hx4]; exact row_cell0 HL__3.out (by omega))
      have HQ__4 := Lib.hid (show rowN x4 gQ = some #[.int .i64 0] by rw [← hx4]; exact row_cell0 HQ__3.out (by omega))
      have HK_4 := Lib.hid (show rowN x4 gK = some #[.int .i64 0] by rw [← hx4]; exact row_set0 HK_3.out)
      have hbl : Below W.heap.size W x4 := by rw [← hx4]; exact HL_3.out.setCell (p := ⟨gK, 0, none⟩) (by show W.heap.size ≤ gK; omega) _
      have HL_4 := Lib.hid hbl
      clear hc1 hf1 hbl hx4
      refine hK.out _ _ Hv_4.out (fun hHeld4 => ?_)
      clear hK K'
      try simp only [Act.put, List.setIfInBounds_toArray, List.set_cons_zero, List.set_cons_succ]
      refine wpAnyH_ready (rs := [5]) (by kernel_rfl) (by simp) ?_
      refine AllReadyH.cons (o := { dst := none, op := Op.store 3 (Operand.tmp 10) (Operand.const (Value.int IntKind.i64 1)), type := 0, pos := "law.go:136", after := #[{ on := 2, ground := Ground.data }, { on := 4, ground := Ground.chain }, { on := 0, ground := Ground.textOnly Departure.lateStores }, { on := 1, ground := Ground.phase }, { on := 2, ground := Ground.phase }, { on := 3, ground := Ground.phase }, { on := 4, ground := Ground.phase }], guard := none }) rfl (fun K' hK => ?_) AllReadyH.nil
      have hc1 := (rowN_cell HL__4.out).1 0
      have hf1 := (rowN_cell HL__4.out).2 0
      go_simp
      obtain ⟨x5, hx5⟩ : ∃ X, x4.setCell ⟨gL, 0, none⟩ (.int .i64 1) = X := ⟨_, rfl⟩
      rw [hx5]
      have Hv_5 := Lib.hid (show rowN x5 gv = some #[.int .i64 z] by rw [← hx5]; exact row_cell0 Hv_4.out (by omega))
      have HK_5 := Lib.hid (show rowN x5 gK = some #[.int .i64 0] by rw [← hx5]; exact row_cell0 HK_4.out (by omega))
      have HQ__5 := Lib.hid (show rowN x5 gQ = some #[.int .i64 0] by rw [← hx5]; exact row_cell0 HQ__4.out (by omega))
      have HL__5 := Lib.hid (show rowN x5 gL = some #[.int .i64 1] by rw [← hx5]; exact row_set0 HL__4.out)
      have hbl : Below W.heap.size W x5 := by rw [← hx5]; exact HL_4.out.setCell (p := ⟨gL, 0, none⟩) (by show W.heap.size ≤ gL; omega) _
      have HL_5 := Lib.hid hbl
      clear hc1 hf1 hbl hx5
      refine hK.out _ _ Hv_5.out (fun hHeld5 => ?_)
      clear hK K'
      try simp only [Act.put, List.setIfInBounds_toArray, List.set_cons_zero, List.set_cons_succ]
      refine wpAnyH_ready (rs := [6]) (by kernel_rfl) (by simp) ?_
      refine AllReadyH.cons (o := { dst := none, op := Op.store 3 (Operand.tmp 11) (Operand.tmp 35), type := 0, pos := "law.go:136", after := #[{ on := 3, ground := Ground.data }, { on := 0, ground := Ground.data }, { on := 5, ground := Ground.chain }, { on := 0, ground := Ground.phase }, { on := 1, ground := Ground.phase }, { on := 2, ground := Ground.phase }, { on := 3, ground := Ground.phase }, { on := 4, ground := Ground.phase }, { on := 5, ground := Ground.phase }], guard := none }) rfl (fun K' hK => ?_) AllReadyH.nil
      have hc1 := (rowN_cell HQ__5.out).1 0
      have hf1 := (rowN_cell HQ__5.out).2 0
      go_simp
      obtain ⟨x6, hx6⟩ : ∃ X, x5.setCell ⟨gQ, 0, none⟩ (.int .i64 z) = X := ⟨_, rfl⟩
      rw [hx6]
      have Hv_6 := Lib.hid (show rowN x6 gv = some #[.int .i64 z] by rw [← hx6]; exact row_cell0 Hv_5.out (by omega))
      have HL__6 := Lib.hid (show rowN x6 gL = some #[.int .i64 1] by rw [← hx6]; exact row_cell0 HL__5.out (by omega))
      have HK_6 := Lib.hid (show rowN x6 gK = some #[.int .i64 0] by rw [← hx6]; exact row_cell0 HK_5.out (by omega))
      have HQ__6 := Lib.hid (show rowN x6 gQ = some #[.int .i64 z] by rw [← hx6]; exact row_set0 HQ__5.out)
      have hbl : Below W.heap.size W x6 := by rw [← hx6]; exact HL_5.out.setCell (p := ⟨gQ, 0, none⟩) (by show W.heap.size ≤ gQ; omega) _
      have HL_6 := Lib.hid hbl
      clear hc1 hf1 hbl hx6
      refine hK.out _ _ Hv_6.out (fun hHeld6 => ?_)
      clear hK K'
      try simp only [Act.put, List.setIfInBounds_toArray, List.set_cons_zero, List.set_cons_succ]
      refine wpAnyH_done (by kernel_rfl) ?_ _
      refine NoPanic.normal ?_
      exact HQ.out gK gL gQ _ _ (by omega) (by omega) (by omega) (by omega) (by omega) (by omega) HK_6.out HL__6.out HQ__6.out HL_6.out
    refine AllReadyH.cons (o := { dst := some 11, op := Op.alloc 3, type := 0, pos := "law.go:136", after := #[], guard := none }) rfl (fun K' hK => ?_) AllReadyH.nil
    go_simp
    obtain ⟨x2, hx2⟩ : ∃ X, x1.alloc (.cells #[.int .i64 0] 3) = X := ⟨_, rfl⟩
    have hb : Below x1.heap.size x1 x2 := by rw [← hx2]; exact (Below.refl _ _).alloc (Nat.le_refl _) _
    have Hv_2 := Lib.hid (keptW hb Hv_1.out)
    have HL__2 := Lib.hid (keptW hb HL__1.out)
    have HL_2 := Lib.hid (HL_1.out.trans (hb.mono HL_1.out.size))
    have hnew : rowN x2 x1.heap.size = some #[.int .i64 0] := by rw [← hx2, rowN_alloc, if_pos rfl]
    have hgeQ_ : W.heap.size ≤ x1.heap.size := HL_1.out.size
    have hlv_Q_ := rowN_lt Hv_1.out
    have hlL__Q_ := rowN_lt HL__1.out
    rw [hx2]
    obtain ⟨gQ, hgQ⟩ : ∃ g, x1.heap.size = g := ⟨_, rfl⟩
    rw [hgQ] at hnew hgeQ_ hlv_Q_ hlL__Q_ ⊢
    have HQ__2 := Lib.hid hnew
    clear hb hnew hgQ hx2
    refine hK.out _ _ Hv_2.out (fun hHeld2 => ?_)
    clear hK K'
    try simp only [Act.put, List.setIfInBounds_toArray, List.set_cons_zero, List.set_cons_succ]
    refine wpAnyH_ready (rs := [1]) (by kernel_rfl) (by simp) ?_
    refine AllReadyH.cons (o := { dst := some 9, op := Op.alloc 3, type := 0, pos := "law.go:136", after := #[], guard := none }) rfl (fun K' hK => ?_) AllReadyH.nil
    go_simp
    obtain ⟨x3, hx3⟩ : ∃ X, x2.alloc (.cells #[.int .i64 0] 3) = X := ⟨_, rfl⟩
    have hb : Below x2.heap.size x2 x3 := by rw [← hx3]; exact (Below.refl _ _).alloc (Nat.le_refl _) _
    have Hv_3 := Lib.hid (keptW hb Hv_2.out)
    have HL__3 := Lib.hid (keptW hb HL__2.out)
    have HQ__3 := Lib.hid (keptW hb HQ__2.out)
    have HL_3 := Lib.hid (HL_2.out.trans (hb.mono HL_2.out.size))
    have hnew : rowN x3 x2.heap.size = some #[.int .i64 0] := by rw [← hx3, rowN_alloc, if_pos rfl]
    have hgeK : W.heap.size ≤ x2.heap.size := HL_2.out.size
    have hlv_K := rowN_lt Hv_2.out
    have hlL__K := rowN_lt HL__2.out
    have hlQ__K := rowN_lt HQ__2.out
    rw [hx3]
    obtain ⟨gK, hgK⟩ : ∃ g, x2.heap.size = g := ⟨_, rfl⟩
    rw [hgK] at hnew hgeK hlv_K hlL__K hlQ__K ⊢
    have HK_3 := Lib.hid hnew
    clear hb hnew hgK hx3
    refine hK.out _ _ Hv_3.out (fun hHeld3 => ?_)
    clear hK K'
    try simp only [Act.put, List.setIfInBounds_toArray, List.set_cons_zero, List.set_cons_succ]
    refine wpAnyH_ready (rs := [4]) (by kernel_rfl) (by simp) ?_
    refine AllReadyH.cons (o := { dst := none, op := Op.store 3 (Operand.tmp 9) (Operand.const (Value.int IntKind.i64 0)), type := 0, pos := "law.go:136", after := #[{ on := 1, ground := Ground.data }, { on := 0, ground := Ground.textOnly Departure.lateStores }, { on := 1, ground := Ground.phase }, { on := 2, ground := Ground.phase }, { on := 3, ground := Ground.phase }], guard := none }) rfl (fun K' hK => ?_) AllReadyH.nil
    have hc1 := (rowN_cell HK_3.out).1 0
    have hf1 := (rowN_cell HK_3.out).2 0
    go_simp
    obtain ⟨x4, hx4⟩ : ∃ X, x3.setCell ⟨gK, 0, none⟩ (.int .i64 0) = X := ⟨_, rfl⟩
    rw [hx4]
    have Hv_4 := Lib.hid (show rowN x4 gv = some #[.int .i64 z] by rw [← hx4]; exact row_cell0 Hv_3.out (by omega))
    have HL__4 := Lib.hid (show rowN x4 gL = some #[.int .i64 0] by rw [← hx4]; exact row_cell0 HL__3.out (by omega))
    have HQ__4 := Lib.hid (show rowN x4 gQ = some #[.int .i64 0] by rw [← hx4]; exact row_cell0 HQ__3.out (by omega))
    have HK_4 := Lib.hid (show rowN x4 gK = some #[.int .i64 0] by rw [← hx4]; exact row_set0 HK_3.out)
    have hbl : Below W.heap.size W x4 := by rw [← hx4]; exact HL_3.out.setCell (p := ⟨gK, 0, none⟩) (by show W.heap.size ≤ gK; omega) _
    have HL_4 := Lib.hid hbl
    clear hc1 hf1 hbl hx4
    refine hK.out _ _ Hv_4.out (fun hHeld4 => ?_)
    clear hK K'
    try simp only [Act.put, List.setIfInBounds_toArray, List.set_cons_zero, List.set_cons_succ]
    refine wpAnyH_ready (rs := [5]) (by kernel_rfl) (by simp) ?_
    refine AllReadyH.cons (o := { dst := none, op := Op.store 3 (Operand.tmp 10) (Operand.const (Value.int IntKind.i64 1)), type := 0, pos := "law.go:136", after := #[{ on := 2, ground := Ground.data }, { on := 4, ground := Ground.chain }, { on := 0, ground := Ground.textOnly Departure.lateStores }, { on := 1, ground := Ground.phase }, { on := 2, ground := Ground.phase }, { on := 3, ground := Ground.phase }, { on := 4, ground := Ground.phase }], guard := none }) rfl (fun K' hK => ?_) AllReadyH.nil
    have hc1 := (rowN_cell HL__4.out).1 0
    have hf1 := (rowN_cell HL__4.out).2 0
    go_simp
    obtain ⟨x5, hx5⟩ : ∃ X, x4.setCell ⟨gL, 0, none⟩ (.int .i64 1) = X := ⟨_, rfl⟩
    rw [hx5]
    have Hv_5 := Lib.hid (show rowN x5 gv = some #[.int .i64 z] by rw [← hx5]; exact row_cell0 Hv_4.out (by omega))
    have HQ__5 := Lib.hid (show rowN x5 gQ = some #[.int .i64 0] by rw [← hx5]; exact row_cell0 HQ__4.out (by omega))
    have HK_5 := Lib.hid (show rowN x5 gK = some #[.int .i64 0] by rw [← hx5]; exact row_cell0 HK_4.out (by omega))
    have HL__5 := Lib.hid (show rowN x5 gL = some #[.int .i64 1] by rw [← hx5]; exact row_set0 HL__4.out)
    have hbl : Below W.heap.size W x5 := by rw [← hx5]; exact HL_4.out.setCell (p := ⟨gL, 0, none⟩) (by show W.heap.size ≤ gL; omega) _
    have HL_5 := Lib.hid hbl
    clear hc1 hf1 hbl hx5
    refine hK.out _ _ Hv_5.out (fun hHeld5 => ?_)
    clear hK K'
    try simp only [Act.put, List.setIfInBounds_toArray, List.set_cons_zero, List.set_cons_succ]
    refine wpAnyH_ready (rs := [6]) (by kernel_rfl) (by simp) ?_
    refine AllReadyH.cons (o := { dst := none, op := Op.store 3 (Operand.tmp 11) (Operand.tmp 35), type := 0, pos := "law.go:136", after := #[{ on := 3, ground := Ground.data }, { on := 0, ground := Ground.data }, { on := 5, ground := Ground.chain }, { on := 0, ground := Ground.phase }, { on := 1, ground := Ground.phase }, { on := 2, ground := Ground.phase }, { on := 3, ground := Ground.phase }, { on := 4, ground := Ground.phase }, { on := 5, ground := Ground.phase }], guard := none }) rfl (fun K' hK => ?_) AllReadyH.nil
    have hc1 := (rowN_cell HQ__5.out).1 0
    have hf1 := (rowN_cell HQ__5.out).2 0
    go_simp
    obtain ⟨x6, hx6⟩ : ∃ X, x5.setCell ⟨gQ, 0, none⟩ (.int .i64 z) = X := ⟨_, rfl⟩
    rw [hx6]
    have Hv_6 := Lib.hid (show rowN x6 gv = some #[.int .i64 z] by rw [← hx6]; exact row_cell0 Hv_5.out (by omega))
    have HL__6 := Lib.hid (show rowN x6 gL = some #[.int .i64 1] by rw [← hx6]; exact row_cell0 HL__5.out (by omega))
    have HK_6 := Lib.hid (show rowN x6 gK = some #[.int .i64 0] by rw [← hx6]; exact row_cell0 HK_5.out (by omega))
    have HQ__6 := Lib.hid (show rowN x6 gQ = some #[.int .i64 z] by rw [← hx6]; exact row_set0 HQ__5.out)
    have hbl : Below W.heap.size W x6 := by rw [← hx6]; exact HL_5.out.setCell (p := ⟨gQ, 0, none⟩) (by show W.heap.size ≤ gQ; omega) _
    have HL_6 := Lib.hid hbl
    clear hc1 hf1 hbl hx6
    refine hK.out _ _ Hv_6.out (fun hHeld6 => ?_)
    clear hK K'
    try simp only [Act.put, List.setIfInBounds_toArray, List.set_cons_zero, List.set_cons_succ]
    refine wpAnyH_done (by kernel_rfl) ?_ _
    refine NoPanic.normal ?_
    exact HQ.out gK gL gQ _ _ (by omega) (by omega) (by omega) (by omega) (by omega) (by omega) HK_6.out HL__6.out HQ__6.out HL_6.out
  refine AllReadyH.cons (o := { dst := some 11, op := Op.alloc 3, type := 0, pos := "law.go:136", after := #[], guard := none }) rfl (fun K' hK => ?_) AllReadyH.nil
  go_simp
  obtain ⟨x1, hx1⟩ : ∃ X, x0.alloc (.cells #[.int .i64 0] 3) = X := ⟨_, rfl⟩
  have hb : Below x0.heap.size x0 x1 := by rw [← hx1]; exact (Below.refl _ _).alloc (Nat.le_refl _) _
  have Hv_1 := Lib.hid (keptW hb Hv_0.out)
  have HL_1 := Lib.hid (HL_0.out.trans (hb.mono HL_0.out.size))
  have hnew : rowN x1 x0.heap.size = some #[.int .i64 0] := by rw [← hx1, rowN_alloc, if_pos rfl]
  have hgeQ_ : W.heap.size ≤ x0.heap.size := HL_0.out.size
  have hlv_Q_ := rowN_lt Hv_0.out
  rw [hx1]
  obtain ⟨gQ, hgQ⟩ : ∃ g, x0.heap.size = g := ⟨_, rfl⟩
  rw [hgQ] at hnew hgeQ_ hlv_Q_ ⊢
  have HQ__1 := Lib.hid hnew
  clear hb hnew hgQ hx1
  refine hK.out _ _ Hv_1.out (fun hHeld1 => ?_)
  clear hK K'
  try simp only [Act.put, List.setIfInBounds_toArray, List.set_cons_zero, List.set_cons_succ]
  refine wpAnyH_ready (rs := [1, 2]) (by kernel_rfl) (by simp) ?_
  refine AllReadyH.cons (o := { dst := some 9, op := Op.alloc 3, type := 0, pos := "law.go:136", after := #[], guard := none }) rfl (fun K' hK => ?_) ?_
  · go_simp
    obtain ⟨x2, hx2⟩ : ∃ X, x1.alloc (.cells #[.int .i64 0] 3) = X := ⟨_, rfl⟩
    have hb : Below x1.heap.size x1 x2 := by rw [← hx2]; exact (Below.refl _ _).alloc (Nat.le_refl _) _
    have Hv_2 := Lib.hid (keptW hb Hv_1.out)
    have HQ__2 := Lib.hid (keptW hb HQ__1.out)
    have HL_2 := Lib.hid (HL_1.out.trans (hb.mono HL_1.out.size))
    have hnew : rowN x2 x1.heap.size = some #[.int .i64 0] := by rw [← hx2, rowN_alloc, if_pos rfl]
    have hgeK : W.heap.size ≤ x1.heap.size := HL_1.out.size
    have hlv_K := rowN_lt Hv_1.out
    have hlQ__K := rowN_lt HQ__1.out
    rw [hx2]
    obtain ⟨gK, hgK⟩ : ∃ g, x1.heap.size = g := ⟨_, rfl⟩
    rw [hgK] at hnew hgeK hlv_K hlQ__K ⊢
    have HK_2 := Lib.hid hnew
    clear hb hnew hgK hx2
    refine hK.out _ _ Hv_2.out (fun hHeld2 => ?_)
    clear hK K'
    try simp only [Act.put, List.setIfInBounds_toArray, List.set_cons_zero, List.set_cons_succ]
    refine wpAnyH_ready (rs := [2]) (by kernel_rfl) (by simp) ?_
    refine AllReadyH.cons (o := { dst := some 10, op := Op.alloc 3, type := 0, pos := "law.go:136", after := #[], guard := none }) rfl (fun K' hK => ?_) AllReadyH.nil
    go_simp
    obtain ⟨x3, hx3⟩ : ∃ X, x2.alloc (.cells #[.int .i64 0] 3) = X := ⟨_, rfl⟩
    have hb : Below x2.heap.size x2 x3 := by rw [← hx3]; exact (Below.refl _ _).alloc (Nat.le_refl _) _
    have Hv_3 := Lib.hid (keptW hb Hv_2.out)
    have HQ__3 := Lib.hid (keptW hb HQ__2.out)
    have HK_3 := Lib.hid (keptW hb HK_2.out)
    have HL_3 := Lib.hid (HL_2.out.trans (hb.mono HL_2.out.size))
    have hnew : rowN x3 x2.heap.size = some #[.int .i64 0] := by rw [← hx3, rowN_alloc, if_pos rfl]
    have hgeL_ : W.heap.size ≤ x2.heap.size := HL_2.out.size
    have hlv_L_ := rowN_lt Hv_2.out
    have hlQ__L_ := rowN_lt HQ__2.out
    have hlK_L_ := rowN_lt HK_2.out
    rw [hx3]
    obtain ⟨gL, hgL⟩ : ∃ g, x2.heap.size = g := ⟨_, rfl⟩
    rw [hgL] at hnew hgeL_ hlv_L_ hlQ__L_ hlK_L_ ⊢
    have HL__3 := Lib.hid hnew
    clear hb hnew hgL hx3
    refine hK.out _ _ Hv_3.out (fun hHeld3 => ?_)
    clear hK K'
    try simp only [Act.put, List.setIfInBounds_toArray, List.set_cons_zero, List.set_cons_succ]
    refine wpAnyH_ready (rs := [4]) (by kernel_rfl) (by simp) ?_
    refine AllReadyH.cons (o := { dst := none, op := Op.store 3 (Operand.tmp 9) (Operand.const (Value.int IntKind.i64 0)), type := 0, pos := "law.go:136", after := #[{ on := 1, ground := Ground.data }, { on := 0, ground := Ground.textOnly Departure.lateStores }, { on := 1, ground := Ground.phase }, { on := 2, ground := Ground.phase }, { on := 3, ground := Ground.phase }], guard := none }) rfl (fun K' hK => ?_) AllReadyH.nil
    have hc1 := (rowN_cell HK_3.out).1 0
    have hf1 := (rowN_cell HK_3.out).2 0
    go_simp
    obtain ⟨x4, hx4⟩ : ∃ X, x3.setCell ⟨gK, 0, none⟩ (.int .i64 0) = X := ⟨_, rfl⟩
    rw [hx4]
    have Hv_4 := Lib.hid (show rowN x4 gv = some #[.int .i64 z] by rw [← hx4]; exact row_cell0 Hv_3.out (by omega))
    have HQ__4 := Lib.hid (show rowN x4 gQ = some #[.int .i64 0] by rw [← hx4]; exact row_cell0 HQ__3.out (by omega))
    have HL__4 := Lib.hid (show rowN x4 gL = some #[.int .i64 0] by rw [← hx4]; exact row_cell0 HL__3.out (by omega))
    have HK_4 := Lib.hid (show rowN x4 gK = some #[.int .i64 0] by rw [← hx4]; exact row_set0 HK_3.out)
    have hbl : Below W.heap.size W x4 := by rw [← hx4]; exact HL_3.out.setCell (p := ⟨gK, 0, none⟩) (by show W.heap.size ≤ gK; omega) _
    have HL_4 := Lib.hid hbl
    clear hc1 hf1 hbl hx4
    refine hK.out _ _ Hv_4.out (fun hHeld4 => ?_)
    clear hK K'
    try simp only [Act.put, List.setIfInBounds_toArray, List.set_cons_zero, List.set_cons_succ]
    refine wpAnyH_ready (rs := [5]) (by kernel_rfl) (by simp) ?_
    refine AllReadyH.cons (o := { dst := none, op := Op.store 3 (Operand.tmp 10) (Operand.const (Value.int IntKind.i64 1)), type := 0, pos := "law.go:136", after := #[{ on := 2, ground := Ground.data }, { on := 4, ground := Ground.chain }, { on := 0, ground := Ground.textOnly Departure.lateStores }, { on := 1, ground := Ground.phase }, { on := 2, ground := Ground.phase }, { on := 3, ground := Ground.phase }, { on := 4, ground := Ground.phase }], guard := none }) rfl (fun K' hK => ?_) AllReadyH.nil
    have hc1 := (rowN_cell HL__4.out).1 0
    have hf1 := (rowN_cell HL__4.out).2 0
    go_simp
    obtain ⟨x5, hx5⟩ : ∃ X, x4.setCell ⟨gL, 0, none⟩ (.int .i64 1) = X := ⟨_, rfl⟩
    rw [hx5]
    have Hv_5 := Lib.hid (show rowN x5 gv = some #[.int .i64 z] by rw [← hx5]; exact row_cell0 Hv_4.out (by omega))
    have HQ__5 := Lib.hid (show rowN x5 gQ = some #[.int .i64 0] by rw [← hx5]; exact row_cell0 HQ__4.out (by omega))
    have HK_5 := Lib.hid (show rowN x5 gK = some #[.int .i64 0] by rw [← hx5]; exact row_cell0 HK_4.out (by omega))
    have HL__5 := Lib.hid (show rowN x5 gL = some #[.int .i64 1] by rw [← hx5]; exact row_set0 HL__4.out)
    have hbl : Below W.heap.size W x5 := by rw [← hx5]; exact HL_4.out.setCell (p := ⟨gL, 0, none⟩) (by show W.heap.size ≤ gL; omega) _
    have HL_5 := Lib.hid hbl
    clear hc1 hf1 hbl hx5
    refine hK.out _ _ Hv_5.out (fun hHeld5 => ?_)
    clear hK K'
    try simp only [Act.put, List.setIfInBounds_toArray, List.set_cons_zero, List.set_cons_succ]
    refine wpAnyH_ready (rs := [6]) (by kernel_rfl) (by simp) ?_
    refine AllReadyH.cons (o := { dst := none, op := Op.store 3 (Operand.tmp 11) (Operand.tmp 35), type := 0, pos := "law.go:136", after := #[{ on := 3, ground := Ground.data }, { on := 0, ground := Ground.data }, { on := 5, ground := Ground.chain }, { on := 0, ground := Ground.phase }, { on := 1, ground := Ground.phase }, { on := 2, ground := Ground.phase }, { on := 3, ground := Ground.phase }, { on := 4, ground := Ground.phase }, { on := 5, ground := Ground.phase }], guard := none }) rfl (fun K' hK => ?_) AllReadyH.nil
    have hc1 := (rowN_cell HQ__5.out).1 0
    have hf1 := (rowN_cell HQ__5.out).2 0
    go_simp
    obtain ⟨x6, hx6⟩ : ∃ X, x5.setCell ⟨gQ, 0, none⟩ (.int .i64 z) = X := ⟨_, rfl⟩
    rw [hx6]
    have Hv_6 := Lib.hid (show rowN x6 gv = some #[.int .i64 z] by rw [← hx6]; exact row_cell0 Hv_5.out (by omega))
    have HK_6 := Lib.hid (show rowN x6 gK = some #[.int .i64 0] by rw [← hx6]; exact row_cell0 HK_5.out (by omega))
    have HL__6 := Lib.hid (show rowN x6 gL = some #[.int .i64 1] by rw [← hx6]; exact row_cell0 HL__5.out (by omega))
    have HQ__6 := Lib.hid (show rowN x6 gQ = some #[.int .i64 z] by rw [← hx6]; exact row_set0 HQ__5.out)
    have hbl : Below W.heap.size W x6 := by rw [← hx6]; exact HL_5.out.setCell (p := ⟨gQ, 0, none⟩) (by show W.heap.size ≤ gQ; omega) _
    have HL_6 := Lib.hid hbl
    clear hc1 hf1 hbl hx6
    refine hK.out _ _ Hv_6.out (fun hHeld6 => ?_)
    clear hK K'
    try simp only [Act.put, List.setIfInBounds_toArray, List.set_cons_zero, List.set_cons_succ]
    refine wpAnyH_done (by kernel_rfl) ?_ _
    refine NoPanic.normal ?_
    exact HQ.out gK gL gQ _ _ (by omega) (by omega) (by omega) (by omega) (by omega) (by omega) HK_6.out HL__6.out HQ__6.out HL_6.out
  refine AllReadyH.cons (o := { dst := some 10, op := Op.alloc 3, type := 0, pos := "law.go:136", after := #[], guard := none }) rfl (fun K' hK => ?_) AllReadyH.nil
  go_simp
  obtain ⟨x2, hx2⟩ : ∃ X, x1.alloc (.cells #[.int .i64 0] 3) = X := ⟨_, rfl⟩
  have hb : Below x1.heap.size x1 x2 := by rw [← hx2]; exact (Below.refl _ _).alloc (Nat.le_refl _) _
  have Hv_2 := Lib.hid (keptW hb Hv_1.out)
  have HQ__2 := Lib.hid (keptW hb HQ__1.out)
  have HL_2 := Lib.hid (HL_1.out.trans (hb.mono HL_1.out.size))
  have hnew : rowN x2 x1.heap.size = some #[.int .i64 0] := by rw [← hx2, rowN_alloc, if_pos rfl]
  have hgeL_ : W.heap.size ≤ x1.heap.size := HL_1.out.size
  have hlv_L_ := rowN_lt Hv_1.out
  have hlQ__L_ := rowN_lt HQ__1.out
  rw [hx2]
  obtain ⟨gL, hgL⟩ : ∃ g, x1.heap.size = g := ⟨_, rfl⟩
  rw [hgL] at hnew hgeL_ hlv_L_ hlQ__L_ ⊢
  have HL__2 := Lib.hid hnew
  clear hb hnew hgL hx2
  refine hK.out _ _ Hv_2.out (fun hHeld2 => ?_)
  clear hK K'
  try simp only [Act.put, List.setIfInBounds_toArray, List.set_cons_zero, List.set_cons_succ]
  refine wpAnyH_ready (rs := [1]) (by kernel_rfl) (by simp) ?_
  refine AllReadyH.cons (o := { dst := some 9, op := Op.alloc 3, type := 0, pos := "law.go:136", after := #[], guard := none }) rfl (fun K' hK => ?_) AllReadyH.nil
  go_simp
  obtain ⟨x3, hx3⟩ : ∃ X, x2.alloc (.cells #[.int .i64 0] 3) = X := ⟨_, rfl⟩
  have hb : Below x2.heap.size x2 x3 := by rw [← hx3]; exact (Below.refl _ _).alloc (Nat.le_refl _) _
  have Hv_3 := Lib.hid (keptW hb Hv_2.out)
  have HQ__3 := Lib.hid (keptW hb HQ__2.out)
  have HL__3 := Lib.hid (keptW hb HL__2.out)
  have HL_3 := Lib.hid (HL_2.out.trans (hb.mono HL_2.out.size))
  have hnew : rowN x3 x2.heap.size = some #[.int .i64 0] := by rw [← hx3, rowN_alloc, if_pos rfl]
  have hgeK : W.heap.size ≤ x2.heap.size := HL_2.out.size
  have hlv_K := rowN_lt Hv_2.out
  have hlQ__K := rowN_lt HQ__2.out
  have hlL__K := rowN_lt HL__2.out
  rw [hx3]
  obtain ⟨gK, hgK⟩ : ∃ g, x2.heap.size = g := ⟨_, rfl⟩
  rw [hgK] at hnew hgeK hlv_K hlQ__K hlL__K ⊢
  have HK_3 := Lib.hid hnew
  clear hb hnew hgK hx3
  refine hK.out _ _ Hv_3.out (fun hHeld3 => ?_)
  clear hK K'
  try simp only [Act.put, List.setIfInBounds_toArray, List.set_cons_zero, List.set_cons_succ]
  refine wpAnyH_ready (rs := [4]) (by kernel_rfl) (by simp) ?_
  refine AllReadyH.cons (o := { dst := none, op := Op.store 3 (Operand.tmp 9) (Operand.const (Value.int IntKind.i64 0)), type := 0, pos := "law.go:136", after := #[{ on := 1, ground := Ground.data }, { on := 0, ground := Ground.textOnly Departure.lateStores }, { on := 1, ground := Ground.phase }, { on := 2, ground := Ground.phase }, { on := 3, ground := Ground.phase }], guard := none }) rfl (fun K' hK => ?_) AllReadyH.nil
  have hc1 := (rowN_cell HK_3.out).1 0
  have hf1 := (rowN_cell HK_3.out).2 0
  go_simp
  obtain ⟨x4, hx4⟩ : ∃ X, x3.setCell ⟨gK, 0, none⟩ (.int .i64 0) = X := ⟨_, rfl⟩
  rw [hx4]
  have Hv_4 := Lib.hid (show rowN x4 gv = some #[.int .i64 z] by rw [← hx4]; exact row_cell0 Hv_3.out (by omega))
  have HQ__4 := Lib.hid (show rowN x4 gQ = some #[.int .i64 0] by rw [← hx4]; exact row_cell0 HQ__3.out (by omega))
  have HL__4 := Lib.hid (show rowN x4 gL = some #[.int .i64 0] by rw [← hx4]; exact row_cell0 HL__3.out (by omega))
  have HK_4 := Lib.hid (show rowN x4 gK = some #[.int .i64 0] by rw [← hx4]; exact row_set0 HK_3.out)
  have hbl : Below W.heap.size W x4 := by rw [← hx4]; exact HL_3.out.setCell (p := ⟨gK, 0, none⟩) (by show W.heap.size ≤ gK; omega) _
  have HL_4 := Lib.hid hbl
  clear hc1 hf1 hbl hx4
  refine hK.out _ _ Hv_4.out (fun hHeld4 => ?_)
  clear hK K'
  try simp only [Act.put, List.setIfInBounds_toArray, List.set_cons_zero, List.set_cons_succ]
  refine wpAnyH_ready (rs := [5]) (by kernel_rfl) (by simp) ?_
  refine AllReadyH.cons (o := { dst := none, op := Op.store 3 (Operand.tmp 10) (Operand.const (Value.int IntKind.i64 1)), type := 0, pos := "law.go:136", after := #[{ on := 2, ground := Ground.data }, { on := 4, ground := Ground.chain }, { on := 0, ground := Ground.textOnly Departure.lateStores }, { on := 1, ground := Ground.phase }, { on := 2, ground := Ground.phase }, { on := 3, ground := Ground.phase }, { on := 4, ground := Ground.phase }], guard := none }) rfl (fun K' hK => ?_) AllReadyH.nil
  have hc1 := (rowN_cell HL__4.out).1 0
  have hf1 := (rowN_cell HL__4.out).2 0
  go_simp
  obtain ⟨x5, hx5⟩ : ∃ X, x4.setCell ⟨gL, 0, none⟩ (.int .i64 1) = X := ⟨_, rfl⟩
  rw [hx5]
  have Hv_5 := Lib.hid (show rowN x5 gv = some #[.int .i64 z] by rw [← hx5]; exact row_cell0 Hv_4.out (by omega))
  have HQ__5 := Lib.hid (show rowN x5 gQ = some #[.int .i64 0] by rw [← hx5]; exact row_cell0 HQ__4.out (by omega))
  have HK_5 := Lib.hid (show rowN x5 gK = some #[.int .i64 0] by rw [← hx5]; exact row_cell0 HK_4.out (by omega))
  have HL__5 := Lib.hid (show rowN x5 gL = some #[.int .i64 1] by rw [← hx5]; exact row_set0 HL__4.out)
  have hbl : Below W.heap.size W x5 := by rw [← hx5]; exact HL_4.out.setCell (p := ⟨gL, 0, none⟩) (by show W.heap.size ≤ gL; omega) _
  have HL_5 := Lib.hid hbl
  clear hc1 hf1 hbl hx5
  refine hK.out _ _ Hv_5.out (fun hHeld5 => ?_)
  clear hK K'
  try simp only [Act.put, List.setIfInBounds_toArray, List.set_cons_zero, List.set_cons_succ]
  refine wpAnyH_ready (rs := [6]) (by kernel_rfl) (by simp) ?_
  refine AllReadyH.cons (o := { dst := none, op := Op.store 3 (Operand.tmp 11) (Operand.tmp 35), type := 0, pos := "law.go:136", after := #[{ on := 3, ground := Ground.data }, { on := 0, ground := Ground.data }, { on := 5, ground := Ground.chain }, { on := 0, ground := Ground.phase }, { on := 1, ground := Ground.phase }, { on := 2, ground := Ground.phase }, { on := 3, ground := Ground.phase }, { on := 4, ground := Ground.phase }, { on := 5, ground := Ground.phase }], guard := none }) rfl (fun K' hK => ?_) AllReadyH.nil
  have hc1 := (rowN_cell HQ__5.out).1 0
  have hf1 := (rowN_cell HQ__5.out).2 0
  go_simp
  obtain ⟨x6, hx6⟩ : ∃ X, x5.setCell ⟨gQ, 0, none⟩ (.int .i64 z) = X := ⟨_, rfl⟩
  rw [hx6]
  have Hv_6 := Lib.hid (show rowN x6 gv = some #[.int .i64 z] by rw [← hx6]; exact row_cell0 Hv_5.out (by omega))
  have HL__6 := Lib.hid (show rowN x6 gL = some #[.int .i64 1] by rw [← hx6]; exact row_cell0 HL__5.out (by omega))
  have HK_6 := Lib.hid (show rowN x6 gK = some #[.int .i64 0] by rw [← hx6]; exact row_cell0 HK_5.out (by omega))
  have HQ__6 := Lib.hid (show rowN x6 gQ = some #[.int .i64 z] by rw [← hx6]; exact row_set0 HQ__5.out)
  have hbl : Below W.heap.size W x6 := by rw [← hx6]; exact HL_5.out.setCell (p := ⟨gQ, 0, none⟩) (by show W.heap.size ≤ gQ; omega) _
  have HL_6 := Lib.hid hbl
  clear hc1 hf1 hbl hx6
  refine hK.out _ _ Hv_6.out (fun hHeld6 => ?_)
  clear hK K'
  try simp only [Act.put, List.setIfInBounds_toArray, List.set_cons_zero, List.set_cons_succ]
  refine wpAnyH_done (by kernel_rfl) ?_ _
  refine NoPanic.normal ?_
  exact HQ.out gK gL gQ _ _ (by omega) (by omega) (by omega) (by omega) (by omega) (by omega) HK_6.out HL__6.out HQ__6.out HL_6.out

set_option maxRecDepth 100000 in
set_option maxHeartbeats 8000000 in
theorem pm_main (v : Nat) (many : Int) (w : World) (h2 : 2 ≤ v) (hv : v < 16777216) :
    Calls Try.prog 7 #[.int .i64 (v : Nat), .int .i64 many] w fun e w' => e = .returned (.bool true) ∧ Below w.heap.size w w' := by
  have HP := Lib.hid (fun W => prime_any v (by omega) W)
  have HRP := Lib.hid (fun W => rprime_any v (by omega) W)
  have H2 := Lib.hid h2
  have HV := Lib.hid (show v < 2 ^ 32 by omega)
  have hv0 : 0 < v := by omega
  have HV0 := Lib.hid hv0
  obtain ⟨PB, hPB⟩ : ∃ b, primeB v = b := ⟨_, rfl⟩
  rw [hPB] at HP HRP
  clear hPB
  have t0 : decide (((v : Nat) : Int) ≥ 16777216) = false := decide_eq_false (by omega)
  have t1 : decide (((v : Nat) : Int) < 2) = false := decide_eq_false (by omega)
  have t2 : decide (((v : Nat) : Int) ≥ 4294967296) = false := decide_eq_false (by omega)
  have t3 : decide (((v : Nat) : Int) ≥ 2) = true := decide_eq_true (by omega)
  have t4 : decide (((v : Nat) : Int) < 4294967296) = true := decide_eq_true (by omega)
  have t5 : decide (((v : Nat) : Int) < 0) = false := decide_eq_false (by omega)
  have t0' : decide (16777216 ≤ ((v : Nat) : Int)) = false := decide_eq_false (by omega)
  have t2' : decide (4294967296 ≤ ((v : Nat) : Int)) = false := decide_eq_false (by omega)
  have t3' : decide (2 ≤ ((v : Nat) : Int)) = true := decide_eq_true (by omega)
  refine (callsIn_wide (n := 5)).1 ?_
  refine callsIn_of_wp_marks Try.func7 rfl trivial ?_ rfl
  simp only [Try.ntmps7, List.size_toArray, List.length_cons, List.length_nil, Nat.reduceAdd, Nat.reduceSub, Array.replicate_succ, Array.replicate_zero, List.push_toArray, List.append_toArray, List.nil_append, List.cons_append]
  refine wpIn_wide.2 ?_
  go_wp2_with fail
  have hb0 : Below w.heap.size w (((w.alloc (.cells #[.int .i64 (v : Nat)] 3)).alloc (.cells #[.int .i64 many] 3)).alloc (.cells #[.bool false] 4)) := (((Below.refl _ w).alloc (Nat.le_refl _) _).alloc (by simp) _).alloc (by simp <;> omega) _
  have hV : rowN (((w.alloc (.cells #[.int .i64 (v : Nat)] 3)).alloc (.cells #[.int .i64 many] 3)).alloc (.cells #[.bool false] 4)) w.heap.size = some #[.int .i64 (v : Nat)] := by
    simp only [rowN_alloc, World.size_alloc, if_true]; (repeat rw [if_neg (by omega)])
  have hM : rowN (((w.alloc (.cells #[.int .i64 (v : Nat)] 3)).alloc (.cells #[.int .i64 many] 3)).alloc (.cells #[.bool false] 4)) (w.heap.size + 1) = some #[.int .i64 many] := by
    simp only [rowN_alloc, World.size_alloc, if_true]; (repeat rw [if_neg (by omega)])
  have hR : rowN (((w.alloc (.cells #[.int .i64 (v : Nat)] 3)).alloc (.cells #[.int .i64 many] 3)).alloc (.cells #[.bool false] 4)) (w.heap.size + 1 + 1) = some #[.bool false] := by
    simp only [rowN_alloc, World.size_alloc, if_true]
  refine (HP.out _).mono ?_
  rintro e w2 ⟨rfl, hb⟩
  replace hV := kept hb _ _ hV
  replace hM := kept hb _ _ hM
  replace hR := kept hb _ _ hR
  have HB2 := Lib.hid (hb0.trans (hb.mono hb0.size))
  clear hb hb0
  have cV := (rowN_cell hV).1 0
  go_wp2_with fail
  clear cV
  refine (factors_any _ _).mono ?_
  rintro e w3 ⟨rfl, rfl⟩
  have hS : rowN (w2.alloc (.cells #[.int .i64 (v : Nat)] 3)) w2.heap.size = some #[.int .i64 (v : Nat)] := by rw [rowN_alloc, if_pos rfl]
  have hb3 : Below w2.heap.size w2 (w2.alloc (.cells #[.int .i64 (v : Nat)] 3)) := (Below.refl _ _).alloc (Nat.le_refl _) _
  replace hV := kept hb3 _ _ hV
  replace hM := kept hb3 _ _ hM
  replace hR := kept hb3 _ _ hR
  have HB3 := Lib.hid (HB2.out.trans (hb3.mono HB2.out.size))
  clear hb3 HB2
  generalize w2.heap.size = bS at *
  generalize w2.alloc (.cells #[.int .i64 (v : Nat)] 3) = W3 at *
  go_wp2_with fail
  have hTu : rowN (W3.alloc (.cells #[.int .i64 0] 3)) W3.heap.size = some #[.int .i64 0] := by rw [rowN_alloc, if_pos rfl]
  have hb7 : Below W3.heap.size W3 (W3.alloc (.cells #[.int .i64 0] 3)) := (Below.refl _ _).alloc (Nat.le_refl _) _
  replace hV := kept hb7 _ _ hV
  replace hM := kept hb7 _ _ hM
  replace hR := kept hb7 _ _ hR
  replace hS := kept hb7 _ _ hS
  have HB := Lib.hid (HB3.out.trans (hb7.mono HB3.out.size))
  clear hb7 HB3
  generalize W3.heap.size = bTu at *
  generalize W3.alloc (.cells #[.int .i64 0] 3) = Wb at *
  refine wp_loop_rounds 3 ?_
  rw [rounds_succ]
  have cTu := (rowN_cell hTu).1 0
  have HVV := Lib.hid hV
  go_upto_region 10 with fail
  clear cTu
  go_cut [9, 10, 11] from 9 to 35 (fun s9 s10 s11 wx => ∃ bK bL bQ : Nat, s9 = .pointer (some ⟨bK, 0, none⟩) ∧ s10 = .pointer (some ⟨bL, 0, none⟩) ∧ s11 = .pointer (some ⟨bQ, 0, none⟩) ∧ bK ≠ bL ∧ bQ ≠ bL ∧ bQ ≠ bK ∧ Wb.heap.size ≤ bK ∧ Wb.heap.size ≤ bL ∧ Wb.heap.size ≤ bQ ∧ rowN wx bK = some #[.int .i64 0] ∧ rowN wx bL = some #[.int .i64 1] ∧ rowN wx bQ = some #[.int .i64 (v : Nat)] ∧ Below Wb.heap.size Wb wx)
  case first =>
    refine pm_reg10 HVV (fun bK bL bQ _ wx n1 n2 n3 n4 n5 n6 hK hL hQ hB => ?_)
    go_wp2_with fail
    go_meet
    exact ⟨bK, bL, bQ, rfl, rfl, rfl, n1, n2, n3, n4, n5, n6, hK, hL, hQ, hB⟩
  obtain ⟨bK, bL, bQ, rfl, rfl, rfl, n1, n2, n3, n4, n5, n6, hK, hL, hQ, hBx⟩ := hcut
  clear HVV
  go_wp2_with fail
  have lTu := rowN_lt hTu
  have lM := rowN_lt hM
  have lV := rowN_lt hV
  have lR := rowN_lt hR
  have hSx := kept hBx _ _ hS
  have lW := hBx.size
  have HI0 := Lib.hid (pmI_start (v := v) hK hL hQ hBx)
  clear hK hL hQ hBx
  refine (wpIn_wide (n := 5)).1 ?_
  refine wpIn_rangeFunc_ownF rfl (by omega) (gf := 53) (lb := #[.pointer (some ⟨bS, 0, none⟩)]) rfl trivial (enters_of Try.func53 (by kernel_rfl) rfl)
    (factors1_stops (5 - 1) bS v H2.out HV.out _ hSx) (fun {A B C} _ _ => trivial) (fun _ _ _ _ _ _ _ _ => trivial) (Below.refl _ _) (fun _ => rfl)
    (PmI v bK bL bQ Wb) (PmX v 0 Wb) (pmI_own lW) (fun c => pmX_own lW c) HI0.out ?a1x1 ?assignx1 ?bodyx1 ?donex1 ?stopx1
  case assignx1 =>
    intro l x W K hK
    gi_wp2
    exact hK
  case bodyx1 =>
    rintro l pre x W ⟨⟨hg, hK, hL, hQ⟩, hBW⟩ hlen
    have hVw := kept hBW _ _ hV
    have hMw := kept hBW _ _ hM
    have hRw := kept hBW _ _ hR
    have hTuw := kept hBW _ _ hTu
    obtain ⟨b1, b2, b3, b4⟩ := fp_le HV0.out x
    have b5 := b4 HV.out
    have HPX := Lib.hid (rprime_any x.1.1 (by have := HV.out; omega))
    rw [(primeB_iff _).2 x.2.1] at HPX
    obtain ⟨xp, hxp⟩ : ∃ xp, x.1.1 = xp := ⟨_, rfl⟩
    obtain ⟨xe, hxe⟩ : ∃ xe, x.1.2 = xe := ⟨_, rfl⟩
    obtain ⟨kk, hkk⟩ : ∃ kk, pre.length = kk := ⟨_, rfl⟩
    obtain ⟨lst, hls⟩ : ∃ l, lastF (vals pre) = l := ⟨_, rfl⟩
    rw [hkk] at hK hlen
    have HKB := Lib.hid hlen
    clear hlen
    rw [hls] at hL
    rw [hxp] at b1 b2 HPX
    rw [hxe] at b3 b5
    have HXP := Lib.hid hxp
    have HXE := Lib.hid hxe
    have HKK := Lib.hid hkk
    have HLS := Lib.hid hls
    have HG := Lib.hid hg
    have HBW := Lib.hid hBW
    simp only [encF, hxp, hxe]
    have cV := (rowN_cell hVw).1 0
    have cM := (rowN_cell hMw).1 0
    have cR := (rowN_cell hRw).1 0
    have fR := (rowN_cell hRw).2 0
    have cTu := (rowN_cell hTuw).1 0
    have cL := (rowN_cell hL).1 0
    have HVw := Lib.hid hVw
    have HMw := Lib.hid hMw
    have HTuw := Lib.hid hTuw
    have HK := Lib.hid hK
    have HL := Lib.hid hL
    have HQ := Lib.hid hQ
    have e1 : decide (((xe : Nat) : Int) < 1) = false := decide_eq_false (by omega)
    have e1' : decide (xe = 0) = false := decide_eq_false (by omega)
    clear hVw hMw hRw hTuw hK hL hQ hg hkk hls hxp hxe hBW b4 cM
    by_cases hx : lst < xp
    · have e0 : decide (((xp : Nat) : Int) ≤ ((lst : Nat) : Int)) = false := decide_eq_false (by omega)
      have e0' : decide (xp ≤ lst) = false := decide_eq_false (by omega)
      obtain ⟨s, g1, g2, g3, g4, g5⟩ := goodF_rest HV0.out HG.out (show lastF (vals pre) < x.1.1 by rw [HLS.out, HXP.out]; exact hx)
      have HX := Lib.hid (show lastF (vals pre) < x.1.1 by rw [HLS.out, HXP.out]; exact hx)
      rw [HXP.out] at g2
      rw [HXP.out, HXE.out] at g1
      rw [g1] at g5
      have hQ2 : rowN W bQ = some #[.int .i64 ((xp ^ (xe - 0) * s : Nat))] := by rw [HQ.out, g1, Nat.sub_zero]
      have G2 := Lib.hid g2
      have G3 := Lib.hid g3
      have G5 := Lib.hid g5
      have HQ2 := Lib.hid hQ2
      clear g1 g2 g3 g5 hQ2 HQ
      gi_wp2_with fail
      refine ⟨trivial, ?_⟩
      refine (CallsIn.inRound l (callsIn_wide.2 (HPX.out _))).mono ?_
      rintro e w1 ⟨rfl, hw⟩
      subst w1
      gi_wp2_with fail
      clear cV cR fR e0 e0' e1 e1' cTu cL
      gi_loopw [14] (fun si wr => PmL xp xe s kk lst bK bL bQ Wb W si wr) (fun si _ => xe - (intOf si).toNat)
      case atStart => exact ⟨0, by omega, rfl, HQ2.out, HK.out, HL.out, HBW.out, KeepsOthers.refl _⟩
      case round =>
        clear HQ2 HK HL
        obtain ⟨i, hi, rfl, hQ, hK, hL, hB, hKO⟩ := hrel
        have HBr := Lib.hid hB
        have HKO := Lib.hid hKO
        have HK := Lib.hid hK
        have HL := Lib.hid hL
        have hle : xp ^ (xe - i) * s ≤ v := Nat.le_trans (Nat.mul_le_mul_right _ (Nat.pow_le_pow_right (by omega) (by omega))) G5.out
        obtain ⟨R, hR2⟩ : ∃ R, xp ^ (xe - i) * s = R := ⟨_, rfl⟩
        rw [hR2] at hQ hle
        have HQ := Lib.hid hQ
        have HR2 := Lib.hid hR2
        have cQ := (rowN_cell hQ).1 0
        have fQ := (rowN_cell hQ).2 0
        have hvv : v < 4294967296 := HV.out
        clear hQ hK hL hB hKO hR2
        by_cases hie : i < xe
        · have hpp := pow_pred (xp := xp) (s := s) (show 0 < xe - i by omega)
          rw [HR2.out] at hpp
          have hd : xp ∣ R := ⟨_, hpp⟩
          have hq : R / xp = xp ^ (xe - (i + 1)) * s := by
            rw [hpp, Nat.mul_div_cancel_left _ (by omega), show xe - i - 1 = xe - (i + 1) by omega]
          have HQQ := Lib.hid hq
          have k1 : decide (i < xe) = true := decide_eq_true hie
          have d0 : ((R : Nat) : Int) % ((xp : Nat) : Int) = 0 := Int.emod_eq_zero_of_dvd (Int.natCast_dvd_natCast.2 hd)
          have d1 : (((R : Nat) : Int) % ((xp : Nat) : Int) != 0) = false := by rw [d0]; rfl
          clear hpp hq d0
          gi_wp2_with fail
          have hw2 := div_wrap (s := R) (q := xp) (by omega)
          rw [hw2]
          exact ⟨pmL_step hie (by rw [HQQ.out]) ⟨_, HQ.out⟩ HK.out HL.out HBr.out HKO.out (by omega) (by omega) (by omega), by simp [intOf]; omega⟩
        · obtain rfl : i = xe := by omega
          have hRs : R = s := by rw [← HR2.out, Nat.sub_self, Nat.pow_zero, Nat.one_mul]
          have hd : ¬ xp ∣ R := by rw [hRs]; exact G2.out
          have k1 : decide (i < i) = false := decide_eq_false (by omega)
          have d0 : ¬ ((R : Nat) : Int) % ((xp : Nat) : Int) = 0 := fun e => hd (Int.natCast_dvd_natCast.1 (Int.dvd_of_emod_eq_zero e))
          have d1 : (((R : Nat) : Int) % ((xp : Nat) : Int) == 0) = false := by rw [beq_eq_false_iff_ne]; exact d0
          have cK := (rowN_cell HK.out).1 0
          have fK := (rowN_cell HK.out).2 0
          have cL := (rowN_cell HL.out).1 0
          have fL := (rowN_cell HL.out).2 0
          have cTu := (rowN_cell (kept HBr.out _ _ hTu)).1 0
          have cM := (rowN_cell (kept HBr.out _ _ hM)).1 0
          have HQs := Lib.hid (show rowN wr bQ = some #[.int .i64 (s : Nat)] by rw [← hRs]; exact HQ.out)
          clear hRs
          have KB : kk ≤ 9223372036854775806 := by have := HKB.out; omega
          by_cases hmk : many ≤ (kk : Int) + 1
          · have m1 : decide (many ≤ ((kk : Nat) : Int) + 1) = true := decide_eq_true hmk
            have m2 : decide (((kk : Nat) : Int) + 1 ≥ many) = true := decide_eq_true hmk
            gi_wp2_with fail
            exact ⟨HKO.out.trans ((KeepsOthers.setCell _ _ _).trans (KeepsOthers.setCell _ _ _)), .inr (pm_brk HBr.out (by omega) (by omega))⟩
          · have m1 : decide (many ≤ ((kk : Nat) : Int) + 1) = false := decide_eq_false hmk
            have m2 : decide (((kk : Nat) : Int) + 1 ≥ many) = false := decide_eq_false hmk
            gi_wp2_with fail
            exact ⟨HKO.out.trans ((KeepsOthers.setCell _ _ _).trans (KeepsOthers.setCell _ _ _)), trivial, pmI_next HG.out HX.out HXP.out G3.out HKK.out rfl HQs.out HK.out ⟨_, HL.out⟩ HBr.out (by omega) (by omega) (by omega) (by omega) (by omega)⟩
    · have e0 : decide (((xp : Nat) : Int) ≤ ((lst : Nat) : Int)) = true := decide_eq_true (by omega)
      have e0' : decide (xp ≤ lst) = true := decide_eq_true (by omega)
      gi_wp2_with fail
      refine ⟨trivial, ?_⟩
      gi_wp2_with fail
      exact ⟨KeepsOthers.setCell _ _ _, .inl ⟨pre, x, rfl, by rw [HLS.out, HXP.out]; exact hx⟩⟩
  case donex1 =>
    rintro D0 xs W hD0 hSx2 ⟨⟨hg, hK, hL, hQ⟩, hBW⟩ hDK0
    rw [goodF_all HV0.out hSx2] at hQ
    clear hSx2 hg hK hL
    clear HI0
    have cQ := (rowN_cell hQ).1 0
    have cTu := (rowN_cell (kept hBW _ _ hTu)).1 0
    have cV := (rowN_cell (kept hBW _ _ hV)).1 0
    have HBW := Lib.hid hBW
    clear hBW hQ
    go_wp2_with fail
    clear cQ cV
    clear cTu
    have hTu' : rowN (W.alloc (.cells #[.int .i64 1] 3)) W.heap.size = some #[.int .i64 1] := by rw [rowN_alloc, if_pos rfl]
    have hb9 := HBW.out.trans (((Below.refl _ W).alloc (Nat.le_refl _) (.cells #[.int .i64 1] 3)).mono HBW.out.size)
    replace hV := kept hb9 _ _ hV
    replace hM := kept hb9 _ _ hM
    replace hR := kept hb9 _ _ hR
    replace hS := kept hb9 _ _ hS
    have HB9 := Lib.hid (HB.out.trans (hb9.mono HB.out.size))
    have hD9 : (W.alloc (.cells #[.int .i64 1] 3)).heap[D0]? = some (.deferred (some [])) := (((Below.refl _ W).alloc (Nat.le_refl _) (.cells #[.int .i64 1] 3)).block D0 (Array.getElem?_eq_some_iff.1 hDK0).1).trans hDK0
    have HD9 := Lib.hid hD9
    have hD0w : w.heap.size ≤ D0 := by have := HB.out.size; omega
    clear hb9 hD9 hDK0 hTu HB HBW hSx lW n1 n2 n3 n4 n5 n6 hD0 lTu lM lV lR
    generalize W.heap.size = bTu2 at *
    generalize W.alloc (.cells #[.int .i64 1] 3) = W9 at *
    have hTu := hTu'
    clear hTu'
    have HB := HB9
    clear HB9
    rw [rounds_succ]
    have cTu := (rowN_cell hTu).1 0
    have HVV := Lib.hid hV
    go_upto_region 10 with fail
    clear cTu
    go_cut [9, 10, 11] from 9 to 35 (fun s9 s10 s11 wx => ∃ bK bL bQ : Nat, s9 = .pointer (some ⟨bK, 0, none⟩) ∧ s10 = .pointer (some ⟨bL, 0, none⟩) ∧ s11 = .pointer (some ⟨bQ, 0, none⟩) ∧ bK ≠ bL ∧ bQ ≠ bL ∧ bQ ≠ bK ∧ W9.heap.size ≤ bK ∧ W9.heap.size ≤ bL ∧ W9.heap.size ≤ bQ ∧ rowN wx bK = some #[.int .i64 0] ∧ rowN wx bL = some #[.int .i64 1] ∧ rowN wx bQ = some #[.int .i64 (v : Nat)] ∧ Below W9.heap.size W9 wx)
    case first =>
      refine pm_reg10 HVV (fun bK bL bQ _ wx n1 n2 n3 n4 n5 n6 hK hL hQ hB => ?_)
      go_wp2_with fail
      go_meet
      exact ⟨bK, bL, bQ, rfl, rfl, rfl, n1, n2, n3, n4, n5, n6, hK, hL, hQ, hB⟩
    obtain ⟨bK, bL, bQ, rfl, rfl, rfl, n1, n2, n3, n4, n5, n6, hK, hL, hQ, hBx⟩ := hcut
    clear HVV
    go_wp2_with fail
    have lTu := rowN_lt hTu
    have lM := rowN_lt hM
    have lV := rowN_lt hV
    have lR := rowN_lt hR
    have hSx := kept hBx _ _ hS
    have lW := hBx.size
    have HI0 := Lib.hid (pmI_start (v := v) hK hL hQ hBx)
    clear hK hL hQ hBx
    refine (wpIn_wide (n := 5)).1 ?_
    refine wpIn_rangeFunc_ownF rfl (by omega) (gf := 53) (lb := #[.pointer (some ⟨bS, 0, none⟩)]) rfl trivial (enters_of Try.func53 (by kernel_rfl) rfl)
      (factors1_stops (5 - 1) bS v H2.out HV.out _ hSx) (fun {A B C} _ _ => trivial) (fun _ _ _ _ _ _ _ _ => trivial) (Below.refl _ _) (fun _ => rfl)
      (PmI v bK bL bQ W9) (PmX v 1 W9) (pmI_own lW) (fun c => pmX_own lW c) HI0.out ?a1x2 ?assignx2 ?bodyx2 ?donex2 ?stopx2
    case assignx2 =>
      intro l x W K hK
      gi_wp2
      exact hK
    case bodyx2 =>
      rintro l pre x W ⟨⟨hg, hK, hL, hQ⟩, hBW⟩ hlen
      have hVw := kept hBW _ _ hV
      have hMw := kept hBW _ _ hM
      have hRw := kept hBW _ _ hR
      have hTuw := kept hBW _ _ hTu
      obtain ⟨b1, b2, b3, b4⟩ := fp_le HV0.out x
      have b5 := b4 HV.out
      have HPX := Lib.hid (rprime_any x.1.1 (by have := HV.out; omega))
      rw [(primeB_iff _).2 x.2.1] at HPX
      obtain ⟨xp, hxp⟩ : ∃ xp, x.1.1 = xp := ⟨_, rfl⟩
      obtain ⟨xe, hxe⟩ : ∃ xe, x.1.2 = xe := ⟨_, rfl⟩
      obtain ⟨kk, hkk⟩ : ∃ kk, pre.length = kk := ⟨_, rfl⟩
      obtain ⟨lst, hls⟩ : ∃ l, lastF (vals pre) = l := ⟨_, rfl⟩
      rw [hkk] at hK hlen
      have HKB := Lib.hid hlen
      clear hlen
      rw [hls] at hL
      rw [hxp] at b1 b2 HPX
      rw [hxe] at b3 b5
      have HXP := Lib.hid hxp
      have HXE := Lib.hid hxe
      have HKK := Lib.hid hkk
      have HLS := Lib.hid hls
      have HG := Lib.hid hg
      have HBW := Lib.hid hBW
      simp only [encF, hxp, hxe]
      have cV := (rowN_cell hVw).1 0
      have cM := (rowN_cell hMw).1 0
      have cR := (rowN_cell hRw).1 0
      have fR := (rowN_cell hRw).2 0
      have cTu := (rowN_cell hTuw).1 0
      have cL := (rowN_cell hL).1 0
      have HVw := Lib.hid hVw
      have HMw := Lib.hid hMw
      have HTuw := Lib.hid hTuw
      have HK := Lib.hid hK
      have HL := Lib.hid hL
      have HQ := Lib.hid hQ
      have e1 : decide (((xe : Nat) : Int) < 1) = false := decide_eq_false (by omega)
      have e1' : decide (xe = 0) = false := decide_eq_false (by omega)
      clear hVw hMw hRw hTuw hK hL hQ hg hkk hls hxp hxe hBW b4 cM
      by_cases hx : lst < xp
      · have e0 : decide (((xp : Nat) : Int) ≤ ((lst : Nat) : Int)) = false := decide_eq_false (by omega)
        have e0' : decide (xp ≤ lst) = false := decide_eq_false (by omega)
        obtain ⟨s, g1, g2, g3, g4, g5⟩ := goodF_rest HV0.out HG.out (show lastF (vals pre) < x.1.1 by rw [HLS.out, HXP.out]; exact hx)
        have HX := Lib.hid (show lastF (vals pre) < x.1.1 by rw [HLS.out, HXP.out]; exact hx)
        rw [HXP.out] at g2
        rw [HXP.out, HXE.out] at g1
        rw [g1] at g5
        have hQ2 : rowN W bQ = some #[.int .i64 ((xp ^ (xe - 0) * s : Nat))] := by rw [HQ.out, g1, Nat.sub_zero]
        have G2 := Lib.hid g2
        have G3 := Lib.hid g3
        have G5 := Lib.hid g5
        have HQ2 := Lib.hid hQ2
        clear g1 g2 g3 g5 hQ2 HQ
        gi_wp2_with fail
        refine ⟨trivial, ?_⟩
        refine (CallsIn.inRound l (callsIn_wide.2 (HPX.out _))).mono ?_
        rintro e w1 ⟨rfl, hw⟩
        subst w1
        gi_wp2_with fail
        clear cV cR fR e0 e0' e1 e1' cTu cL
        gi_loopw [14] (fun si wr => PmL xp xe s kk lst bK bL bQ W9 W si wr) (fun si _ => xe - (intOf si).toNat)
        case atStart => exact ⟨0, by omega, rfl, HQ2.out, HK.out, HL.out, HBW.out, KeepsOthers.refl _⟩
        case round =>
          clear HQ2 HK HL
          obtain ⟨i, hi, rfl, hQ, hK, hL, hB, hKO⟩ := hrel
          have HBr := Lib.hid hB
          have HKO := Lib.hid hKO
          have HK := Lib.hid hK
          have HL := Lib.hid hL
          have hle : xp ^ (xe - i) * s ≤ v := Nat.le_trans (Nat.mul_le_mul_right _ (Nat.pow_le_pow_right (by omega) (by omega))) G5.out
          obtain ⟨R, hR2⟩ : ∃ R, xp ^ (xe - i) * s = R := ⟨_, rfl⟩
          rw [hR2] at hQ hle
          have HQ := Lib.hid hQ
          have HR2 := Lib.hid hR2
          have cQ := (rowN_cell hQ).1 0
          have fQ := (rowN_cell hQ).2 0
          have hvv : v < 4294967296 := HV.out
          clear hQ hK hL hB hKO hR2
          by_cases hie : i < xe
          · have hpp := pow_pred (xp := xp) (s := s) (show 0 < xe - i by omega)
            rw [HR2.out] at hpp
            have hd : xp ∣ R := ⟨_, hpp⟩
            have hq : R / xp = xp ^ (xe - (i + 1)) * s := by
              rw [hpp, Nat.mul_div_cancel_left _ (by omega), show xe - i - 1 = xe - (i + 1) by omega]
            have HQQ := Lib.hid hq
            have k1 : decide (i < xe) = true := decide_eq_true hie
            have d0 : ((R : Nat) : Int) % ((xp : Nat) : Int) = 0 := Int.emod_eq_zero_of_dvd (Int.natCast_dvd_natCast.2 hd)
            have d1 : (((R : Nat) : Int) % ((xp : Nat) : Int) != 0) = false := by rw [d0]; rfl
            clear hpp hq d0
            gi_wp2_with fail
            have hw2 := div_wrap (s := R) (q := xp) (by omega)
            rw [hw2]
            exact ⟨pmL_step hie (by rw [HQQ.out]) ⟨_, HQ.out⟩ HK.out HL.out HBr.out HKO.out (by omega) (by omega) (by omega), by simp [intOf]; omega⟩
          · obtain rfl : i = xe := by omega
            have hRs : R = s := by rw [← HR2.out, Nat.sub_self, Nat.pow_zero, Nat.one_mul]
            have hd : ¬ xp ∣ R := by rw [hRs]; exact G2.out
            have k1 : decide (i < i) = false := decide_eq_false (by omega)
            have d0 : ¬ ((R : Nat) : Int) % ((xp : Nat) : Int) = 0 := fun e => hd (Int.natCast_dvd_natCast.1 (Int.dvd_of_emod_eq_zero e))
            have d1 : (((R : Nat) : Int) % ((xp : Nat) : Int) == 0) = false := by rw [beq_eq_false_iff_ne]; exact d0
            have cK := (rowN_cell HK.out).1 0
            have fK := (rowN_cell HK.out).2 0
            have cL := (rowN_cell HL.out).1 0
            have fL := (rowN_cell HL.out).2 0
            have cTu := (rowN_cell (kept HBr.out _ _ hTu)).1 0
            have cM := (rowN_cell (kept HBr.out _ _ hM)).1 0
            have HQs := Lib.hid (show rowN wr bQ = some #[.int .i64 (s : Nat)] by rw [← hRs]; exact HQ.out)
            clear hRs
            have KB : kk ≤ 9223372036854775806 := by have := HKB.out; omega
            gi_wp2_with fail
            exact ⟨HKO.out.trans ((KeepsOthers.setCell _ _ _).trans (KeepsOthers.setCell _ _ _)), trivial, pmI_next HG.out HX.out HXP.out G3.out HKK.out rfl HQs.out HK.out ⟨_, HL.out⟩ HBr.out (by omega) (by omega) (by omega) (by omega) (by omega)⟩
      · have e0 : decide (((xp : Nat) : Int) ≤ ((lst : Nat) : Int)) = true := decide_eq_true (by omega)
        have e0' : decide (xp ≤ lst) = true := decide_eq_true (by omega)
        gi_wp2_with fail
        refine ⟨trivial, ?_⟩
        gi_wp2_with fail
        exact ⟨KeepsOthers.setCell _ _ _, .inl ⟨pre, x, rfl, by rw [HLS.out, HXP.out]; exact hx⟩⟩
    case donex2 =>
      rintro D1 xs W hD1 hSx2 ⟨⟨hg, hK, hL, hQ⟩, hBW⟩ hDK1
      rw [goodF_all HV0.out hSx2] at hQ
      clear hSx2 hg hK hL
      clear HI0
      have cQ := (rowN_cell hQ).1 0
      have cTu := (rowN_cell (kept hBW _ _ hTu)).1 0
      have cV := (rowN_cell (kept hBW _ _ hV)).1 0
      have HBW := Lib.hid hBW
      clear hBW hQ
      go_wp2_with fail
      clear cQ cV
      have hTu2 : rowN (W.alloc (.cells #[.int .i64 2] 3)) W.heap.size = some #[.int .i64 2] := by rw [rowN_alloc, if_pos rfl]
      have cTu2 := (rowN_cell hTu2).1 0
      have hb8 : Below W.heap.size W (W.alloc (.cells #[.int .i64 2] 3)) := (Below.refl _ W).alloc (Nat.le_refl _) _
      have hV8 := kept hb8 _ _ (kept HBW.out _ _ hV)
      have cV8 := (rowN_cell hV8).1 0
      clear cTu hTu2 hV8
      rw [rounds_succ]
      go_wp2_with fail
      clear cTu2
      refine (HRP.out _).mono ?_
      rintro e wP ⟨rfl, hw⟩
      subst hw
      go_wp2_with fail
      refine (known_any _).mono ?_
      rintro e wK ⟨rfl, hb⟩
      have hbb := hb8.trans (hb.mono hb8.size)
      have hRk := kept hbb _ _ (kept HBW.out _ _ hR)
      have cR := (rowN_cell hRk).1 0
      have fR := (rowN_cell hRk).2 0
      obtain ⟨k1, k2, k3, k4⟩ := pm_end HB.out HBW.out hbb HD9.out hDK1 (by omega) hD0w (by omega) hRk
      have K1 := Lib.hid k1
      have K2 := Lib.hid k2
      have K3 := Lib.hid k3
      have K4 := Lib.hid k4
      clear k1 k2 k3 k4 hb hbb hb8 cV8 hDK1 hRk
      go_wp2_with fail
      refine ⟨by simp, .inl ⟨_, _, rfl, run_takeDeferred K1.out, ?_⟩⟩
      refine ⟨by simp, .inl ⟨_, _, rfl, run_takeDeferred K2.out, ?_⟩⟩
      exact ⟨_, results_bool4 _ _ rfl rfl K3.out, rfl, K4.out⟩
    case stopx2 =>
      rintro D1 c pre W hD1 hSp hX hDK1
      rcases hX with ⟨pre', x, rfl, hbad⟩ | ⟨⟨rfl, htt⟩, hBW⟩
      · exact absurd (goodF_bad hSp) hbad
      · exact absurd htt (by decide)
  case stopx1 =>
    rintro D0 c pre W hD0 hSp hX hDK0
    rcases hX with ⟨pre', x, rfl, hbad⟩ | ⟨⟨rfl, htt⟩, hBW⟩
    · exact absurd (goodF_bad hSp) hbad
    · clear hSp htt HI0
      have cTu := (rowN_cell (kept hBW _ _ hTu)).1 0
      have HBW := Lib.hid hBW
      clear hBW
      refine wpIn_wide.2 ?_
      go_wp2_with fail
      clear cTu
      have hTu' : rowN (W.alloc (.cells #[.int .i64 1] 3)) W.heap.size = some #[.int .i64 1] := by rw [rowN_alloc, if_pos rfl]
      have hb9 := HBW.out.trans (((Below.refl _ W).alloc (Nat.le_refl _) (.cells #[.int .i64 1] 3)).mono HBW.out.size)
      replace hV := kept hb9 _ _ hV
      replace hM := kept hb9 _ _ hM
      replace hR := kept hb9 _ _ hR
      replace hS := kept hb9 _ _ hS
      have HB9 := Lib.hid (HB.out.trans (hb9.mono HB.out.size))
      have hD9 : (W.alloc (.cells #[.int .i64 1] 3)).heap[D0]? = some (.deferred (some [])) := (((Below.refl _ W).alloc (Nat.le_refl _) (.cells #[.int .i64 1] 3)).block D0 (Array.getElem?_eq_some_iff.1 hDK0).1).trans hDK0
      have HD9 := Lib.hid hD9
      have hD0w : w.heap.size ≤ D0 := by have := HB.out.size; omega
      clear hb9 hD9 hDK0 hTu HB HBW hSx lW n1 n2 n3 n4 n5 n6 hD0 lTu lM lV lR
      generalize W.heap.size = bTu2 at *
      generalize W.alloc (.cells #[.int .i64 1] 3) = W9 at *
      have hTu := hTu'
      clear hTu'
      have HB := HB9
      clear HB9
      rw [rounds_succ]
      have cTu := (rowN_cell hTu).1 0
      have HVV := Lib.hid hV
      go_upto_region 10 with fail
      clear cTu
      go_cut [9, 10, 11] from 9 to 35 (fun s9 s10 s11 wx => ∃ bK bL bQ : Nat, s9 = .pointer (some ⟨bK, 0, none⟩) ∧ s10 = .pointer (some ⟨bL, 0, none⟩) ∧ s11 = .pointer (some ⟨bQ, 0, none⟩) ∧ bK ≠ bL ∧ bQ ≠ bL ∧ bQ ≠ bK ∧ W9.heap.size ≤ bK ∧ W9.heap.size ≤ bL ∧ W9.heap.size ≤ bQ ∧ rowN wx bK = some #[.int .i64 0] ∧ rowN wx bL = some #[.int .i64 1] ∧ rowN wx bQ = some #[.int .i64 (v : Nat)] ∧ Below W9.heap.size W9 wx)
      case first =>
        refine pm_reg10 HVV (fun bK bL bQ _ wx n1 n2 n3 n4 n5 n6 hK hL hQ hB => ?_)
        go_wp2_with fail
        go_meet
        exact ⟨bK, bL, bQ, rfl, rfl, rfl, n1, n2, n3, n4, n5, n6, hK, hL, hQ, hB⟩
      obtain ⟨bK, bL, bQ, rfl, rfl, rfl, n1, n2, n3, n4, n5, n6, hK, hL, hQ, hBx⟩ := hcut
      clear HVV
      go_wp2_with fail
      have lTu := rowN_lt hTu
      have lM := rowN_lt hM
      have lV := rowN_lt hV
      have lR := rowN_lt hR
      have hSx := kept hBx _ _ hS
      have lW := hBx.size
      have HI0 := Lib.hid (pmI_start (v := v) hK hL hQ hBx)
      clear hK hL hQ hBx
      refine (wpIn_wide (n := 5)).1 ?_
      refine wpIn_rangeFunc_ownF rfl (by omega) (gf := 53) (lb := #[.pointer (some ⟨bS, 0, none⟩)]) rfl trivial (enters_of Try.func53 (by kernel_rfl) rfl)
        (factors1_stops (5 - 1) bS v H2.out HV.out _ hSx) (fun {A B C} _ _ => trivial) (fun _ _ _ _ _ _ _ _ => trivial) (Below.refl _ _) (fun _ => rfl)
        (PmI v bK bL bQ W9) (PmX v 1 W9) (pmI_own lW) (fun c => pmX_own lW c) HI0.out ?a1x3 ?assignx3 ?bodyx3 ?donex3 ?stopx3
      case assignx3 =>
        intro l x W K hK
        gi_wp2
        exact hK
      case bodyx3 =>
        rintro l pre x W ⟨⟨hg, hK, hL, hQ⟩, hBW⟩ hlen
        have hVw := kept hBW _ _ hV
        have hMw := kept hBW _ _ hM
        have hRw := kept hBW _ _ hR
        have hTuw := kept hBW _ _ hTu
        obtain ⟨b1, b2, b3, b4⟩ := fp_le HV0.out x
        have b5 := b4 HV.out
        have HPX := Lib.hid (rprime_any x.1.1 (by have := HV.out; omega))
        rw [(primeB_iff _).2 x.2.1] at HPX
        obtain ⟨xp, hxp⟩ : ∃ xp, x.1.1 = xp := ⟨_, rfl⟩
        obtain ⟨xe, hxe⟩ : ∃ xe, x.1.2 = xe := ⟨_, rfl⟩
        obtain ⟨kk, hkk⟩ : ∃ kk, pre.length = kk := ⟨_, rfl⟩
        obtain ⟨lst, hls⟩ : ∃ l, lastF (vals pre) = l := ⟨_, rfl⟩
        rw [hkk] at hK hlen
        have HKB := Lib.hid hlen
        clear hlen
        rw [hls] at hL
        rw [hxp] at b1 b2 HPX
        rw [hxe] at b3 b5
        have HXP := Lib.hid hxp
        have HXE := Lib.hid hxe
        have HKK := Lib.hid hkk
        have HLS := Lib.hid hls
        have HG := Lib.hid hg
        have HBW := Lib.hid hBW
        simp only [encF, hxp, hxe]
        have cV := (rowN_cell hVw).1 0
        have cM := (rowN_cell hMw).1 0
        have cR := (rowN_cell hRw).1 0
        have fR := (rowN_cell hRw).2 0
        have cTu := (rowN_cell hTuw).1 0
        have cL := (rowN_cell hL).1 0
        have HVw := Lib.hid hVw
        have HMw := Lib.hid hMw
        have HTuw := Lib.hid hTuw
        have HK := Lib.hid hK
        have HL := Lib.hid hL
        have HQ := Lib.hid hQ
        have e1 : decide (((xe : Nat) : Int) < 1) = false := decide_eq_false (by omega)
        have e1' : decide (xe = 0) = false := decide_eq_false (by omega)
        clear hVw hMw hRw hTuw hK hL hQ hg hkk hls hxp hxe hBW b4 cM
        by_cases hx : lst < xp
        · have e0 : decide (((xp : Nat) : Int) ≤ ((lst : Nat) : Int)) = false := decide_eq_false (by omega)
          have e0' : decide (xp ≤ lst) = false := decide_eq_false (by omega)
          obtain ⟨s, g1, g2, g3, g4, g5⟩ := goodF_rest HV0.out HG.out (show lastF (vals pre) < x.1.1 by rw [HLS.out, HXP.out]; exact hx)
          have HX := Lib.hid (show lastF (vals pre) < x.1.1 by rw [HLS.out, HXP.out]; exact hx)
          rw [HXP.out] at g2
          rw [HXP.out, HXE.out] at g1
          rw [g1] at g5
          have hQ2 : rowN W bQ = some #[.int .i64 ((xp ^ (xe - 0) * s : Nat))] := by rw [HQ.out, g1, Nat.sub_zero]
          have G2 := Lib.hid g2
          have G3 := Lib.hid g3
          have G5 := Lib.hid g5
          have HQ2 := Lib.hid hQ2
          clear g1 g2 g3 g5 hQ2 HQ
          gi_wp2_with fail
          refine ⟨trivial, ?_⟩
          refine (CallsIn.inRound l (callsIn_wide.2 (HPX.out _))).mono ?_
          rintro e w1 ⟨rfl, hw⟩
          subst w1
          gi_wp2_with fail
          clear cV cR fR e0 e0' e1 e1' cTu cL
          gi_loopw [14] (fun si wr => PmL xp xe s kk lst bK bL bQ W9 W si wr) (fun si _ => xe - (intOf si).toNat)
          case atStart => exact ⟨0, by omega, rfl, HQ2.out, HK.out, HL.out, HBW.out, KeepsOthers.refl _⟩
          case round =>
            clear HQ2 HK HL
            obtain ⟨i, hi, rfl, hQ, hK, hL, hB, hKO⟩ := hrel
            have HBr := Lib.hid hB
            have HKO := Lib.hid hKO
            have HK := Lib.hid hK
            have HL := Lib.hid hL
            have hle : xp ^ (xe - i) * s ≤ v := Nat.le_trans (Nat.mul_le_mul_right _ (Nat.pow_le_pow_right (by omega) (by omega))) G5.out
            obtain ⟨R, hR2⟩ : ∃ R, xp ^ (xe - i) * s = R := ⟨_, rfl⟩
            rw [hR2] at hQ hle
            have HQ := Lib.hid hQ
            have HR2 := Lib.hid hR2
            have cQ := (rowN_cell hQ).1 0
            have fQ := (rowN_cell hQ).2 0
            have hvv : v < 4294967296 := HV.out
            clear hQ hK hL hB hKO hR2
            by_cases hie : i < xe
            · have hpp := pow_pred (xp := xp) (s := s) (show 0 < xe - i by omega)
              rw [HR2.out] at hpp
              have hd : xp ∣ R := ⟨_, hpp⟩
              have hq : R / xp = xp ^ (xe - (i + 1)) * s := by
                rw [hpp, Nat.mul_div_cancel_left _ (by omega), show xe - i - 1 = xe - (i + 1) by omega]
              have HQQ := Lib.hid hq
              have k1 : decide (i < xe) = true := decide_eq_true hie
              have d0 : ((R : Nat) : Int) % ((xp : Nat) : Int) = 0 := Int.emod_eq_zero_of_dvd (Int.natCast_dvd_natCast.2 hd)
              have d1 : (((R : Nat) : Int) % ((xp : Nat) : Int) != 0) = false := by rw [d0]; rfl
              clear hpp hq d0
              gi_wp2_with fail
              have hw2 := div_wrap (s := R) (q := xp) (by omega)
              rw [hw2]
              exact ⟨pmL_step hie (by rw [HQQ.out]) ⟨_, HQ.out⟩ HK.out HL.out HBr.out HKO.out (by omega) (by omega) (by omega), by simp [intOf]; omega⟩
            · obtain rfl : i = xe := by omega
              have hRs : R = s := by rw [← HR2.out, Nat.sub_self, Nat.pow_zero, Nat.one_mul]
              have hd : ¬ xp ∣ R := by rw [hRs]; exact G2.out
              have k1 : decide (i < i) = false := decide_eq_false (by omega)
              have d0 : ¬ ((R : Nat) : Int) % ((xp : Nat) : Int) = 0 := fun e => hd (Int.natCast_dvd_natCast.1 (Int.dvd_of_emod_eq_zero e))
              have d1 : (((R : Nat) : Int) % ((xp : Nat) : Int) == 0) = false := by rw [beq_eq_false_iff_ne]; exact d0
              have cK := (rowN_cell HK.out).1 0
              have fK := (rowN_cell HK.out).2 0
              have cL := (rowN_cell HL.out).1 0
              have fL := (rowN_cell HL.out).2 0
              have cTu := (rowN_cell (kept HBr.out _ _ hTu)).1 0
              have cM := (rowN_cell (kept HBr.out _ _ hM)).1 0
              have HQs := Lib.hid (show rowN wr bQ = some #[.int .i64 (s : Nat)] by rw [← hRs]; exact HQ.out)
              clear hRs
              have KB : kk ≤ 9223372036854775806 := by have := HKB.out; omega
              gi_wp2_with fail
              exact ⟨HKO.out.trans ((KeepsOthers.setCell _ _ _).trans (KeepsOthers.setCell _ _ _)), trivial, pmI_next HG.out HX.out HXP.out G3.out HKK.out rfl HQs.out HK.out ⟨_, HL.out⟩ HBr.out (by omega) (by omega) (by omega) (by omega) (by omega)⟩
        · have e0 : decide (((xp : Nat) : Int) ≤ ((lst : Nat) : Int)) = true := decide_eq_true (by omega)
          have e0' : decide (xp ≤ lst) = true := decide_eq_true (by omega)
          gi_wp2_with fail
          refine ⟨trivial, ?_⟩
          gi_wp2_with fail
          exact ⟨KeepsOthers.setCell _ _ _, .inl ⟨pre, x, rfl, by rw [HLS.out, HXP.out]; exact hx⟩⟩
      case donex3 =>
        rintro D1 xs W hD1 hSx2 ⟨⟨hg, hK, hL, hQ⟩, hBW⟩ hDK1
        rw [goodF_all HV0.out hSx2] at hQ
        clear hSx2 hg hK hL
        clear HI0
        have cQ := (rowN_cell hQ).1 0
        have cTu := (rowN_cell (kept hBW _ _ hTu)).1 0
        have cV := (rowN_cell (kept hBW _ _ hV)).1 0
        have HBW := Lib.hid hBW
        clear hBW hQ
        go_wp2_with fail
        clear cQ cV
        have hTu2 : rowN (W.alloc (.cells #[.int .i64 2] 3)) W.heap.size = some #[.int .i64 2] := by rw [rowN_alloc, if_pos rfl]
        have cTu2 := (rowN_cell hTu2).1 0
        have hb8 : Below W.heap.size W (W.alloc (.cells #[.int .i64 2] 3)) := (Below.refl _ W).alloc (Nat.le_refl _) _
        have hV8 := kept hb8 _ _ (kept HBW.out _ _ hV)
        have cV8 := (rowN_cell hV8).1 0
        clear cTu hTu2 hV8
        rw [rounds_succ]
        go_wp2_with fail
        clear cTu2
        refine (HRP.out _).mono ?_
        rintro e wP ⟨rfl, hw⟩
        subst hw
        go_wp2_with fail
        refine (known_any _).mono ?_
        rintro e wK ⟨rfl, hb⟩
        have hbb := hb8.trans (hb.mono hb8.size)
        have hRk := kept hbb _ _ (kept HBW.out _ _ hR)
        have cR := (rowN_cell hRk).1 0
        have fR := (rowN_cell hRk).2 0
        obtain ⟨k1, k2, k3, k4⟩ := pm_end HB.out HBW.out hbb HD9.out hDK1 (by omega) hD0w (by omega) hRk
        have K1 := Lib.hid k1
        have K2 := Lib.hid k2
        have K3 := Lib.hid k3
        have K4 := Lib.hid k4
        clear k1 k2 k3 k4 hb hbb hb8 cV8 hDK1 hRk
        go_wp2_with fail
        refine ⟨by simp, .inl ⟨_, _, rfl, run_takeDeferred K1.out, ?_⟩⟩
        refine ⟨by simp, .inl ⟨_, _, rfl, run_takeDeferred K2.out, ?_⟩⟩
        exact ⟨_, results_bool4 _ _ rfl rfl K3.out, rfl, K4.out⟩
      case stopx3 =>
        rintro D1 c pre W hD1 hSp hX hDK1
        rcases hX with ⟨pre', x, rfl, hbad⟩ | ⟨⟨rfl, htt⟩, hBW⟩
        · exact absurd (goodF_bad hSp) hbad
        · exact absurd htt (by decide)

set_option maxRecDepth 100000 in
set_option maxHeartbeats 8000000 in
theorem pm_neg (z many : Int) (w : World) (hz : z < 0) :
    Calls Try.prog 7 #[.int .i64 z, .int .i64 many] w fun e w' => e = .returned (.bool true) ∧ Below w.heap.size w w' := by
  have HP := Lib.hid (fun W => prime_neg z hz W)
  have t0 : decide (z ≥ 16777216) = false := decide_eq_false (by omega)
  have t1 : decide (z < 2) = true := decide_eq_true (by omega)
  have t2 : decide (z ≥ 4294967296) = false := decide_eq_false (by omega)
  have t3 : decide (z ≥ 2) = false := decide_eq_false (by omega)
  have t4 : decide (z < 4294967296) = true := decide_eq_true (by omega)
  have t5 : decide (z < 0) = true := decide_eq_true (by omega)
  have t0' : decide (16777216 ≤ z) = false := decide_eq_false (by omega)
  have t2' : decide (4294967296 ≤ z) = false := decide_eq_false (by omega)
  have t3' : decide (2 ≤ z) = false := decide_eq_false (by omega)
  refine (callsIn_wide (n := 5)).1 ?_
  refine callsIn_of_wp_marks Try.func7 rfl trivial ?_ rfl
  simp only [Try.ntmps7, List.size_toArray, List.length_cons, List.length_nil, Nat.reduceAdd, Nat.reduceSub, Array.replicate_succ, Array.replicate_zero, List.push_toArray, List.append_toArray, List.nil_append, List.cons_append]
  refine wpIn_wide.2 ?_
  go_wp2_with fail
  have hb0 : Below w.heap.size w (((w.alloc (.cells #[.int .i64 z] 3)).alloc (.cells #[.int .i64 many] 3)).alloc (.cells #[.bool false] 4)) := (((Below.refl _ w).alloc (Nat.le_refl _) _).alloc (by simp) _).alloc (by simp <;> omega) _
  have hV : rowN (((w.alloc (.cells #[.int .i64 z] 3)).alloc (.cells #[.int .i64 many] 3)).alloc (.cells #[.bool false] 4)) w.heap.size = some #[.int .i64 z] := by
    simp only [rowN_alloc, World.size_alloc, if_true]; (repeat rw [if_neg (by omega)])
  have hM : rowN (((w.alloc (.cells #[.int .i64 z] 3)).alloc (.cells #[.int .i64 many] 3)).alloc (.cells #[.bool false] 4)) (w.heap.size + 1) = some #[.int .i64 many] := by
    simp only [rowN_alloc, World.size_alloc, if_true]; (repeat rw [if_neg (by omega)])
  have hR : rowN (((w.alloc (.cells #[.int .i64 z] 3)).alloc (.cells #[.int .i64 many] 3)).alloc (.cells #[.bool false] 4)) (w.heap.size + 1 + 1) = some #[.bool false] := by
    simp only [rowN_alloc, World.size_alloc, if_true]
  refine (HP.out _).mono ?_
  rintro e w2 ⟨rfl, hb⟩
  replace hV := kept hb _ _ hV
  replace hM := kept hb _ _ hM
  replace hR := kept hb _ _ hR
  have HB2 := Lib.hid (hb0.trans (hb.mono hb0.size))
  clear hb hb0
  have cV := (rowN_cell hV).1 0
  go_wp2_with fail
  clear cV
  refine (factors_any _ _).mono ?_
  rintro e w3 ⟨rfl, rfl⟩
  have hS : rowN (w2.alloc (.cells #[.int .i64 z] 3)) w2.heap.size = some #[.int .i64 z] := by rw [rowN_alloc, if_pos rfl]
  have hb3 : Below w2.heap.size w2 (w2.alloc (.cells #[.int .i64 z] 3)) := (Below.refl _ _).alloc (Nat.le_refl _) _
  replace hV := kept hb3 _ _ hV
  replace hM := kept hb3 _ _ hM
  replace hR := kept hb3 _ _ hR
  have HB3 := Lib.hid (HB2.out.trans (hb3.mono HB2.out.size))
  clear hb3 HB2
  generalize w2.heap.size = bS at *
  generalize w2.alloc (.cells #[.int .i64 z] 3) = W3 at *
  go_wp2_with fail
  have hTu : rowN (W3.alloc (.cells #[.int .i64 0] 3)) W3.heap.size = some #[.int .i64 0] := by rw [rowN_alloc, if_pos rfl]
  have hb7 : Below W3.heap.size W3 (W3.alloc (.cells #[.int .i64 0] 3)) := (Below.refl _ _).alloc (Nat.le_refl _) _
  replace hV := kept hb7 _ _ hV
  replace hM := kept hb7 _ _ hM
  replace hR := kept hb7 _ _ hR
  replace hS := kept hb7 _ _ hS
  have HB := Lib.hid (HB3.out.trans (hb7.mono HB3.out.size))
  clear hb7 HB3
  generalize W3.heap.size = bTu at *
  generalize W3.alloc (.cells #[.int .i64 0] 3) = Wb at *
  refine wp_loop_rounds 3 ?_
  rw [rounds_succ]
  have cTu := (rowN_cell hTu).1 0
  have HVV := Lib.hid hV
  go_upto_region 10 with fail
  clear cTu
  go_cut [9, 10, 11] from 9 to 35 (fun s9 s10 s11 wx => ∃ bK bL bQ : Nat, s9 = .pointer (some ⟨bK, 0, none⟩) ∧ s10 = .pointer (some ⟨bL, 0, none⟩) ∧ s11 = .pointer (some ⟨bQ, 0, none⟩) ∧ bK ≠ bL ∧ bQ ≠ bL ∧ bQ ≠ bK ∧ Wb.heap.size ≤ bK ∧ Wb.heap.size ≤ bL ∧ Wb.heap.size ≤ bQ ∧ rowN wx bK = some #[.int .i64 0] ∧ rowN wx bL = some #[.int .i64 1] ∧ rowN wx bQ = some #[.int .i64 z] ∧ Below Wb.heap.size Wb wx)
  case first =>
    refine pm_reg10 HVV (fun bK bL bQ _ wx n1 n2 n3 n4 n5 n6 hK hL hQ hB => ?_)
    go_wp2_with fail
    go_meet
    exact ⟨bK, bL, bQ, rfl, rfl, rfl, n1, n2, n3, n4, n5, n6, hK, hL, hQ, hB⟩
  obtain ⟨bK, bL, bQ, rfl, rfl, rfl, n1, n2, n3, n4, n5, n6, hK, hL, hQ, hBx⟩ := hcut
  clear HVV
  go_wp2_with fail
  have lTu := rowN_lt hTu
  have lM := rowN_lt hM
  have lV := rowN_lt hV
  have lR := rowN_lt hR
  have hSx := kept hBx _ _ hS
  have lW := hBx.size
  have HI0 := Lib.hid (show PzI z bK bL bQ Wb [] wc from ⟨⟨rfl, hQ⟩, hBx⟩)
  clear hK hL hQ hBx
  refine (wpIn_wide (n := 5)).1 ?_
  refine wpIn_rangeFunc_ownF rfl (by omega) (gf := 53) (lb := #[.pointer (some ⟨bS, 0, none⟩)]) rfl trivial (enters_of Try.func53 (by kernel_rfl) rfl)
    (factors1_none 0 (5 - 1) bS z (by omega) _ hSx) (fun {A B C} _ _ => trivial) (fun _ _ _ _ _ _ _ _ => trivial) (Below.refl _ _) (fun _ => rfl)
    (PzI z bK bL bQ Wb) PzX (pzI_own lW) (fun c => pzX_own c) HI0.out ?a1x1 ?assignx1 ?bodyx1 ?donex1 ?stopx1
  case assignx1 =>
    intro l x W K hK
    gi_wp2
    exact hK
  case bodyx1 =>
    intro l pre x W _ hlen
    exact absurd hlen (by omega)
  case donex1 =>
    rintro D0 xs W hD0 _ ⟨⟨_, hQ⟩, hBW⟩ hDK0
    clear HI0
    have cQ := (rowN_cell hQ).1 0
    have cTu := (rowN_cell (kept hBW _ _ hTu)).1 0
    have cV := (rowN_cell (kept hBW _ _ hV)).1 0
    have HBW := Lib.hid hBW
    clear hBW hQ
    go_wp2_with fail
    clear cQ cV
    clear cTu
    have hTu' : rowN (W.alloc (.cells #[.int .i64 1] 3)) W.heap.size = some #[.int .i64 1] := by rw [rowN_alloc, if_pos rfl]
    have hb9 := HBW.out.trans (((Below.refl _ W).alloc (Nat.le_refl _) (.cells #[.int .i64 1] 3)).mono HBW.out.size)
    replace hV := kept hb9 _ _ hV
    replace hM := kept hb9 _ _ hM
    replace hR := kept hb9 _ _ hR
    replace hS := kept hb9 _ _ hS
    have HB9 := Lib.hid (HB.out.trans (hb9.mono HB.out.size))
    have hD9 : (W.alloc (.cells #[.int .i64 1] 3)).heap[D0]? = some (.deferred (some [])) := (((Below.refl _ W).alloc (Nat.le_refl _) (.cells #[.int .i64 1] 3)).block D0 (Array.getElem?_eq_some_iff.1 hDK0).1).trans hDK0
    have HD9 := Lib.hid hD9
    have hD0w : w.heap.size ≤ D0 := by have := HB.out.size; omega
    clear hb9 hD9 hDK0 hTu HB HBW hSx lW n1 n2 n3 n4 n5 n6 hD0 lTu lM lV lR
    generalize W.heap.size = bTu2 at *
    generalize W.alloc (.cells #[.int .i64 1] 3) = W9 at *
    have hTu := hTu'
    clear hTu'
    have HB := HB9
    clear HB9
    rw [rounds_succ]
    have cTu := (rowN_cell hTu).1 0
    have HVV := Lib.hid hV
    go_upto_region 10 with fail
    clear cTu
    go_cut [9, 10, 11] from 9 to 35 (fun s9 s10 s11 wx => ∃ bK bL bQ : Nat, s9 = .pointer (some ⟨bK, 0, none⟩) ∧ s10 = .pointer (some ⟨bL, 0, none⟩) ∧ s11 = .pointer (some ⟨bQ, 0, none⟩) ∧ bK ≠ bL ∧ bQ ≠ bL ∧ bQ ≠ bK ∧ W9.heap.size ≤ bK ∧ W9.heap.size ≤ bL ∧ W9.heap.size ≤ bQ ∧ rowN wx bK = some #[.int .i64 0] ∧ rowN wx bL = some #[.int .i64 1] ∧ rowN wx bQ = some #[.int .i64 z] ∧ Below W9.heap.size W9 wx)
    case first =>
      refine pm_reg10 HVV (fun bK bL bQ _ wx n1 n2 n3 n4 n5 n6 hK hL hQ hB => ?_)
      go_wp2_with fail
      go_meet
      exact ⟨bK, bL, bQ, rfl, rfl, rfl, n1, n2, n3, n4, n5, n6, hK, hL, hQ, hB⟩
    obtain ⟨bK, bL, bQ, rfl, rfl, rfl, n1, n2, n3, n4, n5, n6, hK, hL, hQ, hBx⟩ := hcut
    clear HVV
    go_wp2_with fail
    have lTu := rowN_lt hTu
    have lM := rowN_lt hM
    have lV := rowN_lt hV
    have lR := rowN_lt hR
    have hSx := kept hBx _ _ hS
    have lW := hBx.size
    have HI0 := Lib.hid (show PzI z bK bL bQ W9 [] wc from ⟨⟨rfl, hQ⟩, hBx⟩)
    clear hK hL hQ hBx
    refine (wpIn_wide (n := 5)).1 ?_
    refine wpIn_rangeFunc_ownF rfl (by omega) (gf := 53) (lb := #[.pointer (some ⟨bS, 0, none⟩)]) rfl trivial (enters_of Try.func53 (by kernel_rfl) rfl)
      (factors1_none 0 (5 - 1) bS z (by omega) _ hSx) (fun {A B C} _ _ => trivial) (fun _ _ _ _ _ _ _ _ => trivial) (Below.refl _ _) (fun _ => rfl)
      (PzI z bK bL bQ W9) PzX (pzI_own lW) (fun c => pzX_own c) HI0.out ?a1x2 ?assignx2 ?bodyx2 ?donex2 ?stopx2
    case assignx2 =>
      intro l x W K hK
      gi_wp2
      exact hK
    case bodyx2 =>
      intro l pre x W _ hlen
      exact absurd hlen (by omega)
    case donex2 =>
      rintro D1 xs W hD1 _ ⟨⟨_, hQ⟩, hBW⟩ hDK1
      clear HI0
      have cQ := (rowN_cell hQ).1 0
      have cTu := (rowN_cell (kept hBW _ _ hTu)).1 0
      have cV := (rowN_cell (kept hBW _ _ hV)).1 0
      have HBW := Lib.hid hBW
      clear hBW hQ
      go_wp2_with fail
      clear cQ cV
      have hTu2 : rowN (W.alloc (.cells #[.int .i64 2] 3)) W.heap.size = some #[.int .i64 2] := by rw [rowN_alloc, if_pos rfl]
      have cTu2 := (rowN_cell hTu2).1 0
      have hb8 : Below W.heap.size W (W.alloc (.cells #[.int .i64 2] 3)) := (Below.refl _ W).alloc (Nat.le_refl _) _
      have hV8 := kept hb8 _ _ (kept HBW.out _ _ hV)
      have cV8 := (rowN_cell hV8).1 0
      clear cTu hTu2 hV8
      rw [rounds_succ]
      go_wp2_with fail
      clear cTu2
      refine (known_any _).mono ?_
      rintro e wK ⟨rfl, hb⟩
      have hbb := hb8.trans (hb.mono hb8.size)
      have hRk := kept hbb _ _ (kept HBW.out _ _ hR)
      have cR := (rowN_cell hRk).1 0
      have fR := (rowN_cell hRk).2 0
      obtain ⟨k1, k2, k3, k4⟩ := pm_end HB.out HBW.out hbb HD9.out hDK1 (by omega) hD0w (by omega) hRk
      have K1 := Lib.hid k1
      have K2 := Lib.hid k2
      have K3 := Lib.hid k3
      have K4 := Lib.hid k4
      clear k1 k2 k3 k4 hb hbb hb8 cV8 hDK1 hRk
      go_wp2_with fail
      refine ⟨by simp, .inl ⟨_, _, rfl, run_takeDeferred K1.out, ?_⟩⟩
      refine ⟨by simp, .inl ⟨_, _, rfl, run_takeDeferred K2.out, ?_⟩⟩
      exact ⟨_, results_bool4 _ _ rfl rfl K3.out, rfl, K4.out⟩
    case stopx2 =>
      rintro D c pre W _ _ h _
      exact h.elim
  case stopx1 =>
    rintro D c pre W _ _ h _
    exact h.elim

set_option maxRecDepth 100000 in
set_option maxHeartbeats 8000000 in
theorem pm_low (v : Nat) (many : Int) (w : World) (hv : v < 2) :
    Calls Try.prog 7 #[.int .i64 (v : Nat), .int .i64 many] w fun e w' => e = .returned (.bool true) ∧ Below w.heap.size w w' := by
  have HP := Lib.hid (fun W => prime_low v hv W)
  have HRP := Lib.hid (fun W => rprime_any v (by omega) W)
  have hpb : primeB v = false := by
    cases h : primeB v with
    | false => rfl
    | true => exact absurd ((primeB_iff v).1 h).1 (by omega)
  rw [hpb] at HRP
  clear hpb
  have t0 : decide (((v : Nat) : Int) ≥ 16777216) = false := decide_eq_false (by omega)
  have t1 : decide (((v : Nat) : Int) < 2) = true := decide_eq_true (by omega)
  have t2 : decide (((v : Nat) : Int) ≥ 4294967296) = false := decide_eq_false (by omega)
  have t3 : decide (((v : Nat) : Int) ≥ 2) = false := decide_eq_false (by omega)
  have t4 : decide (((v : Nat) : Int) < 4294967296) = true := decide_eq_true (by omega)
  have t5 : decide (((v : Nat) : Int) < 0) = false := decide_eq_false (by omega)
  have t0' : decide (16777216 ≤ ((v : Nat) : Int)) = false := decide_eq_false (by omega)
  have t2' : decide (4294967296 ≤ ((v : Nat) : Int)) = false := decide_eq_false (by omega)
  have t3' : decide (2 ≤ ((v : Nat) : Int)) = false := decide_eq_false (by omega)
  refine (callsIn_wide (n := 5)).1 ?_
  refine callsIn_of_wp_marks Try.func7 rfl trivial ?_ rfl
  simp only [Try.ntmps7, List.size_toArray, List.length_cons, List.length_nil, Nat.reduceAdd, Nat.reduceSub, Array.replicate_succ, Array.replicate_zero, List.push_toArray, List.append_toArray, List.nil_append, List.cons_append]
  refine wpIn_wide.2 ?_
  go_wp2_with fail
  have hb0 : Below w.heap.size w (((w.alloc (.cells #[.int .i64 (v : Nat)] 3)).alloc (.cells #[.int .i64 many] 3)).alloc (.cells #[.bool false] 4)) := (((Below.refl _ w).alloc (Nat.le_refl _) _).alloc (by simp) _).alloc (by simp <;> omega) _
  have hV : rowN (((w.alloc (.cells #[.int .i64 (v : Nat)] 3)).alloc (.cells #[.int .i64 many] 3)).alloc (.cells #[.bool false] 4)) w.heap.size = some #[.int .i64 (v : Nat)] := by
    simp only [rowN_alloc, World.size_alloc, if_true]; (repeat rw [if_neg (by omega)])
  have hM : rowN (((w.alloc (.cells #[.int .i64 (v : Nat)] 3)).alloc (.cells #[.int .i64 many] 3)).alloc (.cells #[.bool false] 4)) (w.heap.size + 1) = some #[.int .i64 many] := by
    simp only [rowN_alloc, World.size_alloc, if_true]; (repeat rw [if_neg (by omega)])
  have hR : rowN (((w.alloc (.cells #[.int .i64 (v : Nat)] 3)).alloc (.cells #[.int .i64 many] 3)).alloc (.cells #[.bool false] 4)) (w.heap.size + 1 + 1) = some #[.bool false] := by
    simp only [rowN_alloc, World.size_alloc, if_true]
  refine (HP.out _).mono ?_
  rintro e w2 ⟨rfl, hb⟩
  replace hV := kept hb _ _ hV
  replace hM := kept hb _ _ hM
  replace hR := kept hb _ _ hR
  have HB2 := Lib.hid (hb0.trans (hb.mono hb0.size))
  clear hb hb0
  have cV := (rowN_cell hV).1 0
  go_wp2_with fail
  clear cV
  refine (factors_any _ _).mono ?_
  rintro e w3 ⟨rfl, rfl⟩
  have hS : rowN (w2.alloc (.cells #[.int .i64 (v : Nat)] 3)) w2.heap.size = some #[.int .i64 (v : Nat)] := by rw [rowN_alloc, if_pos rfl]
  have hb3 : Below w2.heap.size w2 (w2.alloc (.cells #[.int .i64 (v : Nat)] 3)) := (Below.refl _ _).alloc (Nat.le_refl _) _
  replace hV := kept hb3 _ _ hV
  replace hM := kept hb3 _ _ hM
  replace hR := kept hb3 _ _ hR
  have HB3 := Lib.hid (HB2.out.trans (hb3.mono HB2.out.size))
  clear hb3 HB2
  generalize w2.heap.size = bS at *
  generalize w2.alloc (.cells #[.int .i64 (v : Nat)] 3) = W3 at *
  go_wp2_with fail
  have hTu : rowN (W3.alloc (.cells #[.int .i64 0] 3)) W3.heap.size = some #[.int .i64 0] := by rw [rowN_alloc, if_pos rfl]
  have hb7 : Below W3.heap.size W3 (W3.alloc (.cells #[.int .i64 0] 3)) := (Below.refl _ _).alloc (Nat.le_refl _) _
  replace hV := kept hb7 _ _ hV
  replace hM := kept hb7 _ _ hM
  replace hR := kept hb7 _ _ hR
  replace hS := kept hb7 _ _ hS
  have HB := Lib.hid (HB3.out.trans (hb7.mono HB3.out.size))
  clear hb7 HB3
  generalize W3.heap.size = bTu at *
  generalize W3.alloc (.cells #[.int .i64 0] 3) = Wb at *
  refine wp_loop_rounds 3 ?_
  rw [rounds_succ]
  have cTu := (rowN_cell hTu).1 0
  have HVV := Lib.hid hV
  go_upto_region 10 with fail
  clear cTu
  go_cut [9, 10, 11] from 9 to 35 (fun s9 s10 s11 wx => ∃ bK bL bQ : Nat, s9 = .pointer (some ⟨bK, 0, none⟩) ∧ s10 = .pointer (some ⟨bL, 0, none⟩) ∧ s11 = .pointer (some ⟨bQ, 0, none⟩) ∧ bK ≠ bL ∧ bQ ≠ bL ∧ bQ ≠ bK ∧ Wb.heap.size ≤ bK ∧ Wb.heap.size ≤ bL ∧ Wb.heap.size ≤ bQ ∧ rowN wx bK = some #[.int .i64 0] ∧ rowN wx bL = some #[.int .i64 1] ∧ rowN wx bQ = some #[.int .i64 (v : Nat)] ∧ Below Wb.heap.size Wb wx)
  case first =>
    refine pm_reg10 HVV (fun bK bL bQ _ wx n1 n2 n3 n4 n5 n6 hK hL hQ hB => ?_)
    go_wp2_with fail
    go_meet
    exact ⟨bK, bL, bQ, rfl, rfl, rfl, n1, n2, n3, n4, n5, n6, hK, hL, hQ, hB⟩
  obtain ⟨bK, bL, bQ, rfl, rfl, rfl, n1, n2, n3, n4, n5, n6, hK, hL, hQ, hBx⟩ := hcut
  clear HVV
  go_wp2_with fail
  have lTu := rowN_lt hTu
  have lM := rowN_lt hM
  have lV := rowN_lt hV
  have lR := rowN_lt hR
  have hSx := kept hBx _ _ hS
  have lW := hBx.size
  have HI0 := Lib.hid (show PzI ((v : Nat) : Int) bK bL bQ Wb [] wc from ⟨⟨rfl, hQ⟩, hBx⟩)
  clear hK hL hQ hBx
  refine (wpIn_wide (n := 5)).1 ?_
  refine wpIn_rangeFunc_ownF rfl (by omega) (gf := 53) (lb := #[.pointer (some ⟨bS, 0, none⟩)]) rfl trivial (enters_of Try.func53 (by kernel_rfl) rfl)
    (factors1_none 0 (5 - 1) bS ((v : Nat) : Int) (by omega) _ hSx) (fun {A B C} _ _ => trivial) (fun _ _ _ _ _ _ _ _ => trivial) (Below.refl _ _) (fun _ => rfl)
    (PzI ((v : Nat) : Int) bK bL bQ Wb) PzX (pzI_own lW) (fun c => pzX_own c) HI0.out ?a1x1 ?assignx1 ?bodyx1 ?donex1 ?stopx1
  case assignx1 =>
    intro l x W K hK
    gi_wp2
    exact hK
  case bodyx1 =>
    intro l pre x W _ hlen
    exact absurd hlen (by omega)
  case donex1 =>
    rintro D0 xs W hD0 _ ⟨⟨_, hQ⟩, hBW⟩ hDK0
    clear HI0
    have cQ := (rowN_cell hQ).1 0
    have cTu := (rowN_cell (kept hBW _ _ hTu)).1 0
    have cV := (rowN_cell (kept hBW _ _ hV)).1 0
    have HBW := Lib.hid hBW
    clear hBW hQ
    go_wp2_with fail
    clear cQ cV
    clear cTu
    have hTu' : rowN (W.alloc (.cells #[.int .i64 1] 3)) W.heap.size = some #[.int .i64 1] := by rw [rowN_alloc, if_pos rfl]
    have hb9 := HBW.out.trans (((Below.refl _ W).alloc (Nat.le_refl _) (.cells #[.int .i64 1] 3)).mono HBW.out.size)
    replace hV := kept hb9 _ _ hV
    replace hM := kept hb9 _ _ hM
    replace hR := kept hb9 _ _ hR
    replace hS := kept hb9 _ _ hS
    have HB9 := Lib.hid (HB.out.trans (hb9.mono HB.out.size))
    have hD9 : (W.alloc (.cells #[.int .i64 1] 3)).heap[D0]? = some (.deferred (some [])) := (((Below.refl _ W).alloc (Nat.le_refl _) (.cells #[.int .i64 1] 3)).block D0 (Array.getElem?_eq_some_iff.1 hDK0).1).trans hDK0
    have HD9 := Lib.hid hD9
    have hD0w : w.heap.size ≤ D0 := by have := HB.out.size; omega
    clear hb9 hD9 hDK0 hTu HB HBW hSx lW n1 n2 n3 n4 n5 n6 hD0 lTu lM lV lR
    generalize W.heap.size = bTu2 at *
    generalize W.alloc (.cells #[.int .i64 1] 3) = W9 at *
    have hTu := hTu'
    clear hTu'
    have HB := HB9
    clear HB9
    rw [rounds_succ]
    have cTu := (rowN_cell hTu).1 0
    have HVV := Lib.hid hV
    go_upto_region 10 with fail
    clear cTu
    go_cut [9, 10, 11] from 9 to 35 (fun s9 s10 s11 wx => ∃ bK bL bQ : Nat, s9 = .pointer (some ⟨bK, 0, none⟩) ∧ s10 = .pointer (some ⟨bL, 0, none⟩) ∧ s11 = .pointer (some ⟨bQ, 0, none⟩) ∧ bK ≠ bL ∧ bQ ≠ bL ∧ bQ ≠ bK ∧ W9.heap.size ≤ bK ∧ W9.heap.size ≤ bL ∧ W9.heap.size ≤ bQ ∧ rowN wx bK = some #[.int .i64 0] ∧ rowN wx bL = some #[.int .i64 1] ∧ rowN wx bQ = some #[.int .i64 (v : Nat)] ∧ Below W9.heap.size W9 wx)
    case first =>
      refine pm_reg10 HVV (fun bK bL bQ _ wx n1 n2 n3 n4 n5 n6 hK hL hQ hB => ?_)
      go_wp2_with fail
      go_meet
      exact ⟨bK, bL, bQ, rfl, rfl, rfl, n1, n2, n3, n4, n5, n6, hK, hL, hQ, hB⟩
    obtain ⟨bK, bL, bQ, rfl, rfl, rfl, n1, n2, n3, n4, n5, n6, hK, hL, hQ, hBx⟩ := hcut
    clear HVV
    go_wp2_with fail
    have lTu := rowN_lt hTu
    have lM := rowN_lt hM
    have lV := rowN_lt hV
    have lR := rowN_lt hR
    have hSx := kept hBx _ _ hS
    have lW := hBx.size
    have HI0 := Lib.hid (show PzI ((v : Nat) : Int) bK bL bQ W9 [] wc from ⟨⟨rfl, hQ⟩, hBx⟩)
    clear hK hL hQ hBx
    refine (wpIn_wide (n := 5)).1 ?_
    refine wpIn_rangeFunc_ownF rfl (by omega) (gf := 53) (lb := #[.pointer (some ⟨bS, 0, none⟩)]) rfl trivial (enters_of Try.func53 (by kernel_rfl) rfl)
      (factors1_none 0 (5 - 1) bS ((v : Nat) : Int) (by omega) _ hSx) (fun {A B C} _ _ => trivial) (fun _ _ _ _ _ _ _ _ => trivial) (Below.refl _ _) (fun _ => rfl)
      (PzI ((v : Nat) : Int) bK bL bQ W9) PzX (pzI_own lW) (fun c => pzX_own c) HI0.out ?a1x2 ?assignx2 ?bodyx2 ?donex2 ?stopx2
    case assignx2 =>
      intro l x W K hK
      gi_wp2
      exact hK
    case bodyx2 =>
      intro l pre x W _ hlen
      exact absurd hlen (by omega)
    case donex2 =>
      rintro D1 xs W hD1 _ ⟨⟨_, hQ⟩, hBW⟩ hDK1
      clear HI0
      have cQ := (rowN_cell hQ).1 0
      have cTu := (rowN_cell (kept hBW _ _ hTu)).1 0
      have cV := (rowN_cell (kept hBW _ _ hV)).1 0
      have HBW := Lib.hid hBW
      clear hBW hQ
      go_wp2_with fail
      clear cQ cV
      have hTu2 : rowN (W.alloc (.cells #[.int .i64 2] 3)) W.heap.size = some #[.int .i64 2] := by rw [rowN_alloc, if_pos rfl]
      have cTu2 := (rowN_cell hTu2).1 0
      have hb8 : Below W.heap.size W (W.alloc (.cells #[.int .i64 2] 3)) := (Below.refl _ W).alloc (Nat.le_refl _) _
      have hV8 := kept hb8 _ _ (kept HBW.out _ _ hV)
      have cV8 := (rowN_cell hV8).1 0
      clear cTu hTu2 hV8
      rw [rounds_succ]
      go_wp2_with fail
      clear cTu2
      refine (HRP.out _).mono ?_
      rintro e wP ⟨rfl, hw⟩
      subst hw
      go_wp2_with fail
      refine (known_any _).mono ?_
      rintro e wK ⟨rfl, hb⟩
      have hbb := hb8.trans (hb.mono hb8.size)
      have hRk := kept hbb _ _ (kept HBW.out _ _ hR)
      have cR := (rowN_cell hRk).1 0
      have fR := (rowN_cell hRk).2 0
      obtain ⟨k1, k2, k3, k4⟩ := pm_end HB.out HBW.out hbb HD9.out hDK1 (by omega) hD0w (by omega) hRk
      have K1 := Lib.hid k1
      have K2 := Lib.hid k2
      have K3 := Lib.hid k3
      have K4 := Lib.hid k4
      clear k1 k2 k3 k4 hb hbb hb8 cV8 hDK1 hRk
      go_wp2_with fail
      refine ⟨by simp, .inl ⟨_, _, rfl, run_takeDeferred K1.out, ?_⟩⟩
      refine ⟨by simp, .inl ⟨_, _, rfl, run_takeDeferred K2.out, ?_⟩⟩
      exact ⟨_, results_bool4 _ _ rfl rfl K3.out, rfl, K4.out⟩
    case stopx2 =>
      rintro D c pre W _ _ h _
      exact h.elim
  case stopx1 =>
    rintro D c pre W _ _ h _
    exact h.elim

set_option maxRecDepth 100000 in
set_option maxHeartbeats 8000000 in
theorem pm_big (z many : Int) (w : World) (hz : 4294967296 ≤ z) :
    Calls Try.prog 7 #[.int .i64 z, .int .i64 many] w fun e w' => e = .returned (.bool true) ∧ Below w.heap.size w w' := by
  have HP := Lib.hid (fun W => prime_big z hz W)
  have t0 : decide (z ≥ 16777216) = true := decide_eq_true (by omega)
  have t1 : decide (z < 2) = false := decide_eq_false (by omega)
  have t2 : decide (z ≥ 4294967296) = true := decide_eq_true (by omega)
  have t3 : decide (z ≥ 2) = true := decide_eq_true (by omega)
  have t4 : decide (z < 4294967296) = false := decide_eq_false (by omega)
  have t5 : decide (z < 0) = false := decide_eq_false (by omega)
  have t0' : decide (16777216 ≤ z) = true := decide_eq_true (by omega)
  have t2' : decide (4294967296 ≤ z) = true := decide_eq_true (by omega)
  have t3' : decide (2 ≤ z) = true := decide_eq_true (by omega)
  refine (callsIn_wide (n := 5)).1 ?_
  refine callsIn_of_wp_marks Try.func7 rfl trivial ?_ rfl
  simp only [Try.ntmps7, List.size_toArray, List.length_cons, List.length_nil, Nat.reduceAdd, Nat.reduceSub, Array.replicate_succ, Array.replicate_zero, List.push_toArray, List.append_toArray, List.nil_append, List.cons_append]
  refine wpIn_wide.2 ?_
  go_wp2_with fail
  have hb0 : Below w.heap.size w (((w.alloc (.cells #[.int .i64 z] 3)).alloc (.cells #[.int .i64 many] 3)).alloc (.cells #[.bool false] 4)) := (((Below.refl _ w).alloc (Nat.le_refl _) _).alloc (by simp) _).alloc (by simp <;> omega) _
  have hV : rowN (((w.alloc (.cells #[.int .i64 z] 3)).alloc (.cells #[.int .i64 many] 3)).alloc (.cells #[.bool false] 4)) w.heap.size = some #[.int .i64 z] := by
    simp only [rowN_alloc, World.size_alloc, if_true]; (repeat rw [if_neg (by omega)])
  have hM : rowN (((w.alloc (.cells #[.int .i64 z] 3)).alloc (.cells #[.int .i64 many] 3)).alloc (.cells #[.bool false] 4)) (w.heap.size + 1) = some #[.int .i64 many] := by
    simp only [rowN_alloc, World.size_alloc, if_true]; (repeat rw [if_neg (by omega)])
  have hR : rowN (((w.alloc (.cells #[.int .i64 z] 3)).alloc (.cells #[.int .i64 many] 3)).alloc (.cells #[.bool false] 4)) (w.heap.size + 1 + 1) = some #[.bool false] := by
    simp only [rowN_alloc, World.size_alloc, if_true]
  refine (HP.out _).mono ?_
  rintro e w2 ⟨rfl, hb⟩
  replace hV := kept hb _ _ hV
  replace hM := kept hb _ _ hM
  replace hR := kept hb _ _ hR
  have HB2 := Lib.hid (hb0.trans (hb.mono hb0.size))
  clear hb hb0
  have cV := (rowN_cell hV).1 0
  go_wp2_with fail
  clear cV
  refine (factors_any _ _).mono ?_
  rintro e w3 ⟨rfl, rfl⟩
  have hS : rowN (w2.alloc (.cells #[.int .i64 z] 3)) w2.heap.size = some #[.int .i64 z] := by rw [rowN_alloc, if_pos rfl]
  have hb3 : Below w2.heap.size w2 (w2.alloc (.cells #[.int .i64 z] 3)) := (Below.refl _ _).alloc (Nat.le_refl _) _
  replace hV := kept hb3 _ _ hV
  replace hM := kept hb3 _ _ hM
  replace hR := kept hb3 _ _ hR
  have HB3 := Lib.hid (HB2.out.trans (hb3.mono HB2.out.size))
  clear hb3 HB2
  generalize w2.heap.size = bS at *
  generalize w2.alloc (.cells #[.int .i64 z] 3) = W3 at *
  go_wp2_with fail
  have hTu : rowN (W3.alloc (.cells #[.int .i64 0] 3)) W3.heap.size = some #[.int .i64 0] := by rw [rowN_alloc, if_pos rfl]
  have hb7 : Below W3.heap.size W3 (W3.alloc (.cells #[.int .i64 0] 3)) := (Below.refl _ _).alloc (Nat.le_refl _) _
  replace hV := kept hb7 _ _ hV
  replace hM := kept hb7 _ _ hM
  replace hR := kept hb7 _ _ hR
  replace hS := kept hb7 _ _ hS
  have HB := Lib.hid (HB3.out.trans (hb7.mono HB3.out.size))
  clear hb7 HB3
  generalize W3.heap.size = bTu at *
  generalize W3.alloc (.cells #[.int .i64 0] 3) = Wb at *
  refine wp_loop_rounds 3 ?_
  rw [rounds_succ]
  have cTu := (rowN_cell hTu).1 0
  have HVV := Lib.hid hV
  go_upto_region 10 with fail
  clear cTu
  go_cut [9, 10, 11] from 9 to 35 (fun s9 s10 s11 wx => ∃ bK bL bQ : Nat, s9 = .pointer (some ⟨bK, 0, none⟩) ∧ s10 = .pointer (some ⟨bL, 0, none⟩) ∧ s11 = .pointer (some ⟨bQ, 0, none⟩) ∧ bK ≠ bL ∧ bQ ≠ bL ∧ bQ ≠ bK ∧ Wb.heap.size ≤ bK ∧ Wb.heap.size ≤ bL ∧ Wb.heap.size ≤ bQ ∧ rowN wx bK = some #[.int .i64 0] ∧ rowN wx bL = some #[.int .i64 1] ∧ rowN wx bQ = some #[.int .i64 z] ∧ Below Wb.heap.size Wb wx)
  case first =>
    refine pm_reg10 HVV (fun bK bL bQ _ wx n1 n2 n3 n4 n5 n6 hK hL hQ hB => ?_)
    go_wp2_with fail
    go_meet
    exact ⟨bK, bL, bQ, rfl, rfl, rfl, n1, n2, n3, n4, n5, n6, hK, hL, hQ, hB⟩
  obtain ⟨bK, bL, bQ, rfl, rfl, rfl, n1, n2, n3, n4, n5, n6, hK, hL, hQ, hBx⟩ := hcut
  clear HVV
  go_wp2_with fail
  have lTu := rowN_lt hTu
  have lM := rowN_lt hM
  have lV := rowN_lt hV
  have lR := rowN_lt hR
  have hSx := kept hBx _ _ hS
  have lW := hBx.size
  have HI0 := Lib.hid (show PzI z bK bL bQ Wb [] wc from ⟨⟨rfl, hQ⟩, hBx⟩)
  clear hK hL hQ hBx
  refine (wpIn_wide (n := 5)).1 ?_
  refine wpIn_rangeFunc_ownF rfl (by omega) (gf := 53) (lb := #[.pointer (some ⟨bS, 0, none⟩)]) rfl trivial (enters_of Try.func53 (by kernel_rfl) rfl)
    (factors1_none 0 (5 - 1) bS z (by omega) _ hSx) (fun {A B C} _ _ => trivial) (fun _ _ _ _ _ _ _ _ => trivial) (Below.refl _ _) (fun _ => rfl)
    (PzI z bK bL bQ Wb) PzX (pzI_own lW) (fun c => pzX_own c) HI0.out ?a1x1 ?assignx1 ?bodyx1 ?donex1 ?stopx1
  case assignx1 =>
    intro l x W K hK
    gi_wp2
    exact hK
  case bodyx1 =>
    intro l pre x W _ hlen
    exact absurd hlen (by omega)
  case donex1 =>
    rintro D0 xs W hD0 _ ⟨⟨_, hQ⟩, hBW⟩ hDK0
    clear HI0
    have cQ := (rowN_cell hQ).1 0
    have cTu := (rowN_cell (kept hBW _ _ hTu)).1 0
    have cV := (rowN_cell (kept hBW _ _ hV)).1 0
    have HBW := Lib.hid hBW
    clear hBW hQ
    go_wp2_with fail
    clear cQ cV
    clear cTu
    have hTu' : rowN (W.alloc (.cells #[.int .i64 1] 3)) W.heap.size = some #[.int .i64 1] := by rw [rowN_alloc, if_pos rfl]
    have hb9 := HBW.out.trans (((Below.refl _ W).alloc (Nat.le_refl _) (.cells #[.int .i64 1] 3)).mono HBW.out.size)
    replace hV := kept hb9 _ _ hV
    replace hM := kept hb9 _ _ hM
    replace hR := kept hb9 _ _ hR
    replace hS := kept hb9 _ _ hS
    have HB9 := Lib.hid (HB.out.trans (hb9.mono HB.out.size))
    have hD9 : (W.alloc (.cells #[.int .i64 1] 3)).heap[D0]? = some (.deferred (some [])) := (((Below.refl _ W).alloc (Nat.le_refl _) (.cells #[.int .i64 1] 3)).block D0 (Array.getElem?_eq_some_iff.1 hDK0).1).trans hDK0
    have HD9 := Lib.hid hD9
    have hD0w : w.heap.size ≤ D0 := by have := HB.out.size; omega
    clear hb9 hD9 hDK0 hTu HB HBW hSx lW n1 n2 n3 n4 n5 n6 hD0 lTu lM lV lR
    generalize W.heap.size = bTu2 at *
    generalize W.alloc (.cells #[.int .i64 1] 3) = W9 at *
    have hTu := hTu'
    clear hTu'
    have HB := HB9
    clear HB9
    rw [rounds_succ]
    have cTu := (rowN_cell hTu).1 0
    have HVV := Lib.hid hV
    go_upto_region 10 with fail
    clear cTu
    go_cut [9, 10, 11] from 9 to 35 (fun s9 s10 s11 wx => ∃ bK bL bQ : Nat, s9 = .pointer (some ⟨bK, 0, none⟩) ∧ s10 = .pointer (some ⟨bL, 0, none⟩) ∧ s11 = .pointer (some ⟨bQ, 0, none⟩) ∧ bK ≠ bL ∧ bQ ≠ bL ∧ bQ ≠ bK ∧ W9.heap.size ≤ bK ∧ W9.heap.size ≤ bL ∧ W9.heap.size ≤ bQ ∧ rowN wx bK = some #[.int .i64 0] ∧ rowN wx bL = some #[.int .i64 1] ∧ rowN wx bQ = some #[.int .i64 z] ∧ Below W9.heap.size W9 wx)
    case first =>
      refine pm_reg10 HVV (fun bK bL bQ _ wx n1 n2 n3 n4 n5 n6 hK hL hQ hB => ?_)
      go_wp2_with fail
      go_meet
      exact ⟨bK, bL, bQ, rfl, rfl, rfl, n1, n2, n3, n4, n5, n6, hK, hL, hQ, hB⟩
    obtain ⟨bK, bL, bQ, rfl, rfl, rfl, n1, n2, n3, n4, n5, n6, hK, hL, hQ, hBx⟩ := hcut
    clear HVV
    go_wp2_with fail
    have lTu := rowN_lt hTu
    have lM := rowN_lt hM
    have lV := rowN_lt hV
    have lR := rowN_lt hR
    have hSx := kept hBx _ _ hS
    have lW := hBx.size
    have HI0 := Lib.hid (show PzI z bK bL bQ W9 [] wc from ⟨⟨rfl, hQ⟩, hBx⟩)
    clear hK hL hQ hBx
    refine (wpIn_wide (n := 5)).1 ?_
    refine wpIn_rangeFunc_ownF rfl (by omega) (gf := 53) (lb := #[.pointer (some ⟨bS, 0, none⟩)]) rfl trivial (enters_of Try.func53 (by kernel_rfl) rfl)
      (factors1_none 0 (5 - 1) bS z (by omega) _ hSx) (fun {A B C} _ _ => trivial) (fun _ _ _ _ _ _ _ _ => trivial) (Below.refl _ _) (fun _ => rfl)
      (PzI z bK bL bQ W9) PzX (pzI_own lW) (fun c => pzX_own c) HI0.out ?a1x2 ?assignx2 ?bodyx2 ?donex2 ?stopx2
    case assignx2 =>
      intro l x W K hK
      gi_wp2
      exact hK
    case bodyx2 =>
      intro l pre x W _ hlen
      exact absurd hlen (by omega)
    case donex2 =>
      rintro D1 xs W hD1 _ ⟨⟨_, hQ⟩, hBW⟩ hDK1
      clear HI0
      have cQ := (rowN_cell hQ).1 0
      have cTu := (rowN_cell (kept hBW _ _ hTu)).1 0
      have cV := (rowN_cell (kept hBW _ _ hV)).1 0
      have HBW := Lib.hid hBW
      clear hBW hQ
      go_wp2_with fail
      clear cQ cV
      have hTu2 : rowN (W.alloc (.cells #[.int .i64 2] 3)) W.heap.size = some #[.int .i64 2] := by rw [rowN_alloc, if_pos rfl]
      have cTu2 := (rowN_cell hTu2).1 0
      have hb8 : Below W.heap.size W (W.alloc (.cells #[.int .i64 2] 3)) := (Below.refl _ W).alloc (Nat.le_refl _) _
      have hV8 := kept hb8 _ _ (kept HBW.out _ _ hV)
      have cV8 := (rowN_cell hV8).1 0
      clear cTu hTu2 hV8
      rw [rounds_succ]
      go_wp2_with fail
      clear cTu2
      refine (known_any _).mono ?_
      rintro e wK ⟨rfl, hb⟩
      have hbb := hb8.trans (hb.mono hb8.size)
      have hRk := kept hbb _ _ (kept HBW.out _ _ hR)
      have cR := (rowN_cell hRk).1 0
      have fR := (rowN_cell hRk).2 0
      obtain ⟨k1, k2, k3, k4⟩ := pm_end HB.out HBW.out hbb HD9.out hDK1 (by omega) hD0w (by omega) hRk
      have K1 := Lib.hid k1
      have K2 := Lib.hid k2
      have K3 := Lib.hid k3
      have K4 := Lib.hid k4
      clear k1 k2 k3 k4 hb hbb hb8 cV8 hDK1 hRk
      go_wp2_with fail
      refine ⟨by simp, .inl ⟨_, _, rfl, run_takeDeferred K1.out, ?_⟩⟩
      refine ⟨by simp, .inl ⟨_, _, rfl, run_takeDeferred K2.out, ?_⟩⟩
      exact ⟨_, results_bool4 _ _ rfl rfl K3.out, rfl, K4.out⟩
    case stopx2 =>
      rintro D c pre W _ _ h _
      exact h.elim
  case stopx1 =>
    rintro D c pre W _ _ h _
    exact h.elim

set_option maxRecDepth 100000 in
set_option maxHeartbeats 1000000 in
theorem pm_mid (z many : Int) (w : World) (h1 : 16777216 ≤ z) (h2 : z < 4294967296) :
    Calls Try.prog 7 #[.int .i64 z, .int .i64 many] w fun e w' => e = .returned (.bool true) ∧ Below w.heap.size w w' := by
  have t0 : decide (z ≥ 16777216) = true := decide_eq_true (by omega)
  have t0' : decide (16777216 ≤ z) = true := decide_eq_true (by omega)
  have t1 : decide (z < 4294967296) = true := decide_eq_true (by omega)
  refine (callsIn_wide (n := 5)).1 ?_
  refine callsIn_of_wp_marks Try.func7 rfl trivial ?_ rfl
  simp only [Try.ntmps7, List.size_toArray, List.length_cons, List.length_nil, Nat.reduceAdd, Nat.reduceSub, Array.replicate_succ, Array.replicate_zero, List.push_toArray, List.append_toArray, List.nil_append, List.cons_append]
  refine wpIn_wide.2 ?_
  go_wp2_with fail
  have hb0 : Below w.heap.size w (((w.alloc (.cells #[.int .i64 z] 3)).alloc (.cells #[.int .i64 many] 3)).alloc (.cells #[.bool false] 4)) := (((Below.refl _ w).alloc (Nat.le_refl _) _).alloc (by simp) _).alloc (by simp <;> omega) _
  refine (known_any _).mono ?_
  rintro e wK ⟨rfl, hb⟩
  have hR := kept hb (w.heap.size + 1 + 1) #[.bool false] (by simp only [rowN_alloc, World.size_alloc, if_true])
  have cR := (rowN_cell hR).1 0
  have fR := (rowN_cell hR).2 0
  have HB := Lib.hid ((hb0.trans (hb.mono hb0.size)).setCell (p := ⟨w.heap.size + 1 + 1, 0, none⟩) (by show w.heap.size ≤ w.heap.size + 1 + 1; omega) (.bool true))
  have HR := Lib.hid (row_set0 (x := .bool true) hR)
  clear hb hb0 hR
  go_wp2_with fail
  exact ⟨_, results_bool4 _ _ rfl rfl HR.out, rfl, HB.out⟩

theorem pm_all (z many : Int) (w : World) : Calls Try.prog 7 #[.int .i64 z, .int .i64 many] w fun e w' => e = .returned (.bool true) ∧ Below w.heap.size w w' := by
  by_cases h0 : z < 0
  · exact pm_neg z many w h0
  by_cases h1 : 4294967296 ≤ z
  · exact pm_big z many w h1
  by_cases h2 : 16777216 ≤ z
  · exact pm_mid z many w h2 (by omega)
  obtain ⟨v, rfl⟩ : ∃ n : Nat, z = n := ⟨z.toNat, by omega⟩
  by_cases h3 : v < 2
  · exact pm_low v many w h3
  · exact pm_main v many w (by omega) (by omega)

end Go.Proofs.Ytlmfiggmjpjpiaa
