/- NatBits, walked. -/
import Derived.Test.YtkegdjndmeialaaN6
import Derived.Deep.RegionHeld3
namespace Go.Proofs.Ytkegdjndmeialaa
open Go.RowKit Go.Shelf

attribute [local go_sem] Oper.semAt_some

theorem run_seq_nil (f : Fn) (x y : Array Value) (W : World) : (binOp BinOp.eql 55 (Value.func f x y) Value.nilFunc).run Try.prog W = .ok (.bool false) W := by
  kernel_rfl
attribute [local go_sem] run_seq_nil

theorem refN_slice {v : Nat} {t : Value} {W : World} (h : RefN v t W) : ∃ (a : Option Addr) (c L : Nat), t = .slice a L c ∧ dlen 65536 v = L := by
  obtain ⟨_, a, c, h1, _⟩ := h
  exact ⟨a, c, _, h1, rfl⟩

theorem keeps_below {W w2 : World} (h : Below W.heap.size W w2) : KeepsOthers W w2 :=
  ⟨h.size, fun k _ hk _ => (h.block k (Array.getElem?_eq_some_iff.1 hk).1).trans hk⟩
theorem keepB_below {W w2 : World} {b : Nat} (h : Below W.heap.size W w2) (hb : b < W.heap.size) : KeepB b W w2 := h.block b hb
theorem keepB_set {W wr : World} {b c : Nat} {x : Value} (h : KeepB b W wr) (hne : b ≠ c) : KeepB b W (wr.setCell ⟨c, 0, none⟩ x) := (Below.heap_setCell wr _ _ _ hne).trans h
theorem rbit_set (v k : Nat) (s : Value) (w : World) (h : RefN v s w) (hb : v.testBit k = true) (hk : k ≤ 9223372036854775807) : Calls Try.prog 29 #[s, .int .i64 (k : Nat)] w fun e w' => e = .returned (.int .i64 1) ∧ w' = w := by
  have h1 := rbit_any v _ k s w h hk
  rw [bit_one hb] at h1
  exact h1
theorem rbit_clear (v k : Nat) (s : Value) (w : World) (h : RefN v s w) (hb : v.testBit k = false) (hk : k ≤ 9223372036854775807) : Calls Try.prog 29 #[s, .int .i64 (k : Nat)] w fun e w' => e = .returned (.int .i64 0) ∧ w' = w := by
  have h1 := rbit_any v _ k s w h hk
  rw [bit_zero hb] at h1
  exact h1
theorem bit_set1 (v : Nat) (hv : v < P64 ^ 16) (k : Nat) (w : World) (hb : v.testBit k = true) : Calls Try.prog 28 #[.agg (natA v), .int .i64 (k : Nat)] w fun e w' => e = .returned (.bool true) ∧ Below w.heap.size w w' := by
  have h1 := bit_any v hv (k : Nat) w
  have e : bitAt v (k : Nat) = true := by
    unfold bitAt
    rw [decide_eq_true (Int.natCast_nonneg k), Int.toNat_natCast, hb]; rfl
  rw [e] at h1
  exact h1
theorem low_le {v : Nat} (pre : List (Bit v)) : low pre ≤ dlen 2 v := by
  unfold low
  cases pre.getLast? with
  | none => exact Nat.le_refl _
  | some x => exact Nat.le_of_lt x.2
theorem row_cell0 {W : World} {b c : Nat} {cs : Array Value} {x : Value} (h : rowN W b = some cs) (hne : b ≠ c) : rowN (W.setCell ⟨c, 0, none⟩ x) b = some cs := by
  rw [rowN_setCell, if_neg hne]; exact h
theorem row_set0 {W : World} {b : Nat} {y x : Value} (h : rowN W b = some #[y]) : rowN (W.setCell ⟨b, 0, none⟩ x) b = some #[x] := by
  rw [rowN_setCell, if_pos rfl, h]; rfl

/-- What lies there while a turn goes on. -/
def BtR (v : Nat) (tt many : Int) (t : Value) (bA bT bTu bM bS : Nat) (W : World) : Prop :=
  rowN W bA = some (natA v) ∧ rowN W bT = some #[t] ∧ rowN W bM = some #[.int .i64 many] ∧ rowN W bS = some (natA v) ∧ rowN W bTu = some #[.int .i64 tt]
def BtI (v : Nat) (tt many : Int) (t : Value) (bA bT bTu bM bS bK bN : Nat) (W0 : World) (pre : List (Bit v)) (W : World) : Prop :=
  (Good pre ∧ rowN W bA = some (natA v) ∧ rowN W bT = some #[t] ∧ rowN W bM = some #[.int .i64 many] ∧ rowN W bS = some (natA v) ∧ rowN W bTu = some #[.int .i64 tt] ∧ rowN W bK = some #[.int .i64 (pre.length : Nat)] ∧ rowN W bN = some #[.int .i64 (nx v (low pre))]) ∧ Below W0.heap.size W0 W
def BtX (v : Nat) (tt many : Int) (t : Value) (bA bT bTu bM bS : Nat) (W0 : World) (c : Code) (pre : List (Bit v)) (W : World) : Prop :=
  (∃ pre' x, pre = pre' ++ [x] ∧ Good pre' ∧ nx v (low pre') ≠ (x.1 : Nat)) ∨
  ((c = .exit 2 ∧ tt = 0 ∧ rowN W bA = some (natA v) ∧ rowN W bT = some #[t] ∧ rowN W bM = some #[.int .i64 many] ∧ rowN W bS = some (natA v) ∧ rowN W bTu = some #[.int .i64 tt]) ∧ Below W0.heap.size W0 W)
def BtL (v xv kk : Nat) (tt many : Int) (t : Value) (bA bT bTu bM bS bK bN : Nat) (W0 W wr : World) : Prop :=
  ∃ m : Nat, m ≤ xv ∧ nx v m = nx v xv ∧ (rowN wr bA = some (natA v) ∧ rowN wr bT = some #[t] ∧ rowN wr bM = some #[.int .i64 many] ∧ rowN wr bS = some (natA v) ∧ rowN wr bTu = some #[.int .i64 tt] ∧ rowN wr bK = some #[.int .i64 (kk : Nat)] ∧ rowN wr bN = some #[.int .i64 ((m : Int) - 1)]) ∧
    Below W0.heap.size W0 wr ∧ KeepsOthers W wr ∧ KeepB bS W wr

theorem btI_own {v : Nat} {tt many : Int} {t : Value} {bA bT bTu bM bS bK bN B : Nat} {W0 : World} (h : W0.heap.size ≤ B) : OwnFrom B (BtI v tt many t bA bT bTu bM bS bK bN W0) :=
  OwnFrom.and (Own.from (fun _ _ _ _ hs hg hr => ⟨hs.1, row_kept hs.2.1 hg hr, row_kept hs.2.2.1 hg hr, row_kept hs.2.2.2.1 hg hr, row_kept hs.2.2.2.2.1 hg hr, row_kept hs.2.2.2.2.2.1 hg hr, row_kept hs.2.2.2.2.2.2.1 hg hr, row_kept hs.2.2.2.2.2.2.2 hg hr⟩) _) (ownFrom_below (Nat.le_refl _) h)
theorem btX_own {v : Nat} {tt many : Int} {t : Value} {bA bT bTu bM bS B : Nat} {W0 : World} (h : W0.heap.size ≤ B) (c : Code) : OwnFrom B (BtX v tt many t bA bT bTu bM bS W0 c) := by
  intro s X Y row hs hg hr
  rcases hs with hs | ⟨⟨h1, h2, h3, h4, h5, h6, h7⟩, hb⟩
  · exact .inl hs
  · have hr' : ∀ r, row = some r → ∃ o : Obj, X.heap[r]? = some o ∧ o.isCells = false := fun r e => (hr r e).2
    exact .inr ⟨⟨h1, h2, row_kept h3 hg hr', row_kept h4 hg hr', row_kept h5 hg hr', row_kept h6 hg hr', row_kept h7 hg hr'⟩, hb.grown hg hb.size (fun k e => Nat.le_trans h (hr k e).1)⟩
theorem btI_start {v NB : Nat} {tt many : Int} {t : Value} {bA bT bTu bM bS bK bN : Nat} {W0 W : World} (hNB : dlen 2 v = NB) (hA : rowN W bA = some (natA v)) (hT : rowN W bT = some #[t]) (hM : rowN W bM = some #[.int .i64 many]) (hS : rowN W bS = some (natA v)) (hTu : rowN W bTu = some #[.int .i64 tt])
    (hK : rowN W bK = some #[.int .i64 0]) (hN : rowN W bN = some #[.int .i64 ((NB : Int) - 1)]) (hB : Below W0.heap.size W0 W) : BtI v tt many t bA bT bTu bM bS bK bN W0 [] W :=
  ⟨⟨good_nil v, hA, hT, hM, hS, hTu, hK, by rw [low_nil, nx_top, hNB]; exact hN⟩, hB⟩
theorem btI_next {v kk : Nat} {tt many q z : Int} {t : Value} {bA bT bTu bM bS bK bN xv : Nat} {W0 wr : World} {pre : List (Bit v)} {x : Bit v} (hg : Good pre) (hq : nx v (low pre) = q) (hx : x.1 = xv) (hqx : q = (xv : Int)) (hfin : nx v xv = z) (hlen : pre.length = kk)
    (hA : rowN wr bA = some (natA v)) (hT : rowN wr bT = some #[t]) (hM : rowN wr bM = some #[.int .i64 many]) (hS : rowN wr bS = some (natA v)) (hTu : rowN wr bTu = some #[.int .i64 tt]) (hK : rowN wr bK = some #[.int .i64 (kk : Nat)]) (hN : rowN wr bN = some #[.int .i64 z]) (hB : Below W0.heap.size W0 wr)
    (n1 : bA ≠ bK) (n2 : bT ≠ bK) (n3 : bM ≠ bK) (n4 : bS ≠ bK) (n5 : bTu ≠ bK) (n6 : bN ≠ bK) (n7 : W0.heap.size ≤ bK) : BtI v tt many t bA bT bTu bM bS bK bN W0 (pre ++ [x]) (wr.setCell ⟨bK, 0, none⟩ (.int .i64 ((kk : Int) + 1))) := by
  refine ⟨⟨good_step hg (by rw [hq, hqx, hx]), row_cell0 hA n1, row_cell0 hT n2, row_cell0 hM n3, row_cell0 hS n4, row_cell0 hTu n5, ?_, ?_⟩, hB.setCell (p := ⟨bK, 0, none⟩) n7 _⟩
  · rw [row_set0 hK, List.length_append, hlen]; rfl
  · rw [low_snoc, hx, hfin]; exact row_cell0 hN n6
theorem btX_brk {v : Nat} {many kz : Int} {t : Value} {bA bT bTu bM bS bK : Nat} {W0 wr : World}
    (hA : rowN wr bA = some (natA v)) (hT : rowN wr bT = some #[t]) (hM : rowN wr bM = some #[.int .i64 many]) (hS : rowN wr bS = some (natA v)) (hTu : rowN wr bTu = some #[.int .i64 0]) (hB : Below W0.heap.size W0 wr)
    (n1 : bA ≠ bK) (n2 : bT ≠ bK) (n3 : bM ≠ bK) (n4 : bS ≠ bK) (n5 : bTu ≠ bK) (n7 : W0.heap.size ≤ bK) :
    ((Code.exit 2 = .exit 2 ∧ (0 : Int) = 0 ∧ rowN (wr.setCell ⟨bK, 0, none⟩ (.int .i64 kz)) bA = some (natA v) ∧ rowN (wr.setCell ⟨bK, 0, none⟩ (.int .i64 kz)) bT = some #[t] ∧ rowN (wr.setCell ⟨bK, 0, none⟩ (.int .i64 kz)) bM = some #[.int .i64 many] ∧ rowN (wr.setCell ⟨bK, 0, none⟩ (.int .i64 kz)) bS = some (natA v) ∧ rowN (wr.setCell ⟨bK, 0, none⟩ (.int .i64 kz)) bTu = some #[.int .i64 0]) ∧ Below W0.heap.size W0 (wr.setCell ⟨bK, 0, none⟩ (.int .i64 kz))) :=
  ⟨⟨rfl, rfl, row_cell0 hA n1, row_cell0 hT n2, row_cell0 hM n3, row_cell0 hS n4, row_cell0 hTu n5⟩, hB.setCell (p := ⟨bK, 0, none⟩) n7 _⟩
theorem btL_start {v xv kk : Nat} {tt many y : Int} {t : Value} {bA bT bTu bM bS bK bN : Nat} {W0 W wr : World}
    (hA : rowN wr bA = some (natA v)) (hT : rowN wr bT = some #[t]) (hM : rowN wr bM = some #[.int .i64 many]) (hS : rowN wr bS = some (natA v)) (hTu : rowN wr bTu = some #[.int .i64 tt]) (hK : rowN wr bK = some #[.int .i64 (kk : Nat)]) (hN : rowN wr bN = some #[.int .i64 y]) (hB : Below W0.heap.size W0 wr) (hKO : KeepsOthers W wr) (hKB : KeepB bS W wr)
    (n1 : bA ≠ bN) (n2 : bT ≠ bN) (n3 : bM ≠ bN) (n4 : bS ≠ bN) (n5 : bTu ≠ bN) (n6 : bK ≠ bN) (n7 : W0.heap.size ≤ bN) : BtL v xv kk tt many t bA bT bTu bM bS bK bN W0 W (wr.setCell ⟨bN, 0, none⟩ (.int .i64 ((xv : Int) - 1))) :=
  ⟨xv, Nat.le_refl _, rfl, ⟨row_cell0 hA n1, row_cell0 hT n2, row_cell0 hM n3, row_cell0 hS n4, row_cell0 hTu n5, row_cell0 hK n6, row_set0 hN⟩, hB.setCell (p := ⟨bN, 0, none⟩) n7 _, hKO.trans (KeepsOthers.setCell _ _ _), keepB_set hKB n4⟩
theorem btL_down {v xv kk m : Nat} {tt many y : Int} {t : Value} {bA bT bTu bM bS bK bN : Nat} {W0 W wr : World} (hd : nx v (m + 1) = nx v m) (hmx : nx v (m + 1) = nx v xv) (hm : m + 1 ≤ xv)
    (hA : rowN wr bA = some (natA v)) (hT : rowN wr bT = some #[t]) (hM : rowN wr bM = some #[.int .i64 many]) (hS : rowN wr bS = some (natA v)) (hTu : rowN wr bTu = some #[.int .i64 tt]) (hK : rowN wr bK = some #[.int .i64 (kk : Nat)]) (hN : rowN wr bN = some #[.int .i64 y]) (hB : Below W0.heap.size W0 wr) (hKO : KeepsOthers W wr) (hKB : KeepB bS W wr)
    (n1 : bA ≠ bN) (n2 : bT ≠ bN) (n3 : bM ≠ bN) (n4 : bS ≠ bN) (n5 : bTu ≠ bN) (n6 : bK ≠ bN) (n7 : W0.heap.size ≤ bN) : BtL v xv kk tt many t bA bT bTu bM bS bK bN W0 W (wr.setCell ⟨bN, 0, none⟩ (.int .i64 ((m : Int) - 1))) :=
  ⟨m, by omega, by rw [← hd]; exact hmx, ⟨row_cell0 hA n1, row_cell0 hT n2, row_cell0 hM n3, row_cell0 hS n4, row_cell0 hTu n5, row_cell0 hK n6, row_set0 hN⟩, hB.setCell (p := ⟨bN, 0, none⟩) n7 _, hKO.trans (KeepsOthers.setCell _ _ _), keepB_set hKB n4⟩
theorem btL_meas {wr : World} {bN m : Nat} (hN : rowN wr bN = some #[.int .i64 (m : Int)]) :
    (intOf (((wr.setCell ⟨bN, 0, none⟩ (.int .i64 ((m : Int) - 1))).cell? ⟨bN, 0, none⟩).getD undef) + 1).toNat < (intOf ((wr.cell? ⟨bN, 0, none⟩).getD undef) + 1).toNat := by
  rw [(rowN_cell (row_set0 hN)).1 0, (rowN_cell hN).1 0]
  simp [intOf]

theorem results_bool {fn : Func} {p : Tmp} (tmps : Array Value) {w : World} (g : Nat) {b : Bool} (h : fn.results = #[.cell p 4])
    (hp : tmps.getD p undef = .pointer (some ⟨g, 0, none⟩)) (hr : rowN w g = some #[.bool b]) : (results fn tmps).run Try.prog w = .ok (.bool b) w := by
  have hp' : tmps[p]?.getD undef = .pointer (some ⟨g, 0, none⟩) := by simpa using hp
  have hc := (rowN_cell hr).1 0
  simp [results, h, hp', asAddr, hc, go_sem]

/-- What holds behind the last call: the two records are taken up, and nothing that was there has turned. -/
theorem bits_end {w W0 W9 W wK : World} {D0 D1 bR : Nat} (h0 : Below w.heap.size w W0) (h9 : Below W0.heap.size W0 W9) (hB : Below W9.heap.size W9 W) (hK : Below W.heap.size W wK) (hd0 : W9.heap[D0]? = some (.deferred (some [])))
    (hd1 : W.heap[D1]? = some (.deferred (some []))) (hD1 : W9.heap.size ≤ D1) (hD0 : w.heap.size ≤ D0) (hbR : w.heap.size ≤ bR) (hR : rowN wK bR = some #[.bool false]) :
    (wK.setCell ⟨bR, 0, none⟩ (.bool true)).heap[D1]? = some (.deferred (some [])) ∧
    ((wK.setCell ⟨bR, 0, none⟩ (.bool true)).putObj D1 (.deferred none)).heap[D0]? = some (.deferred (some [])) ∧
    rowN (((wK.setCell ⟨bR, 0, none⟩ (.bool true)).putObj D1 (.deferred none)).putObj D0 (.deferred none)) bR = some #[.bool true] ∧
    Below w.heap.size w (((wK.setCell ⟨bR, 0, none⟩ (.bool true)).putObj D1 (.deferred none)).putObj D0 (.deferred none)) := by
  have l0 := (Array.getElem?_eq_some_iff.1 hd0).1
  have l1 := (Array.getElem?_eq_some_iff.1 hd1).1
  have a0 : wK.heap[D0]? = some (.deferred (some [])) := ((hK.block D0 (Nat.lt_of_lt_of_le l0 hB.size)).trans (hB.block D0 l0)).trans hd0
  have a1 : wK.heap[D1]? = some (.deferred (some [])) := (hK.block D1 l1).trans hd1
  have n0 : D0 ≠ bR := by
    rintro rfl
    obtain ⟨t, ht⟩ := rowN_some hR
    rw [a0] at ht; cases ht
  have n1 : D1 ≠ bR := by
    rintro rfl
    obtain ⟨t, ht⟩ := rowN_some hR
    rw [a1] at ht; cases ht
  have b0 : (wK.setCell ⟨bR, 0, none⟩ (.bool true)).heap[D0]? = some (.deferred (some [])) := (Below.heap_setCell wK _ _ _ n0).trans a0
  have b1 : (wK.setCell ⟨bR, 0, none⟩ (.bool true)).heap[D1]? = some (.deferred (some [])) := (Below.heap_setCell wK _ _ _ n1).trans a1
  have c0 : ((wK.setCell ⟨bR, 0, none⟩ (.bool true)).putObj D1 (.deferred none)).heap[D0]? = some (.deferred (some [])) := (World.putObj_heap_other (by omega)).trans b0
  have hall : Below w.heap.size w wK := h0.trans ((h9.trans ((hB.trans (hK.mono hB.size)).mono h9.size)).mono h0.size)
  have hset : Below w.heap.size w (wK.setCell ⟨bR, 0, none⟩ (.bool true)) := hall.setCell (p := ⟨bR, 0, none⟩) hbR _
  have s0 : w.heap.size ≤ W9.heap.size := Nat.le_trans h0.size h9.size
  have hp1 : Below w.heap.size w ((wK.setCell ⟨bR, 0, none⟩ (.bool true)).putObj D1 (.deferred none)) := hset.grown (grownBy_putObj' _ D1 (.deferred none)) hset.size (fun k e => by cases e; omega)
  refine ⟨b1, c0, ?_, ?_⟩
  · refine row_kept (row_kept (row_set0 hR) (grownBy_putObj' _ D1 (.deferred none)) ?_) (grownBy_putObj' _ D0 (.deferred none)) ?_
    · rintro k e; cases e; exact ⟨_, b1, rfl⟩
    · rintro k e; cases e; exact ⟨_, c0, rfl⟩
  · exact hp1.grown (grownBy_putObj' _ D0 (.deferred none)) hp1.size (fun k e => by cases e; omega)

set_option maxRecDepth 100000 in
set_option maxHeartbeats 8000000 in
theorem bits_main (zs : List Nat) (a : Option Addr) (c : Nat) (at_ many : Int) (w : World) (hz : BytesAt zs (.slice a zs.length c) w) (hlen : zs.length ≤ 128) (v : Nat) (ev : valBE 256 zs = v) (hv : v < P64 ^ 16)
    (ha1 : at_ ≤ 9223372036854775807) (hm0 : -9223372036854775808 ≤ many) (hm1 : many ≤ 9223372036854775807) :
    Calls Try.prog 5 #[.slice a zs.length c, .int .i64 at_, .int .i64 many] w fun e w' => e = .returned (.bool true) ∧ Below w.heap.size w w' := by
  have HMD := Lib.hid (fun W hW => made_fits zs (.slice a zs.length c) W hW (by omega) (by rw [ev]; exact hv))
  rw [ev] at HMD
  have HBy := Lib.hid hz
  have HV := Lib.hid hv
  have hd16 := dlen16 hv
  have hd2 := dlen2_le hv
  obtain ⟨n, hzn⟩ : ∃ n, zs.length = n := ⟨_, rfl⟩
  have HZN := Lib.hid hzn
  rw [hzn] at HBy hlen HMD ⊢
  have hnn : (n : Int) ≤ 128 := by omega
  clear hz hzn ev hv
  refine (callsIn_wide (n := 5)).1 ?_
  refine callsIn_of_wp_marks Try.func5 rfl trivial ?_ rfl
  simp only [Try.ntmps5, List.size_toArray, List.length_cons, List.length_nil, Nat.reduceAdd, Nat.reduceSub, Array.replicate_succ, Array.replicate_zero, List.push_toArray, List.append_toArray, List.nil_append, List.cons_append]
  refine wpIn_wide.2 ?_
  go_wp2_with fail
  have hb0 : Below w.heap.size w ((w.alloc (.cells #[.int .i64 many] 3)).alloc (.cells #[.bool false] 4)) := ((Below.refl _ w).alloc (Nat.le_refl _) _).alloc (by simp) _
  refine (HMD.out _ (HBy.out.kept hb0)).mono ?_
  rintro e W0 ⟨t, rfl, ht, hb⟩
  have hM := kept hb (w.heap.size) #[.int .i64 many] (by rw [rowN_alloc, if_neg (by simp), rowN_alloc, if_pos rfl])
  have hR := kept hb (w.heap.size + 1) #[.bool false] (by rw [rowN_alloc, if_pos (by simp)])
  have hs0 := hb.size
  rw [World.size_alloc, World.size_alloc] at hs0
  have HB0 := Lib.hid (hb0.trans (hb.mono hb0.size))
  obtain ⟨ta, tc, L, rfl, hL⟩ := refN_slice ht
  have HT0 := Lib.hid ht
  have HL := Lib.hid hL
  clear hb hb0 ht hL
  have hT1 : rowN (((W0.alloc (.cells (natA 0) 28)).alloc (.cells #[.slice none 0 0] 32)).setRow W0.heap.size (natA v)) (W0.heap.size + 1) = some #[.slice none 0 0] := by
    rw [rowN_setRow, if_neg (by omega), rowN_alloc, if_pos (by simp)]
  have hc1 := (rowN_cell hT1).1 0
  have hf1 := (rowN_cell hT1).2 0
  have hT2 : rowN ((((W0.alloc (.cells (natA 0) 28)).alloc (.cells #[.slice none 0 0] 32)).setRow W0.heap.size (natA v)).setCell ⟨W0.heap.size + 1, 0, none⟩ (.slice ta L tc)) (W0.heap.size + 1) = some #[.slice ta L tc] := by
    rw [rowN_setCell, if_pos rfl, hT1]; rfl
  have hA2 : rowN ((((W0.alloc (.cells (natA 0) 28)).alloc (.cells #[.slice none 0 0] 32)).setRow W0.heap.size (natA v)).setCell ⟨W0.heap.size + 1, 0, none⟩ (.slice ta L tc)) W0.heap.size = some (natA v) := by
    rw [rowN_setCell, if_neg (by simp), rowN_setRow, if_pos rfl, rowN_alloc, if_neg (by simp), rowN_alloc, if_pos rfl]; rfl
  have hB2 : Below W0.heap.size W0 ((((W0.alloc (.cells (natA 0) 28)).alloc (.cells #[.slice none 0 0] 32)).setRow W0.heap.size (natA v)).setCell ⟨W0.heap.size + 1, 0, none⟩ (.slice ta L tc)) :=
    (below_setRow' (((Below.refl _ _).alloc (Nat.le_refl _) _).alloc (by simp) _) (Nat.le_refl _) _).setCell (p := ⟨W0.heap.size + 1, 0, none⟩) (by simp) _
  clear hT1
  go_wp2_with fail
  clear hc1 hf1
  generalize (((W0.alloc (.cells (natA 0) 28)).alloc (.cells #[.slice none 0 0] 32)).setRow W0.heap.size (natA v)).setCell ⟨W0.heap.size + 1, 0, none⟩ (.slice ta L tc) = W1 at *
  have hTd : rowN W1.drew (W0.heap.size + 1) = some #[.slice ta L tc] := by rw [rowN_drew]; exact hT2
  have hAd : rowN W1.drew W0.heap.size = some (natA v) := by rw [rowN_drew]; exact hA2
  have HBd := Lib.hid hB2.drew
  clear hT2 hA2 hB2
  have HBI := Lib.hid (fun W => bit_any v HV.out at_ W)
  have HRB := Lib.hid (fun W (h : RefN v (.slice ta L tc) W) => rbit_at v _ at_ (.slice ta L tc) W h ha1)
  have HBL := Lib.hid (fun W => bitLen_any v HV.out W)
  have HRL := Lib.hid (fun W (h : RefN v (.slice ta L tc) W) => rbitLen_any v _ (.slice ta L tc) W h (by omega))
  have HIZ := Lib.hid (fun W => isZero_any v W)
  obtain ⟨Z, hZ⟩ : ∃ Z, natEq v 0 = Z := ⟨_, rfl⟩
  have hLZ : ((L : Int) == 0) = Z := by
    rw [← hZ, natEq_iff HV.out p64_16_pos]
    rw [Bool.eq_iff_iff, beq_iff_eq, decide_eq_true_iff, ← HL.out]
    constructor
    · intro h
      have h1 := lt_dlen (show 2 ≤ 65536 by omega) v
      rw [show dlen 65536 v = 0 by omega, Nat.pow_zero] at h1
      omega
    · rintro rfl; rfl
  rw [hZ] at HIZ
  obtain ⟨B, hB⟩ : ∃ B, bitAt v at_ = B := ⟨_, rfl⟩
  have hBI : ((bitI v at_) == 1) = B := by
    unfold bitI
    rw [hB]
    cases B <;> rfl
  rw [hB] at HBI
  obtain ⟨R, hRR⟩ : ∃ R, bitI v at_ = R := ⟨_, rfl⟩
  rw [hRR] at hBI HRB
  obtain ⟨NB, hNB⟩ : ∃ NB, dlen 2 v = NB := ⟨_, rfl⟩
  rw [hNB] at HBL HRL hd2
  have HNB := Lib.hid hNB
  clear hZ hB hRR hNB
  go_region_held3 (fun W => rowN W W0.heap.size = some (natA v) ∧ W.cell? ⟨W0.heap.size + 1, 0, none⟩ = some (.slice ta L tc) ∧ Below W0.heap.size W0 W) (first | exact ⟨hA5, (rowN_cell hT5).1 0, HB5.out⟩ | exact ⟨hA4, (rowN_cell hT4).1 0, HB4.out⟩ | exact ⟨hA3, (rowN_cell hT3).1 0, HB3.out⟩ | exact ⟨hAd, (rowN_cell hTd).1 0, HBd.out⟩) (first
    | (go_at_call 26; refine (HBL.out _).mono ?_; rintro e w3 ⟨rfl, hb⟩; have hA3 := kept hb _ _ hAd; have hT3 := kept hb _ _ hTd; have HB3 := Lib.hid (HBd.out.trans (hb.mono HBd.out.size)); clear hb)
    | (go_at_call 27; refine (HRL.out _ (DigN.kept HT0.out HB3.out)).mono ?_; rintro e w3' ⟨rfl, hw⟩; subst hw)
    | (go_at_call 15; refine (HIZ.out _).mono ?_; rintro e w4 ⟨rfl, hb⟩; have hA4 := kept hb _ _ hA3; have hT4 := kept hb _ _ hT3; have HB4 := Lib.hid (HB3.out.trans (hb.mono HB3.out.size)); clear hb)
    | (go_at_call 28; refine (HBI.out _).mono ?_; rintro e w5 ⟨rfl, hb⟩; have hA5 := kept hb _ _ hA4; have hT5 := kept hb _ _ hT4; have HB5 := Lib.hid (HB4.out.trans (hb.mono HB4.out.size)); clear hb)
    | (go_at_call 29; refine (HRB.out _ (DigN.kept HT0.out HB5.out)).mono ?_; rintro e w5' ⟨rfl, hw⟩; subst hw))
  have hM5 := kept HB5.out _ _ hM
  have hR5 := kept HB5.out _ _ hR
  clear HBI HRB hBI hLZ HIZ HBL
  go_wp2_with fail
  refine (ones_any v _).mono ?_
  rintro e w6 ⟨rfl, rfl⟩
  have hS6 : rowN (w5'.alloc (.cells (natA v) 28)) w5'.heap.size = some (natA v) := by rw [rowN_alloc, if_pos rfl]
  have hb6 : Below w5'.heap.size w5' (w5'.alloc (.cells (natA v) 28)) := (Below.refl _ _).alloc (Nat.le_refl _) _
  have hA6 := kept hb6 _ _ hA5
  have hT6 := kept hb6 _ _ hT5
  have hM6 := kept hb6 _ _ hM5
  have hR6 := kept hb6 _ _ hR5
  have HB6 := Lib.hid (HB5.out.trans (hb6.mono HB5.out.size))
  clear hb6 hA5 hT5 hM5 hR5
  generalize w5'.heap.size = bS at *
  generalize w5'.alloc (.cells (natA v) 28) = W6 at *
  go_wp2_with fail
  have hTu : rowN (W6.alloc (.cells #[.int .i64 0] 3)) W6.heap.size = some #[.int .i64 0] := by rw [rowN_alloc, if_pos rfl]
  have hb7 : Below W6.heap.size W6 (W6.alloc (.cells #[.int .i64 0] 3)) := (Below.refl _ _).alloc (Nat.le_refl _) _
  have hA := kept hb7 _ _ hA6
  have hT := kept hb7 _ _ hT6
  have hM := kept hb7 _ _ hM6
  have hS := kept hb7 _ _ hS6
  have HB := Lib.hid (HB6.out.trans (hb7.mono HB6.out.size))
  have hR0 := hR
  clear hb7 hA6 hT6 hM6 hS6 hR6 HB6 hR HB5 HB4 HB3 hA3 hA4 hT3 hT4 HMD HBy HBd hTd hAd HZN
  generalize W6.heap.size = bTu at *
  generalize W6.alloc (.cells #[.int .i64 0] 3) = W7 at *
  refine wp_loop_rounds 3 ?_
  rw [rounds_succ]
  have cT := (rowN_cell hT).1 0
  have cTu := (rowN_cell hTu).1 0
  go_wp2_with fail
  refine (HRL.out _ (DigN.kept HT0.out HB.out)).mono ?_
  rintro e wq ⟨rfl, hw⟩
  subst hw
  go_wp2_with fail
  have hK8 : rowN ((wq.alloc (.cells #[.int .i64 0] 3)).alloc (.cells #[.int .i64 ((NB : Int) - 1)] 3)) wq.heap.size = some #[.int .i64 0] := by
    rw [rowN_alloc, if_neg (by simp), rowN_alloc, if_pos rfl]
  have hN8 : rowN ((wq.alloc (.cells #[.int .i64 0] 3)).alloc (.cells #[.int .i64 ((NB : Int) - 1)] 3)) (wq.heap.size + 1) = some #[.int .i64 ((NB : Int) - 1)] := by
    rw [rowN_alloc, if_pos (by simp)]
  have hb8 : Below wq.heap.size wq ((wq.alloc (.cells #[.int .i64 0] 3)).alloc (.cells #[.int .i64 ((NB : Int) - 1)] 3)) := ((Below.refl _ _).alloc (Nat.le_refl _) _).alloc (by simp) _
  have hs8 : ((wq.alloc (.cells #[.int .i64 0] 3)).alloc (.cells #[.int .i64 ((NB : Int) - 1)] 3)).heap.size = wq.heap.size + 1 + 1 := by simp
  have lA := rowN_lt hA
  have lT := rowN_lt hT
  have lM := rowN_lt hM
  have lS := rowN_lt hS
  have lTu := rowN_lt hTu
  replace hA := kept hb8 _ _ hA
  replace hT := kept hb8 _ _ hT
  replace hM := kept hb8 _ _ hM
  replace hS := kept hb8 _ _ hS
  replace hTu := kept hb8 _ _ hTu
  replace HB := Lib.hid (HB.out.trans (hb8.mono HB.out.size))
  have hsq : wq.heap.size + 1 + 1 ≤ ((wq.alloc (.cells #[.int .i64 0] 3)).alloc (.cells #[.int .i64 ((NB : Int) - 1)] 3)).heap.size := by omega
  have lW := HB.out.size
  clear hb8 hs8 cT cTu
  obtain ⟨bK, hbk⟩ : ∃ bK, wq.heap.size = bK := ⟨_, rfl⟩
  have l9 : wq.heap.size ≤ bK := Nat.le_of_eq hbk
  have l0 : W0.heap.size ≤ bK := by omega
  rw [hbk] at hK8 hN8 lA lT lM lS lTu hsq ⊢
  generalize (wq.alloc (.cells #[.int .i64 0] 3)).alloc (.cells #[.int .i64 ((NB : Int) - 1)] 3) = W8 at *
  clear hbk
  have HI0 := Lib.hid (btI_start (tt := 0) (many := many) HNB.out hA hT hM hS hTu hK8 hN8 HB.out)
  have HS8 := Lib.hid hS
  clear hA hT hM hS hTu hK8 hN8 HB
  refine (wpIn_wide (n := 5)).1 ?_
  refine wpIn_rangeFunc_ownF rfl (by omega) (gf := 56) (lb := #[.pointer (some ⟨bS, 0, none⟩)]) rfl trivial (enters_of Try.func56 (by kernel_rfl) rfl)
    (ones1_stops (5 - 1) bS v HV.out _ HS8.out) (fun {A B C} h k => Eq.trans k h) (fun W l o o' hl ho _ _ => World.putObj_heap_other (fun e => by omega)) (Below.refl _ _) (fun _ => rfl)
    (BtI v 0 many (.slice ta L tc) W0.heap.size (W0.heap.size + 1) bTu w.heap.size bS bK (bK + 1) W0) (BtX v 0 many (.slice ta L tc) W0.heap.size (W0.heap.size + 1) bTu w.heap.size bS W0)
    (btI_own lW) (fun c => btX_own lW c) HI0.out ?a1x1 ?assignx1 ?bodyx1 ?donex1 ?stopx1
  case assignx1 =>
    intro l x W K hK
    gi_wp2
    exact hK
  case bodyx1 =>
    rintro l pre x W ⟨⟨hg, hA, hT, hM, hS, hTu, hK, hN⟩, hB⟩ hlen
    have hx : x.1 < NB := Nat.lt_of_lt_of_eq x.2 HNB.out
    have hlen' : pre.length < NB := Nat.lt_of_lt_of_eq hlen HNB.out
    clear hlen
    obtain ⟨xv, hxv⟩ : ∃ xv, x.1 = xv := ⟨_, rfl⟩
    rw [hxv] at hx
    have HXV := Lib.hid hxv
    have HG := Lib.hid hg
    obtain ⟨q, hq⟩ : ∃ q, nx v (low pre) = q := ⟨_, rfl⟩
    have hq0 := (nx_bd v (low pre)).1
    have hq1 := (nx_bd v (low pre)).2
    have hq2 : low pre ≤ NB := Nat.le_trans (low_le pre) (Nat.le_of_eq HNB.out)
    rw [hq] at hN hq0 hq1
    have hq3 : q ≤ 1024 := by omega
    have HQ := Lib.hid hq
    clear hxv hg hq hq1 hq2
    have hR := kept hB _ _ hR0
    have HBB := Lib.hid hB
    have HS9 := Lib.hid hS
    have cT := (rowN_cell hT).1 0
    have cTu := (rowN_cell hTu).1 0
    have cM := (rowN_cell hM).1 0
    have cK := (rowN_cell hK).1 0
    have cN := (rowN_cell hN).1 0
    have cR := (rowN_cell hR).1 0
    have fR := (rowN_cell hR).2 0
    have fK := (rowN_cell hK).2 0
    have fN := (rowN_cell hN).2 0
    have HR := Lib.hid hR
    have HM := Lib.hid hM
    have HK := Lib.hid hK
    have HN := Lib.hid hN
    have HTT := Lib.hid hT
    have HTu := Lib.hid hTu
    clear hB hS hR hM hK hN hT hTu
    obtain ⟨kk, hkk⟩ : ∃ kk, pre.length = kk := ⟨_, rfl⟩
    rw [hkk] at hlen' cK
    have HLEN := Lib.hid hkk
    replace HK := Lib.hid (show rowN W bK = some #[.int .i64 (kk : Nat)] by rw [← hkk]; exact HK.out)
    clear hkk
    by_cases he : q = (xv : Int)
    · have HQX := Lib.hid he
      rw [he] at cN hq0 hq3
      obtain ⟨h1, h2, h3⟩ := nx_set (HQ.out.trans he)
      have HB1 := Lib.hid (fun W' (h : RefN v (.slice ta L tc) W') => rbit_set v xv (.slice ta L tc) W' h h2 (by omega))
      have HB2 := Lib.hid (fun W' => bit_set1 v HV.out xv W' h2)
      have H2 := Lib.hid h2
      have HN' := Lib.hid (show rowN W (bK + 1) = some #[.int .i64 (xv : Int)] by rw [← he]; exact HN.out)
      clear h1 h2 h3 he
      rw [HXV.out]
      gi_wp2_with fail
      refine ⟨trivial, ?_⟩
      refine (CallsIn.inRound l (callsIn_wide.2 (HB1.out _ (DigN.kept HT0.out HBB.out)))).mono ?_
      rintro e w1 ⟨rfl, hw⟩
      subst w1
      gi_wp2_with fail
      refine ⟨trivial, ?_⟩
      refine (CallsIn.inRound l (callsIn_wide.2 (HB2.out _))).mono ?_
      rintro e w2 ⟨rfl, hb⟩
      have hA2 := kept hb _ _ hA
      have hT2 := kept hb _ _ HTT.out
      have hM2 := kept hb _ _ HM.out
      have hS2 := kept hb _ _ HS9.out
      have hTu2 := kept hb _ _ HTu.out
      have hK2 := kept hb _ _ HK.out
      have hN2 := kept hb _ _ HN'.out
      have HB2' := Lib.hid (HBB.out.trans (hb.mono HBB.out.size))
      have HKO := Lib.hid (keeps_below hb)
      have HKB := Lib.hid (keepB_below hb (rowN_lt HS9.out))
      clear hb cT cTu cM cK cN cR fR fK fN
      have cN := (rowN_cell hN2).1 0
      have fN := (rowN_cell hN2).2 0
      have HL0 := Lib.hid (btL_start (kk := kk) (xv := xv) hA2 hT2 hM2 hS2 hTu2 hK2 hN2 HB2'.out HKO.out HKB.out (by omega) (by omega) (by omega) (by omega) (by omega) (by omega) (by omega))
      clear hA2 hT2 hM2 hS2 hTu2 hK2 hN2 HB2' HKO HKB
      gi_wp2_with fail
      clear cN fN
      gi_loopw [82] (fun _ wr => BtL v xv kk 0 many (.slice ta L tc) W0.heap.size (W0.heap.size + 1) bTu w.heap.size bS bK (bK + 1) W0 W wr) (fun _ wr => (intOf ((wr.cell? ⟨bK + 1, 0, none⟩).getD undef) + 1).toNat)
      case atStart => exact HL0.out
      case round =>
        clear HL0
        obtain ⟨m, hm, hmx, ⟨hA, hT, hM, hS, hTu, hK, hN⟩, hB, hKO, hKB⟩ := hrel
        have HMX := Lib.hid hmx
        have HB := Lib.hid hB
        have HKO := Lib.hid hKO
        have HKB := Lib.hid hKB
        have HS' := Lib.hid hS
        have cT := (rowN_cell hT).1 0
        have cTu := (rowN_cell hTu).1 0
        have cM := (rowN_cell hM).1 0
        have cK := (rowN_cell hK).1 0
        have cN := (rowN_cell hN).1 0
        have fK := (rowN_cell hK).2 0
        have fN := (rowN_cell hN).2 0
        have HM := Lib.hid hM
        have HK := Lib.hid hK
        have HN := Lib.hid hN
        have HTT := Lib.hid hT
        have HTu := Lib.hid hTu
        have HA := Lib.hid hA
        clear hmx hB hKO hKB hS hM hK hN hT hTu hA
        cases m with
          | zero =>
            rw [show ((0 : Nat) : Int) - 1 = -1 by omega] at cN
            have HN' := Lib.hid (show rowN wr (bK + 1) = some #[.int .i64 (-1)] by rw [HN.out]; rfl)
            have HFIN := Lib.hid (show nx v xv = -1 by rw [← HMX.out]; exact nx_zero v)
            by_cases hmk : many ≤ (kk : Int) + 1
            · gi_wp2_with fail
              refine ⟨trivial, ?_⟩
              gi_wp2_with fail
              exact ⟨HKO.out.trans (KeepsOthers.setCell _ _ _), .inr (btX_brk HA.out HTT.out HM.out HS'.out HTu.out HB.out (by omega) (by omega) (by omega) (by omega) (by omega) (by omega))⟩
            · gi_wp2_with fail
              refine ⟨trivial, ?_⟩
              gi_wp2_with fail
              exact ⟨HKO.out.trans (KeepsOthers.setCell _ _ _), keepB_set HKB.out (by omega), btI_next HG.out HQ.out HXV.out HQX.out HFIN.out HLEN.out HA.out HTT.out HM.out HS'.out HTu.out HK.out HN'.out HB.out (by omega) (by omega) (by omega) (by omega) (by omega) (by omega) (by omega)⟩
          | succ m' =>
            rw [show ((m' + 1 : Nat) : Int) - 1 = (m' : Int) by omega] at cN
            have HN' := Lib.hid (show rowN wr (bK + 1) = some #[.int .i64 (m' : Int)] by rw [HN.out, show ((m' + 1 : Nat) : Int) - 1 = (m' : Int) by omega])
            cases hb : v.testBit m' with
            | false =>
              have HB3 := Lib.hid (fun W' (h : RefN v (.slice ta L tc) W') => rbit_clear v m' (.slice ta L tc) W' h hb (by omega))
              have HDN := Lib.hid (nx_down hb)
              clear hb
              gi_wp2_with fail
              refine ⟨trivial, ?_⟩
              refine (CallsIn.inRound l (callsIn_wide.2 (HB3.out _ (DigN.kept HT0.out HB.out)))).mono ?_
              rintro e w3 ⟨rfl, hw⟩
              subst w3
              gi_wp2_with fail
              exact ⟨btL_down HDN.out HMX.out hm HA.out HTT.out HM.out HS'.out HTu.out HK.out HN'.out HB.out HKO.out HKB.out (by omega) (by omega) (by omega) (by omega) (by omega) (by omega) (by omega), btL_meas HN'.out⟩
            | true =>
              have HB3 := Lib.hid (fun W' (h : RefN v (.slice ta L tc) W') => rbit_set v m' (.slice ta L tc) W' h hb (by omega))
              have HFIN := Lib.hid (show nx v xv = (m' : Int) by rw [← HMX.out]; exact nx_here hb)
              clear hb
              by_cases hmk : many ≤ (kk : Int) + 1
              · gi_wp2_with fail
                refine ⟨trivial, ?_⟩
                refine (CallsIn.inRound l (callsIn_wide.2 (HB3.out _ (DigN.kept HT0.out HB.out)))).mono ?_
                rintro e w3 ⟨rfl, hw⟩
                subst w3
                gi_wp2_with fail
                exact ⟨HKO.out.trans (KeepsOthers.setCell _ _ _), .inr (btX_brk HA.out HTT.out HM.out HS'.out HTu.out HB.out (by omega) (by omega) (by omega) (by omega) (by omega) (by omega))⟩
              · gi_wp2_with fail
                refine ⟨trivial, ?_⟩
                refine (CallsIn.inRound l (callsIn_wide.2 (HB3.out _ (DigN.kept HT0.out HB.out)))).mono ?_
                rintro e w3 ⟨rfl, hw⟩
                subst w3
                gi_wp2_with fail
                exact ⟨HKO.out.trans (KeepsOthers.setCell _ _ _), keepB_set HKB.out (by omega), btI_next HG.out HQ.out HXV.out HQX.out HFIN.out HLEN.out HA.out HTT.out HM.out HS'.out HTu.out HK.out HN'.out HB.out (by omega) (by omega) (by omega) (by omega) (by omega) (by omega) (by omega)⟩
    · have hne : ((xv : Int) != q) = true := by rw [bne_iff_ne]; exact fun e => he e.symm
      have heq : ((xv : Int) == q) = false := by rw [beq_eq_false_iff_ne]; exact fun e => he e.symm
      have he' : ¬ (xv : Int) = q := fun e => he e.symm
      rw [HXV.out]
      gi_wp2_with fail
      refine ⟨trivial, ?_⟩
      gi_wp2_with fail
      refine ⟨trivial, ?_⟩
      gi_wp2_with fail
      exact ⟨KeepsOthers.setCell _ _ _, .inl ⟨pre, x, rfl, HG.out, by rw [HQ.out, HXV.out]; exact he⟩⟩
  case donex1 =>
    rintro D0 ys W hD0 hSx ⟨⟨hg, hA, hT, hM, hS, hTu, hK, hN⟩, hB⟩ hDK0
    rw [good_all hg hSx] at hN
    have cTu := (rowN_cell hTu).1 0
    have cN := (rowN_cell hN).1 0
    have HB := Lib.hid hB
    clear hg hSx hB hK HI0 HS8
    go_wp2_with fail
    clear cN hN
    have hD0w : w.heap.size ≤ D0 := by omega
    clear hD0
    have hTu' : rowN (W.alloc (.cells #[.int .i64 1] 3)) W.heap.size = some #[.int .i64 1] := by rw [rowN_alloc, if_pos rfl]
    have hb9 : Below W.heap.size W (W.alloc (.cells #[.int .i64 1] 3)) := (Below.refl _ _).alloc (Nat.le_refl _) _
    replace hA := kept hb9 _ _ hA
    replace hT := kept hb9 _ _ hT
    replace hM := kept hb9 _ _ hM
    replace hS := kept hb9 _ _ hS
    have HB9 := Lib.hid (HB.out.trans (hb9.mono HB.out.size))
    have hD9 := (hb9.block D0 (Array.getElem?_eq_some_iff.1 hDK0).1).trans hDK0
    have HD9 := Lib.hid hD9
    have HT1 := Lib.hid (DigN.kept HT0.out HB9.out)
    have hR1 := kept HB9.out _ _ hR0
    have hs9 : (W.alloc (.cells #[.int .i64 1] 3)).heap.size = W.heap.size + 1 := by simp
    clear hb9 hDK0 hD9 hTu HB cTu lA lT lM lS lTu lW hsq l9 l0
    obtain ⟨bTu2, hbt⟩ : ∃ b, W.heap.size = b := ⟨_, rfl⟩
    rw [hbt] at hTu' hs9 ⊢
    clear hbt
    generalize W.alloc (.cells #[.int .i64 1] 3) = W9 at *
    clear hs9
    obtain ⟨bTu, rfl⟩ : ∃ b, b = bTu2 := ⟨_, rfl⟩
    have hTu := hTu'
    clear hTu'
    have HB := Lib.hid (Below.refl W9.heap.size W9)
    rw [rounds_succ]
    have cT := (rowN_cell hT).1 0
    have cTu := (rowN_cell hTu).1 0
    go_wp2_with fail
    refine (HRL.out _ (DigN.kept HT1.out HB.out)).mono ?_
    rintro e wq ⟨rfl, hw⟩
    subst hw
    go_wp2_with fail
    have hK8 : rowN ((wq.alloc (.cells #[.int .i64 0] 3)).alloc (.cells #[.int .i64 ((NB : Int) - 1)] 3)) wq.heap.size = some #[.int .i64 0] := by
      rw [rowN_alloc, if_neg (by simp), rowN_alloc, if_pos rfl]
    have hN8 : rowN ((wq.alloc (.cells #[.int .i64 0] 3)).alloc (.cells #[.int .i64 ((NB : Int) - 1)] 3)) (wq.heap.size + 1) = some #[.int .i64 ((NB : Int) - 1)] := by
      rw [rowN_alloc, if_pos (by simp)]
    have hb8 : Below wq.heap.size wq ((wq.alloc (.cells #[.int .i64 0] 3)).alloc (.cells #[.int .i64 ((NB : Int) - 1)] 3)) := ((Below.refl _ _).alloc (Nat.le_refl _) _).alloc (by simp) _
    have hs8 : ((wq.alloc (.cells #[.int .i64 0] 3)).alloc (.cells #[.int .i64 ((NB : Int) - 1)] 3)).heap.size = wq.heap.size + 1 + 1 := by simp
    have lA := rowN_lt hA
    have lT := rowN_lt hT
    have lM := rowN_lt hM
    have lS := rowN_lt hS
    have lTu := rowN_lt hTu
    replace hA := kept hb8 _ _ hA
    replace hT := kept hb8 _ _ hT
    replace hM := kept hb8 _ _ hM
    replace hS := kept hb8 _ _ hS
    replace hTu := kept hb8 _ _ hTu
    replace HB := Lib.hid (HB.out.trans (hb8.mono HB.out.size))
    have hsq : wq.heap.size + 1 + 1 ≤ ((wq.alloc (.cells #[.int .i64 0] 3)).alloc (.cells #[.int .i64 ((NB : Int) - 1)] 3)).heap.size := by omega
    have lW := HB.out.size
    clear hb8 hs8 cT cTu
    obtain ⟨bK, hbk⟩ : ∃ bK, wq.heap.size = bK := ⟨_, rfl⟩
    have l9 : wq.heap.size ≤ bK := Nat.le_of_eq hbk
    have l0 : W0.heap.size ≤ bK := by omega
    rw [hbk] at hK8 hN8 lA lT lM lS lTu hsq ⊢
    generalize (wq.alloc (.cells #[.int .i64 0] 3)).alloc (.cells #[.int .i64 ((NB : Int) - 1)] 3) = W8 at *
    clear hbk
    have HI0 := Lib.hid (btI_start (tt := 1) (many := many) HNB.out hA hT hM hS hTu hK8 hN8 HB.out)
    have HS8 := Lib.hid hS
    clear hA hT hM hS hTu hK8 hN8 HB
    refine (wpIn_wide (n := 5)).1 ?_
    refine wpIn_rangeFunc_ownF rfl (by omega) (gf := 56) (lb := #[.pointer (some ⟨bS, 0, none⟩)]) rfl trivial (enters_of Try.func56 (by kernel_rfl) rfl)
      (ones1_stops (5 - 1) bS v HV.out _ HS8.out) (fun {A B C} h k => Eq.trans k h) (fun W l o o' hl ho _ _ => World.putObj_heap_other (fun e => by omega)) (Below.refl _ _) (fun _ => rfl)
      (BtI v 1 many (.slice ta L tc) W0.heap.size (W0.heap.size + 1) bTu w.heap.size bS bK (bK + 1) wq) (BtX v 1 many (.slice ta L tc) W0.heap.size (W0.heap.size + 1) bTu w.heap.size bS wq)
      (btI_own lW) (fun c => btX_own lW c) HI0.out ?a1x2 ?assignx2 ?bodyx2 ?donex2 ?stopx2
    case assignx2 =>
      intro l x W K hK
      gi_wp2
      exact hK
    case bodyx2 =>
      rintro l pre x W ⟨⟨hg, hA, hT, hM, hS, hTu, hK, hN⟩, hB⟩ hlen
      have hx : x.1 < NB := Nat.lt_of_lt_of_eq x.2 HNB.out
      have hlen' : pre.length < NB := Nat.lt_of_lt_of_eq hlen HNB.out
      clear hlen
      obtain ⟨xv, hxv⟩ : ∃ xv, x.1 = xv := ⟨_, rfl⟩
      rw [hxv] at hx
      have HXV := Lib.hid hxv
      have HG := Lib.hid hg
      obtain ⟨q, hq⟩ : ∃ q, nx v (low pre) = q := ⟨_, rfl⟩
      have hq0 := (nx_bd v (low pre)).1
      have hq1 := (nx_bd v (low pre)).2
      have hq2 : low pre ≤ NB := Nat.le_trans (low_le pre) (Nat.le_of_eq HNB.out)
      rw [hq] at hN hq0 hq1
      have hq3 : q ≤ 1024 := by omega
      have HQ := Lib.hid hq
      clear hxv hg hq hq1 hq2
      have hR := kept hB _ _ hR1
      have HBB := Lib.hid hB
      have HS9 := Lib.hid hS
      have cT := (rowN_cell hT).1 0
      have cTu := (rowN_cell hTu).1 0
      have cM := (rowN_cell hM).1 0
      have cK := (rowN_cell hK).1 0
      have cN := (rowN_cell hN).1 0
      have cR := (rowN_cell hR).1 0
      have fR := (rowN_cell hR).2 0
      have fK := (rowN_cell hK).2 0
      have fN := (rowN_cell hN).2 0
      have HR := Lib.hid hR
      have HM := Lib.hid hM
      have HK := Lib.hid hK
      have HN := Lib.hid hN
      have HTT := Lib.hid hT
      have HTu := Lib.hid hTu
      clear hB hS hR hM hK hN hT hTu
      obtain ⟨kk, hkk⟩ : ∃ kk, pre.length = kk := ⟨_, rfl⟩
      rw [hkk] at hlen' cK
      have HLEN := Lib.hid hkk
      replace HK := Lib.hid (show rowN W bK = some #[.int .i64 (kk : Nat)] by rw [← hkk]; exact HK.out)
      clear hkk
      by_cases he : q = (xv : Int)
      · have HQX := Lib.hid he
        rw [he] at cN hq0 hq3
        obtain ⟨h1, h2, h3⟩ := nx_set (HQ.out.trans he)
        have HB1 := Lib.hid (fun W' (h : RefN v (.slice ta L tc) W') => rbit_set v xv (.slice ta L tc) W' h h2 (by omega))
        have HB2 := Lib.hid (fun W' => bit_set1 v HV.out xv W' h2)
        have H2 := Lib.hid h2
        have HN' := Lib.hid (show rowN W (bK + 1) = some #[.int .i64 (xv : Int)] by rw [← he]; exact HN.out)
        clear h1 h2 h3 he
        rw [HXV.out]
        gi_wp2_with fail
        refine ⟨trivial, ?_⟩
        refine (CallsIn.inRound l (callsIn_wide.2 (HB1.out _ (DigN.kept HT1.out HBB.out)))).mono ?_
        rintro e w1 ⟨rfl, hw⟩
        subst w1
        gi_wp2_with fail
        refine ⟨trivial, ?_⟩
        refine (CallsIn.inRound l (callsIn_wide.2 (HB2.out _))).mono ?_
        rintro e w2 ⟨rfl, hb⟩
        have hA2 := kept hb _ _ hA
        have hT2 := kept hb _ _ HTT.out
        have hM2 := kept hb _ _ HM.out
        have hS2 := kept hb _ _ HS9.out
        have hTu2 := kept hb _ _ HTu.out
        have hK2 := kept hb _ _ HK.out
        have hN2 := kept hb _ _ HN'.out
        have HB2' := Lib.hid (HBB.out.trans (hb.mono HBB.out.size))
        have HKO := Lib.hid (keeps_below hb)
        have HKB := Lib.hid (keepB_below hb (rowN_lt HS9.out))
        clear hb cT cTu cM cK cN cR fR fK fN
        have cN := (rowN_cell hN2).1 0
        have fN := (rowN_cell hN2).2 0
        have HL0 := Lib.hid (btL_start (kk := kk) (xv := xv) hA2 hT2 hM2 hS2 hTu2 hK2 hN2 HB2'.out HKO.out HKB.out (by omega) (by omega) (by omega) (by omega) (by omega) (by omega) (by omega))
        clear hA2 hT2 hM2 hS2 hTu2 hK2 hN2 HB2' HKO HKB
        gi_wp2_with fail
        clear cN fN
        gi_loopw [82] (fun _ wr => BtL v xv kk 1 many (.slice ta L tc) W0.heap.size (W0.heap.size + 1) bTu w.heap.size bS bK (bK + 1) wq W wr) (fun _ wr => (intOf ((wr.cell? ⟨bK + 1, 0, none⟩).getD undef) + 1).toNat)
        case atStart => exact HL0.out
        case round =>
          clear HL0
          obtain ⟨m, hm, hmx, ⟨hA, hT, hM, hS, hTu, hK, hN⟩, hB, hKO, hKB⟩ := hrel
          have HMX := Lib.hid hmx
          have HB := Lib.hid hB
          have HKO := Lib.hid hKO
          have HKB := Lib.hid hKB
          have HS' := Lib.hid hS
          have cT := (rowN_cell hT).1 0
          have cTu := (rowN_cell hTu).1 0
          have cM := (rowN_cell hM).1 0
          have cK := (rowN_cell hK).1 0
          have cN := (rowN_cell hN).1 0
          have fK := (rowN_cell hK).2 0
          have fN := (rowN_cell hN).2 0
          have HM := Lib.hid hM
          have HK := Lib.hid hK
          have HN := Lib.hid hN
          have HTT := Lib.hid hT
          have HTu := Lib.hid hTu
          have HA := Lib.hid hA
          clear hmx hB hKO hKB hS hM hK hN hT hTu hA
          cases m with
            | zero =>
              rw [show ((0 : Nat) : Int) - 1 = -1 by omega] at cN
              have HN' := Lib.hid (show rowN wr (bK + 1) = some #[.int .i64 (-1)] by rw [HN.out]; rfl)
              have HFIN := Lib.hid (show nx v xv = -1 by rw [← HMX.out]; exact nx_zero v)
              gi_wp2_with fail
              refine ⟨trivial, ?_⟩
              gi_wp2_with fail
              exact ⟨HKO.out.trans (KeepsOthers.setCell _ _ _), keepB_set HKB.out (by omega), btI_next HG.out HQ.out HXV.out HQX.out HFIN.out HLEN.out HA.out HTT.out HM.out HS'.out HTu.out HK.out HN'.out HB.out (by omega) (by omega) (by omega) (by omega) (by omega) (by omega) (by omega)⟩
            | succ m' =>
              rw [show ((m' + 1 : Nat) : Int) - 1 = (m' : Int) by omega] at cN
              have HN' := Lib.hid (show rowN wr (bK + 1) = some #[.int .i64 (m' : Int)] by rw [HN.out, show ((m' + 1 : Nat) : Int) - 1 = (m' : Int) by omega])
              cases hb : v.testBit m' with
              | false =>
                have HB3 := Lib.hid (fun W' (h : RefN v (.slice ta L tc) W') => rbit_clear v m' (.slice ta L tc) W' h hb (by omega))
                have HDN := Lib.hid (nx_down hb)
                clear hb
                gi_wp2_with fail
                refine ⟨trivial, ?_⟩
                refine (CallsIn.inRound l (callsIn_wide.2 (HB3.out _ (DigN.kept HT1.out HB.out)))).mono ?_
                rintro e w3 ⟨rfl, hw⟩
                subst w3
                gi_wp2_with fail
                exact ⟨btL_down HDN.out HMX.out hm HA.out HTT.out HM.out HS'.out HTu.out HK.out HN'.out HB.out HKO.out HKB.out (by omega) (by omega) (by omega) (by omega) (by omega) (by omega) (by omega), btL_meas HN'.out⟩
              | true =>
                have HB3 := Lib.hid (fun W' (h : RefN v (.slice ta L tc) W') => rbit_set v m' (.slice ta L tc) W' h hb (by omega))
                have HFIN := Lib.hid (show nx v xv = (m' : Int) by rw [← HMX.out]; exact nx_here hb)
                clear hb
                gi_wp2_with fail
                refine ⟨trivial, ?_⟩
                refine (CallsIn.inRound l (callsIn_wide.2 (HB3.out _ (DigN.kept HT1.out HB.out)))).mono ?_
                rintro e w3 ⟨rfl, hw⟩
                subst w3
                gi_wp2_with fail
                exact ⟨HKO.out.trans (KeepsOthers.setCell _ _ _), keepB_set HKB.out (by omega), btI_next HG.out HQ.out HXV.out HQX.out HFIN.out HLEN.out HA.out HTT.out HM.out HS'.out HTu.out HK.out HN'.out HB.out (by omega) (by omega) (by omega) (by omega) (by omega) (by omega) (by omega)⟩
      · have hne : ((xv : Int) != q) = true := by rw [bne_iff_ne]; exact fun e => he e.symm
        have heq : ((xv : Int) == q) = false := by rw [beq_eq_false_iff_ne]; exact fun e => he e.symm
        have he' : ¬ (xv : Int) = q := fun e => he e.symm
        rw [HXV.out]
        gi_wp2_with fail
        refine ⟨trivial, ?_⟩
        gi_wp2_with fail
        refine ⟨trivial, ?_⟩
        gi_wp2_with fail
        exact ⟨KeepsOthers.setCell _ _ _, .inl ⟨pre, x, rfl, HG.out, by rw [HQ.out, HXV.out]; exact he⟩⟩
    case donex2 =>
      rintro D1 ys W hD1 hSx ⟨⟨hg, hA, hT, hM, hS, hTu, hK, hN⟩, hB⟩ hDK1
      rw [good_all hg hSx] at hN
      have cTu := (rowN_cell hTu).1 0
      have cN := (rowN_cell hN).1 0
      have HB := Lib.hid hB
      clear hg hSx hB hK HI0 HS8
      go_wp2_with fail
      have hTu2 : rowN (W.alloc (.cells #[.int .i64 2] 3)) W.heap.size = some #[.int .i64 2] := by rw [rowN_alloc, if_pos rfl]
      have cTu2 := (rowN_cell hTu2).1 0
      rw [rounds_succ]
      go_wp2_with fail
      refine (known_any _).mono ?_
      rintro e wK ⟨rfl, hb⟩
      have hbb := ((Below.refl _ W).alloc (Nat.le_refl _) (.cells #[.int .i64 2] 3)).trans (hb.mono (by simp))
      have hRk := kept hbb _ _ (kept HB.out _ _ hR1)
      have cR := (rowN_cell hRk).1 0
      have fR := (rowN_cell hRk).2 0
      obtain ⟨k1, k2, k3, k4⟩ := bits_end HB0.out HB9.out HB.out hbb HD9.out hDK1 (by omega) hD0w (by omega) hRk
      have K1 := Lib.hid k1
      have K2 := Lib.hid k2
      have K3 := Lib.hid k3
      have K4 := Lib.hid k4
      clear k1 k2 k3 k4 hb hbb cTu2 hTu2 hA hT hM hS hTu hN hDK1 hRk
      go_wp2_with fail
      refine ⟨by simp, .inl ⟨_, _, rfl, run_takeDeferred K1.out, ?_⟩⟩
      refine ⟨by simp, .inl ⟨_, _, rfl, run_takeDeferred K2.out, ?_⟩⟩
      exact ⟨_, results_bool _ _ rfl rfl K3.out, rfl, K4.out⟩
    case stopx2 =>
      rintro D1 c pre W hD1 hSp hX hDK1
      rcases hX with ⟨pre', x, rfl, hg, hne⟩ | ⟨⟨rfl, htt, hA, hT, hM, hS, hTu⟩, hB⟩
      · obtain ⟨pre2, x2, he, hcov⟩ := hSp
        obtain ⟨e1, e2⟩ := List.append_inj' he rfl
        have e3 : x = x2 := by simpa using e2
        subst e3
        exact absurd (good_last hg hcov) hne
      · exact absurd htt (by decide)
  case stopx1 =>
    rintro D0 c pre W hD0 hSp hX hDK0
    rcases hX with ⟨pre', x, rfl, hg, hne⟩ | ⟨⟨rfl, htt, hA, hT, hM, hS, hTu⟩, hB⟩
    · obtain ⟨pre2, x2, he, hcov⟩ := hSp
      obtain ⟨e1, e2⟩ := List.append_inj' he rfl
      have e3 : x = x2 := by simpa using e2
      subst e3
      exact absurd (good_last hg hcov) hne
    · have cTu := (rowN_cell hTu).1 0
      have HB := Lib.hid hB
      clear hB hSp HI0 HS8 htt
      refine wpIn_wide.2 ?_
      go_wp2_with fail
      have hD0w : w.heap.size ≤ D0 := by omega
      clear hD0
      have hTu' : rowN (W.alloc (.cells #[.int .i64 1] 3)) W.heap.size = some #[.int .i64 1] := by rw [rowN_alloc, if_pos rfl]
      have hb9 : Below W.heap.size W (W.alloc (.cells #[.int .i64 1] 3)) := (Below.refl _ _).alloc (Nat.le_refl _) _
      replace hA := kept hb9 _ _ hA
      replace hT := kept hb9 _ _ hT
      replace hM := kept hb9 _ _ hM
      replace hS := kept hb9 _ _ hS
      have HB9 := Lib.hid (HB.out.trans (hb9.mono HB.out.size))
      have hD9 := (hb9.block D0 (Array.getElem?_eq_some_iff.1 hDK0).1).trans hDK0
      have HD9 := Lib.hid hD9
      have HT1 := Lib.hid (DigN.kept HT0.out HB9.out)
      have hR1 := kept HB9.out _ _ hR0
      have hs9 : (W.alloc (.cells #[.int .i64 1] 3)).heap.size = W.heap.size + 1 := by simp
      clear hb9 hDK0 hD9 hTu HB cTu lA lT lM lS lTu lW hsq l9 l0
      obtain ⟨bTu2, hbt⟩ : ∃ b, W.heap.size = b := ⟨_, rfl⟩
      rw [hbt] at hTu' hs9 ⊢
      clear hbt
      generalize W.alloc (.cells #[.int .i64 1] 3) = W9 at *
      clear hs9
      obtain ⟨bTu, rfl⟩ : ∃ b, b = bTu2 := ⟨_, rfl⟩
      have hTu := hTu'
      clear hTu'
      have HB := Lib.hid (Below.refl W9.heap.size W9)
      rw [rounds_succ]
      have cT := (rowN_cell hT).1 0
      have cTu := (rowN_cell hTu).1 0
      go_wp2_with fail
      refine (HRL.out _ (DigN.kept HT1.out HB.out)).mono ?_
      rintro e wq ⟨rfl, hw⟩
      subst hw
      go_wp2_with fail
      have hK8 : rowN ((wq.alloc (.cells #[.int .i64 0] 3)).alloc (.cells #[.int .i64 ((NB : Int) - 1)] 3)) wq.heap.size = some #[.int .i64 0] := by
        rw [rowN_alloc, if_neg (by simp), rowN_alloc, if_pos rfl]
      have hN8 : rowN ((wq.alloc (.cells #[.int .i64 0] 3)).alloc (.cells #[.int .i64 ((NB : Int) - 1)] 3)) (wq.heap.size + 1) = some #[.int .i64 ((NB : Int) - 1)] := by
        rw [rowN_alloc, if_pos (by simp)]
      have hb8 : Below wq.heap.size wq ((wq.alloc (.cells #[.int .i64 0] 3)).alloc (.cells #[.int .i64 ((NB : Int) - 1)] 3)) := ((Below.refl _ _).alloc (Nat.le_refl _) _).alloc (by simp) _
      have hs8 : ((wq.alloc (.cells #[.int .i64 0] 3)).alloc (.cells #[.int .i64 ((NB : Int) - 1)] 3)).heap.size = wq.heap.size + 1 + 1 := by simp
      have lA := rowN_lt hA
      have lT := rowN_lt hT
      have lM := rowN_lt hM
      have lS := rowN_lt hS
      have lTu := rowN_lt hTu
      replace hA := kept hb8 _ _ hA
      replace hT := kept hb8 _ _ hT
      replace hM := kept hb8 _ _ hM
      replace hS := kept hb8 _ _ hS
      replace hTu := kept hb8 _ _ hTu
      replace HB := Lib.hid (HB.out.trans (hb8.mono HB.out.size))
      have hsq : wq.heap.size + 1 + 1 ≤ ((wq.alloc (.cells #[.int .i64 0] 3)).alloc (.cells #[.int .i64 ((NB : Int) - 1)] 3)).heap.size := by omega
      have lW := HB.out.size
      clear hb8 hs8 cT cTu
      obtain ⟨bK, hbk⟩ : ∃ bK, wq.heap.size = bK := ⟨_, rfl⟩
      have l9 : wq.heap.size ≤ bK := Nat.le_of_eq hbk
      have l0 : W0.heap.size ≤ bK := by omega
      rw [hbk] at hK8 hN8 lA lT lM lS lTu hsq ⊢
      generalize (wq.alloc (.cells #[.int .i64 0] 3)).alloc (.cells #[.int .i64 ((NB : Int) - 1)] 3) = W8 at *
      clear hbk
      have HI0 := Lib.hid (btI_start (tt := 1) (many := many) HNB.out hA hT hM hS hTu hK8 hN8 HB.out)
      have HS8 := Lib.hid hS
      clear hA hT hM hS hTu hK8 hN8 HB
      refine (wpIn_wide (n := 5)).1 ?_
      refine wpIn_rangeFunc_ownF rfl (by omega) (gf := 56) (lb := #[.pointer (some ⟨bS, 0, none⟩)]) rfl trivial (enters_of Try.func56 (by kernel_rfl) rfl)
        (ones1_stops (5 - 1) bS v HV.out _ HS8.out) (fun {A B C} h k => Eq.trans k h) (fun W l o o' hl ho _ _ => World.putObj_heap_other (fun e => by omega)) (Below.refl _ _) (fun _ => rfl)
        (BtI v 1 many (.slice ta L tc) W0.heap.size (W0.heap.size + 1) bTu w.heap.size bS bK (bK + 1) wq) (BtX v 1 many (.slice ta L tc) W0.heap.size (W0.heap.size + 1) bTu w.heap.size bS wq)
        (btI_own lW) (fun c => btX_own lW c) HI0.out ?a1x3 ?assignx3 ?bodyx3 ?donex3 ?stopx3
      case assignx3 =>
        intro l x W K hK
        gi_wp2
        exact hK
      case bodyx3 =>
        rintro l pre x W ⟨⟨hg, hA, hT, hM, hS, hTu, hK, hN⟩, hB⟩ hlen
        have hx : x.1 < NB := Nat.lt_of_lt_of_eq x.2 HNB.out
        have hlen' : pre.length < NB := Nat.lt_of_lt_of_eq hlen HNB.out
        clear hlen
        obtain ⟨xv, hxv⟩ : ∃ xv, x.1 = xv := ⟨_, rfl⟩
        rw [hxv] at hx
        have HXV := Lib.hid hxv
        have HG := Lib.hid hg
        obtain ⟨q, hq⟩ : ∃ q, nx v (low pre) = q := ⟨_, rfl⟩
        have hq0 := (nx_bd v (low pre)).1
        have hq1 := (nx_bd v (low pre)).2
        have hq2 : low pre ≤ NB := Nat.le_trans (low_le pre) (Nat.le_of_eq HNB.out)
        rw [hq] at hN hq0 hq1
        have hq3 : q ≤ 1024 := by omega
        have HQ := Lib.hid hq
        clear hxv hg hq hq1 hq2
        have hR := kept hB _ _ hR1
        have HBB := Lib.hid hB
        have HS9 := Lib.hid hS
        have cT := (rowN_cell hT).1 0
        have cTu := (rowN_cell hTu).1 0
        have cM := (rowN_cell hM).1 0
        have cK := (rowN_cell hK).1 0
        have cN := (rowN_cell hN).1 0
        have cR := (rowN_cell hR).1 0
        have fR := (rowN_cell hR).2 0
        have fK := (rowN_cell hK).2 0
        have fN := (rowN_cell hN).2 0
        have HR := Lib.hid hR
        have HM := Lib.hid hM
        have HK := Lib.hid hK
        have HN := Lib.hid hN
        have HTT := Lib.hid hT
        have HTu := Lib.hid hTu
        clear hB hS hR hM hK hN hT hTu
        obtain ⟨kk, hkk⟩ : ∃ kk, pre.length = kk := ⟨_, rfl⟩
        rw [hkk] at hlen' cK
        have HLEN := Lib.hid hkk
        replace HK := Lib.hid (show rowN W bK = some #[.int .i64 (kk : Nat)] by rw [← hkk]; exact HK.out)
        clear hkk
        by_cases he : q = (xv : Int)
        · have HQX := Lib.hid he
          rw [he] at cN hq0 hq3
          obtain ⟨h1, h2, h3⟩ := nx_set (HQ.out.trans he)
          have HB1 := Lib.hid (fun W' (h : RefN v (.slice ta L tc) W') => rbit_set v xv (.slice ta L tc) W' h h2 (by omega))
          have HB2 := Lib.hid (fun W' => bit_set1 v HV.out xv W' h2)
          have H2 := Lib.hid h2
          have HN' := Lib.hid (show rowN W (bK + 1) = some #[.int .i64 (xv : Int)] by rw [← he]; exact HN.out)
          clear h1 h2 h3 he
          rw [HXV.out]
          gi_wp2_with fail
          refine ⟨trivial, ?_⟩
          refine (CallsIn.inRound l (callsIn_wide.2 (HB1.out _ (DigN.kept HT1.out HBB.out)))).mono ?_
          rintro e w1 ⟨rfl, hw⟩
          subst w1
          gi_wp2_with fail
          refine ⟨trivial, ?_⟩
          refine (CallsIn.inRound l (callsIn_wide.2 (HB2.out _))).mono ?_
          rintro e w2 ⟨rfl, hb⟩
          have hA2 := kept hb _ _ hA
          have hT2 := kept hb _ _ HTT.out
          have hM2 := kept hb _ _ HM.out
          have hS2 := kept hb _ _ HS9.out
          have hTu2 := kept hb _ _ HTu.out
          have hK2 := kept hb _ _ HK.out
          have hN2 := kept hb _ _ HN'.out
          have HB2' := Lib.hid (HBB.out.trans (hb.mono HBB.out.size))
          have HKO := Lib.hid (keeps_below hb)
          have HKB := Lib.hid (keepB_below hb (rowN_lt HS9.out))
          clear hb cT cTu cM cK cN cR fR fK fN
          have cN := (rowN_cell hN2).1 0
          have fN := (rowN_cell hN2).2 0
          have HL0 := Lib.hid (btL_start (kk := kk) (xv := xv) hA2 hT2 hM2 hS2 hTu2 hK2 hN2 HB2'.out HKO.out HKB.out (by omega) (by omega) (by omega) (by omega) (by omega) (by omega) (by omega))
          clear hA2 hT2 hM2 hS2 hTu2 hK2 hN2 HB2' HKO HKB
          gi_wp2_with fail
          clear cN fN
          gi_loopw [82] (fun _ wr => BtL v xv kk 1 many (.slice ta L tc) W0.heap.size (W0.heap.size + 1) bTu w.heap.size bS bK (bK + 1) wq W wr) (fun _ wr => (intOf ((wr.cell? ⟨bK + 1, 0, none⟩).getD undef) + 1).toNat)
          case atStart => exact HL0.out
          case round =>
            clear HL0
            obtain ⟨m, hm, hmx, ⟨hA, hT, hM, hS, hTu, hK, hN⟩, hB, hKO, hKB⟩ := hrel
            have HMX := Lib.hid hmx
            have HB := Lib.hid hB
            have HKO := Lib.hid hKO
            have HKB := Lib.hid hKB
            have HS' := Lib.hid hS
            have cT := (rowN_cell hT).1 0
            have cTu := (rowN_cell hTu).1 0
            have cM := (rowN_cell hM).1 0
            have cK := (rowN_cell hK).1 0
            have cN := (rowN_cell hN).1 0
            have fK := (rowN_cell hK).2 0
            have fN := (rowN_cell hN).2 0
            have HM := Lib.hid hM
            have HK := Lib.hid hK
            have HN := Lib.hid hN
            have HTT := Lib.hid hT
            have HTu := Lib.hid hTu
            have HA := Lib.hid hA
            clear hmx hB hKO hKB hS hM hK hN hT hTu hA
            cases m with
              | zero =>
                rw [show ((0 : Nat) : Int) - 1 = -1 by omega] at cN
                have HN' := Lib.hid (show rowN wr (bK + 1) = some #[.int .i64 (-1)] by rw [HN.out]; rfl)
                have HFIN := Lib.hid (show nx v xv = -1 by rw [← HMX.out]; exact nx_zero v)
                gi_wp2_with fail
                refine ⟨trivial, ?_⟩
                gi_wp2_with fail
                exact ⟨HKO.out.trans (KeepsOthers.setCell _ _ _), keepB_set HKB.out (by omega), btI_next HG.out HQ.out HXV.out HQX.out HFIN.out HLEN.out HA.out HTT.out HM.out HS'.out HTu.out HK.out HN'.out HB.out (by omega) (by omega) (by omega) (by omega) (by omega) (by omega) (by omega)⟩
              | succ m' =>
                rw [show ((m' + 1 : Nat) : Int) - 1 = (m' : Int) by omega] at cN
                have HN' := Lib.hid (show rowN wr (bK + 1) = some #[.int .i64 (m' : Int)] by rw [HN.out, show ((m' + 1 : Nat) : Int) - 1 = (m' : Int) by omega])
                cases hb : v.testBit m' with
                | false =>
                  have HB3 := Lib.hid (fun W' (h : RefN v (.slice ta L tc) W') => rbit_clear v m' (.slice ta L tc) W' h hb (by omega))
                  have HDN := Lib.hid (nx_down hb)
                  clear hb
                  gi_wp2_with fail
                  refine ⟨trivial, ?_⟩
                  refine (CallsIn.inRound l (callsIn_wide.2 (HB3.out _ (DigN.kept HT1.out HB.out)))).mono ?_
                  rintro e w3 ⟨rfl, hw⟩
                  subst w3
                  gi_wp2_with fail
                  exact ⟨btL_down HDN.out HMX.out hm HA.out HTT.out HM.out HS'.out HTu.out HK.out HN'.out HB.out HKO.out HKB.out (by omega) (by omega) (by omega) (by omega) (by omega) (by omega) (by omega), btL_meas HN'.out⟩
                | true =>
                  have HB3 := Lib.hid (fun W' (h : RefN v (.slice ta L tc) W') => rbit_set v m' (.slice ta L tc) W' h hb (by omega))
                  have HFIN := Lib.hid (show nx v xv = (m' : Int) by rw [← HMX.out]; exact nx_here hb)
                  clear hb
                  gi_wp2_with fail
                  refine ⟨trivial, ?_⟩
                  refine (CallsIn.inRound l (callsIn_wide.2 (HB3.out _ (DigN.kept HT1.out HB.out)))).mono ?_
                  rintro e w3 ⟨rfl, hw⟩
                  subst w3
                  gi_wp2_with fail
                  exact ⟨HKO.out.trans (KeepsOthers.setCell _ _ _), keepB_set HKB.out (by omega), btI_next HG.out HQ.out HXV.out HQX.out HFIN.out HLEN.out HA.out HTT.out HM.out HS'.out HTu.out HK.out HN'.out HB.out (by omega) (by omega) (by omega) (by omega) (by omega) (by omega) (by omega)⟩
        · have hne : ((xv : Int) != q) = true := by rw [bne_iff_ne]; exact fun e => he e.symm
          have heq : ((xv : Int) == q) = false := by rw [beq_eq_false_iff_ne]; exact fun e => he e.symm
          have he' : ¬ (xv : Int) = q := fun e => he e.symm
          rw [HXV.out]
          gi_wp2_with fail
          refine ⟨trivial, ?_⟩
          gi_wp2_with fail
          refine ⟨trivial, ?_⟩
          gi_wp2_with fail
          exact ⟨KeepsOthers.setCell _ _ _, .inl ⟨pre, x, rfl, HG.out, by rw [HQ.out, HXV.out]; exact he⟩⟩
      case donex3 =>
        rintro D1 ys W hD1 hSx ⟨⟨hg, hA, hT, hM, hS, hTu, hK, hN⟩, hB⟩ hDK1
        rw [good_all hg hSx] at hN
        have cTu := (rowN_cell hTu).1 0
        have cN := (rowN_cell hN).1 0
        have HB := Lib.hid hB
        clear hg hSx hB hK HI0 HS8
        go_wp2_with fail
        have hTu2 : rowN (W.alloc (.cells #[.int .i64 2] 3)) W.heap.size = some #[.int .i64 2] := by rw [rowN_alloc, if_pos rfl]
        have cTu2 := (rowN_cell hTu2).1 0
        rw [rounds_succ]
        go_wp2_with fail
        refine (known_any _).mono ?_
        rintro e wK ⟨rfl, hb⟩
        have hbb := ((Below.refl _ W).alloc (Nat.le_refl _) (.cells #[.int .i64 2] 3)).trans (hb.mono (by simp))
        have hRk := kept hbb _ _ (kept HB.out _ _ hR1)
        have cR := (rowN_cell hRk).1 0
        have fR := (rowN_cell hRk).2 0
        obtain ⟨k1, k2, k3, k4⟩ := bits_end HB0.out HB9.out HB.out hbb HD9.out hDK1 (by omega) hD0w (by omega) hRk
        have K1 := Lib.hid k1
        have K2 := Lib.hid k2
        have K3 := Lib.hid k3
        have K4 := Lib.hid k4
        clear k1 k2 k3 k4 hb hbb cTu2 hTu2 hA hT hM hS hTu hN hDK1 hRk
        go_wp2_with fail
        refine ⟨by simp, .inl ⟨_, _, rfl, run_takeDeferred K1.out, ?_⟩⟩
        refine ⟨by simp, .inl ⟨_, _, rfl, run_takeDeferred K2.out, ?_⟩⟩
        exact ⟨_, results_bool _ _ rfl rfl K3.out, rfl, K4.out⟩
      case stopx3 =>
        rintro D1 c pre W hD1 hSp hX hDK1
        rcases hX with ⟨pre', x, rfl, hg, hne⟩ | ⟨⟨rfl, htt, hA, hT, hM, hS, hTu⟩, hB⟩
        · obtain ⟨pre2, x2, he, hcov⟩ := hSp
          obtain ⟨e1, e2⟩ := List.append_inj' he rfl
          have e3 : x = x2 := by simpa using e2
          subst e3
          exact absurd (good_last hg hcov) hne
        · exact absurd htt (by decide)
end Go.Proofs.Ytkegdjndmeialaa
