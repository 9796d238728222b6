/- What moved comes to. -/
import Derived.Test.YtkegdjndmeialaaE2
namespace Go.Proofs.Ytkegdjndmeialaa
open Go.RowKit Go.Shelf

attribute [local go_sem] Oper.semAt_some

/-- The bits x of a list, moved by n places. -/
def orSh {v : Nat} (n : Int) (pre : List (Bit v)) : Nat := pre.foldl (fun a x => a ||| 2 ^ (((x.1 : Nat) : Int) + n).toNat) 0

theorem orSh_snoc {v : Nat} (n : Int) (pre : List (Bit v)) (x : Bit v) : orSh n (pre ++ [x]) = orSh n pre ||| 2 ^ (((x.1 : Nat) : Int) + n).toNat := by simp [orSh]

theorem row_kept {W W' : World} {g : Nat} {cs : Array Value} {row : Option Nat} (h : rowN W g = some cs) (hg : W.grownBy W' row) (hr : ∀ r, row = some r → ∃ o : Obj, W.heap[r]? = some o ∧ o.isCells = false) : rowN W' g = some cs := by
  obtain ⟨t, ht⟩ := rowN_some h
  have hl := rowN_lt h
  have hne : some g ≠ row := by
    intro e
    obtain ⟨o, ho, hc⟩ := hr g e.symm
    rw [ht] at ho
    cases ho
    cases hc
  rw [grownBy_rowN hg hl hne]; exact h

theorem results_nat {fn : Func} {p : Tmp} (tmps : Array Value) {w : World} (g : Nat) (cs : Array Value) (h : fn.results = #[.cell p 28])
    (hp : tmps.getD p undef = .pointer (some ⟨g, 0, none⟩)) (hr : rowN w g = some cs) (hs : cs.size = 16) : (results fn tmps).run Try.prog w = .ok (.agg cs) w := by
  have hp' : tmps[p]?.getD undef = .pointer (some ⟨g, 0, none⟩) := by simpa using hp
  simp [results, h, hp', asAddr, run_loadVar28_row hr hs]

theorem moved_end {w W : World} {r D : Nat} (hD : w.heap.size < D) (hrr : rowN W (w.heap.size + 1 + 1) = some (natA 0)) (hB : Below w.heap.size w W) (hK : W.heap[D]? = some (.deferred (some []))) :
    (W.setRow (w.heap.size + 1 + 1) (natA r)).heap[D]? = some (.deferred (some [])) ∧ rowN ((W.setRow (w.heap.size + 1 + 1) (natA r)).putObj D (.deferred none)) (w.heap.size + 1 + 1) = some (natA r) ∧
    Below w.heap.size w ((W.setRow (w.heap.size + 1 + 1) (natA r)).putObj D (.deferred none)) := by
  have hne : D ≠ w.heap.size + 1 + 1 := by
    intro e
    obtain ⟨t, ht⟩ := rowN_some hrr
    rw [← e, hK] at ht
    cases ht
  have hK' : (W.setRow (w.heap.size + 1 + 1) (natA r)).heap[D]? = some (.deferred (some [])) := by rw [setRow_other _ _ _ _ hne]; exact hK
  have hrow : rowN (W.setRow (w.heap.size + 1 + 1) (natA r)) (w.heap.size + 1 + 1) = some (natA r) := by rw [rowN_setRow, if_pos rfl, hrr]; rfl
  refine ⟨hK', row_kept hrow (grownBy_putObj' _ D (.deferred none)) (fun k e => by cases e; exact ⟨_, hK', rfl⟩), ?_⟩
  have hb := below_setRow' hB (show w.heap.size ≤ w.heap.size + 1 + 1 by omega) (natA r)
  exact hb.grown (grownBy_putObj' _ D (.deferred none)) hb.size (fun k e => by cases e; omega)

/-- What holds between two rounds. -/
def MvI (v : Nat) (n : Int) (w : World) (pre : List (Bit v)) (W : World) : Prop :=
  ((∀ x ∈ pre, 0 ≤ ((x.1 : Nat) : Int) + n) ∧ W.cell? ⟨w.heap.size + 1, 0, none⟩ = some (.int .i64 n) ∧ rowN W (w.heap.size + 1 + 1 + 1) = some (natA (orSh n pre)) ∧ rowN W (w.heap.size + 1 + 1) = some (natA 0)) ∧ Below w.heap.size w W
/-- What holds where the loop has been left. -/
def MvX (v : Nat) (n : Int) (w : World) (k : Nat) (c : Code) (pre : List (Bit v)) (W : World) : Prop :=
  (c = .exit k ∧ ∃ pre' x, pre = pre' ++ [x] ∧ ((x.1 : Nat) : Int) + n < 0 ∧ (∀ y ∈ pre', 0 ≤ ((y.1 : Nat) : Int) + n) ∧ rowN W (w.heap.size + 1 + 1 + 1) = some (natA (orSh n pre')) ∧ rowN W (w.heap.size + 1 + 1) = some (natA 0)) ∧ Below w.heap.size w W

set_option maxRecDepth 100000 in
set_option maxHeartbeats 2000000 in
theorem moved_in (m : Nat) (hm : 3 ≤ m) (v r : Nat) (n : Int) (hv : v < P64 ^ 16) (hn0 : -9223372036854775808 ≤ n) (hn1 : (dlen 2 v : Int) + n ≤ 1024) (hn2 : n ≤ 1024)
    (hall : ∀ xs, AllBits v xs → (∀ x ∈ xs, 0 ≤ ((x.1 : Nat) : Int) + n) → orSh n xs = r)
    (hsome : ∀ (pre : List (Bit v)) x, Cov v x.1 (pre ++ [x]) → ((x.1 : Nat) : Int) + n < 0 → (∀ y ∈ pre, 0 ≤ ((y.1 : Nat) : Int) + n) → orSh n pre = r) (w : World) :
    CallsIn Fence.wide m Try.prog 68 #[.agg (natA v), .int .i64 n] w fun e w' => e = .returned (.agg (natA r)) ∧ Below w.heap.size w w' := by
  have HA := Lib.hid hall
  have HS := Lib.hid hsome
  have HV := Lib.hid hv
  clear hall hsome hv
  refine callsIn_of_wp_marks Try.func68 rfl trivial ?_ rfl
  simp only [Try.ntmps68, List.size_toArray, List.length_cons, List.length_nil, Nat.reduceAdd, Nat.reduceSub, Array.replicate_succ, Array.replicate_zero, List.push_toArray, List.append_toArray, List.nil_append, List.cons_append]
  have h1 : 1 ≤ m := by omega
  gi_wp2_with fail
  refine ⟨trivial, ?_⟩
  refine (callsIn_wide.2 (ones_any v _)).mono ?_
  rintro e w1 ⟨rfl, rfl⟩
  simp only [World.size_alloc]
  have hB0 : Below w.heap.size w (((((w.alloc (.cells (natA v) 28)).alloc (.cells #[.int .i64 n] 3)).alloc (.cells (natA 0) 28)).alloc (.cells (natA 0) 28)).alloc (.cells (natA v) 28)) :=
    (((((Below.refl _ w).alloc (Nat.le_refl _) _).alloc (by simp) _).alloc (by simp <;> omega) _).alloc (by simp <;> omega) _).alloc (by simp <;> omega) _
  gi_wp2_with fail
  have hnc : (((((w.alloc (.cells (natA v) 28)).alloc (.cells #[.int .i64 n] 3)).alloc (.cells (natA 0) 28)).alloc (.cells (natA 0) 28)).alloc (.cells (natA v) 28)).cell? ⟨w.heap.size + 1, 0, none⟩ = some (.int .i64 n) := by
    have h : rowN (((((w.alloc (.cells (natA v) 28)).alloc (.cells #[.int .i64 n] 3)).alloc (.cells (natA 0) 28)).alloc (.cells (natA 0) 28)).alloc (.cells (natA v) 28)) (w.heap.size + 1) = some #[.int .i64 n] := by
      simp only [rowN_alloc, World.size_alloc, if_true] <;> (repeat rw [if_neg (by omega)])
    rw [(rowN_cell h).1]; rfl
  have hV0 : rowN (((((w.alloc (.cells (natA v) 28)).alloc (.cells #[.int .i64 n] 3)).alloc (.cells (natA 0) 28)).alloc (.cells (natA 0) 28)).alloc (.cells (natA v) 28)) (w.heap.size + 1 + 1 + 1) = some (natA 0) := by
    simp only [rowN_alloc, World.size_alloc, if_true] <;> (repeat rw [if_neg (by omega)])
  have hR0 : rowN (((((w.alloc (.cells (natA v) 28)).alloc (.cells #[.int .i64 n] 3)).alloc (.cells (natA 0) 28)).alloc (.cells (natA 0) 28)).alloc (.cells (natA v) 28)) (w.heap.size + 1 + 1) = some (natA 0) := by
    simp only [rowN_alloc, World.size_alloc, if_true] <;> (repeat rw [if_neg (by omega)])
  have hBn : rowN (((((w.alloc (.cells (natA v) 28)).alloc (.cells #[.int .i64 n] 3)).alloc (.cells (natA 0) 28)).alloc (.cells (natA 0) 28)).alloc (.cells (natA v) 28)) (w.heap.size + 1 + 1 + 1 + 1) = some (natA v) := by
    simp only [rowN_alloc, World.size_alloc, if_true] <;> (repeat rw [if_neg (by omega)])
  have HI0 := Lib.hid (show MvI v n w [] _ from ⟨⟨fun x hx => absurd hx (by simp), hnc, hV0, hR0⟩, hB0⟩)
  have HBN := Lib.hid hBn
  clear hnc hV0 hR0 hBn hB0
  refine wpIn_rangeFunc_ownF rfl h1 (gf := 56) (lb := #[.pointer (some ⟨w.heap.size + 1 + 1 + 1 + 1, 0, none⟩)]) rfl trivial (enters_of Try.func56 (by kernel_rfl) rfl)
    (ones1_stops (m - 1) (w.heap.size + 1 + 1 + 1 + 1) v HV.out _ HBN.out) (fun {A B C} h k => Eq.trans k h) (fun W l o o' hl ho _ _ => World.putObj_heap_other (fun e => by simp at hl; omega)) (Below.refl _ _) (fun _ => rfl)
    (MvI v n w) (MvX v n w 0)
    (OwnFrom.and (Own.from (fun s A B row hs hg hr => ⟨hs.1, cell_kept hs.2.1 hg hr, row_kept hs.2.2.1 hg hr, row_kept hs.2.2.2 hg hr⟩) _) (ownFrom_below (Nat.le_refl _) (by simp <;> omega)))
    (fun c => OwnFrom.and (Own.from (fun s A B row hs hg hr => ⟨hs.1, by obtain ⟨pre', x, e1, e2, e3, e4, e5⟩ := hs.2; exact ⟨pre', x, e1, e2, e3, row_kept e4 hg hr, row_kept e5 hg hr⟩⟩) _) (ownFrom_below (Nat.le_refl _) (by simp <;> omega)))
    HI0.out
    (fun x => { tmps := #[.agg (natA v), .int .i64 n, .pointer (some ⟨w.heap.size, 0, none⟩), .pointer (some ⟨w.heap.size + 1, 0, none⟩), .pointer (some ⟨w.heap.size + 1 + 1, 0, none⟩), .pointer (some ⟨w.heap.size + 1 + 1 + 1, 0, none⟩), .int .i64 x.1, .agg (natA v), .func (.func 56) #[] #[.pointer (some ⟨w.heap.size + 1 + 1 + 1 + 1, 0, none⟩)], .int .i64 x.1, undef, undef, undef, undef, undef, undef, undef, undef, undef, undef], defers := [] }) ?assign ?body ?done ?stop
  case assign =>
    intro l x W K hK
    gi_wp2
    exact hK
  case body =>
    rintro l pre x W hI _
    obtain ⟨⟨hall, hnc, hrv, hrr⟩, hB⟩ := hI
    have hx := x.2
    have hL := dlen2_le HV.out
    obtain ⟨xv, hxv⟩ : ∃ xv, x.1 = xv := ⟨_, rfl⟩
    rw [hxv] at hx
    have HXV := Lib.hid hxv
    have HALL := Lib.hid hall
    have HRV := Lib.hid hrv
    have HRR := Lib.hid hrr
    have HBB := Lib.hid hB
    rw [hxv]
    clear hxv hall hrv hrr hB
    by_cases hneg : (xv : Int) + n < 0
    · gi_wp2_with fail
      exact ⟨KeepsOthers.refl _, ⟨rfl, pre, x, rfl, by rw [HXV.out]; exact hneg, HALL.out, HRV.out, HRR.out⟩, HBB.out⟩
    · have hge : 0 ≤ (xv : Int) + n := by omega
      gi_wp2_with fail
      refine ⟨trivial, (fun h => by cases h), ?_⟩
      refine (CallsIn.inRound l (callsIn_wide.2 (set_any (w.heap.size + 1 + 1 + 1) (orSh n pre) ((xv : Int) + n) hge (by omega) _ HRV.out))).mono ?_
      rintro e w2 ⟨rfl, hr2, u, rfl⟩
      have HR2 := Lib.hid hr2
      clear hr2
      gi_wp2_with fail
      refine ⟨(KeepsOthers.setCell _ _ _).trans (KeepsOthers.drew _), ?_, ⟨?_, ?_, ?_, ?_⟩, (HBB.out.setCell (p := ⟨w.heap.size + 1 + 1 + 1, _, none⟩) (by show w.heap.size ≤ w.heap.size + 1 + 1 + 1; omega) _).drew⟩
      · exact Below.heap_setCell W _ _ _ (by show w.heap.size + 1 + 1 + 1 + 1 ≠ w.heap.size + 1 + 1 + 1; omega)
      · intro y hy
        rcases List.mem_append.1 hy with hy | hy
        · exact HALL.out y hy
        · simp at hy; subst hy; rw [HXV.out]; exact hge
      · exact (World.cell?_setCell_other W _ _ u (fun e => by have h := congrArg Addr.block e; change w.heap.size + 1 + 1 + 1 = w.heap.size + 1 at h; omega)).trans hnc
      · rw [HR2.out, orSh_snoc, HXV.out]
      · rw [rowN_drew, rowN_setCell, if_neg (by show ¬ w.heap.size + 1 + 1 = w.heap.size + 1 + 1 + 1; omega)]; exact HRR.out
  case done =>
    rintro D ys W hD hS ⟨⟨hall, _, hrv, hrr⟩, hB⟩ hK
    have HO := Lib.hid (HA.out ys hS hall)
    have HRR := Lib.hid hrr
    have HBB := Lib.hid hB
    have HKK := Lib.hid hK
    rw [HO.out] at hrv
    have hrr' := HRR.out
    clear hall hrr hB hK
    gi_wp2_with fail
    obtain ⟨k1, k2, k3⟩ := moved_end (r := r) (by simp at hD; omega) HRR.out HBB.out HKK.out
    refine ⟨by simp, .inl ⟨_, _, rfl, run_takeDeferred k1, ?_⟩⟩
    exact ⟨_, results_nat _ _ _ rfl rfl k2 (natA_size _), rfl, k3⟩
  case stop =>
    rintro D c pre W hD hSp ⟨⟨rfl, pre', x, rfl, hneg, hall, hrv, hrr⟩, hB⟩ hK
    obtain ⟨pre2, x2, he, hcov⟩ := hSp
    obtain ⟨e1, e2⟩ := List.append_inj' he rfl
    have e3 : x = x2 := by simpa using e2
    subst e1
    subst e3
    have HO := Lib.hid (HS.out pre' x hcov hneg hall)
    have HRR := Lib.hid hrr
    have HBB := Lib.hid hB
    have HKK := Lib.hid hK
    rw [HO.out] at hrv
    have hrr' := HRR.out
    clear hall hrr hB hK hneg hcov he e2
    gi_wp2_with fail
    obtain ⟨k1, k2, k3⟩ := moved_end (r := r) (by simp at hD; omega) HRR.out HBB.out HKK.out
    refine ⟨by simp, .inl ⟨_, _, rfl, run_takeDeferred k1, ?_⟩⟩
    exact ⟨_, results_nat _ _ _ rfl rfl k2 (natA_size _), rfl, k3⟩
end Go.Proofs.Ytkegdjndmeialaa
