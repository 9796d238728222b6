/- What moved comes to. The two shifts. -/
import Derived.Test.YtlmfiggmjpjpiaaE2
import Derived.Test.YtlmfiggmjpjpiaaZC
namespace Go.Proofs.Ytlmfiggmjpjpiaa
open Go.RowKit Go.Shelf

attribute [local go_sem] Oper.semAt_some

/-- The bits x of a list, moved by n places. -/
def orSh {v : Nat} (n : Int) (pre : List (Bit v)) : Nat := pre.foldl (fun a x => a ||| 2 ^ (((x.1 : Nat) : Int) + n).toNat) 0

theorem orSh_snoc {v : Nat} (n : Int) (pre : List (Bit v)) (x : Bit v) : orSh n (pre ++ [x]) = orSh n pre ||| 2 ^ (((x.1 : Nat) : Int) + n).toNat := by simp [orSh]

theorem row_kept {W W' : World} {g : Nat} {cs : Array Value} {row : Option Nat} (h : rowN W g = some cs) (hg : W.grownBy W' row) (hr : ∀ r, row = some r → ∃ o : Obj, W.heap[r]? = some o ∧ o.isCells = false) : rowN W' g = some cs := by
  obtain ⟨t, ht⟩ := rowN_some h
  have hl := rowN_lt h
  have hne : some g ≠ row := by
    intro e
    obtain ⟨o, ho, hc⟩ := hr g e.symm
    rw [ht] at ho
    cases ho
    cases hc
  rw [grownBy_rowN hg hl hne]; exact h

theorem results_nat {fn : Func} {p : Tmp} (tmps : Array Value) {w : World} (g : Nat) (cs : Array Value) (h : fn.results = #[.cell p 28])
    (hp : tmps.getD p undef = .pointer (some ⟨g, 0, none⟩)) (hr : rowN w g = some cs) (hs : cs.size = 16) : (results fn tmps).run Try.prog w = .ok (.agg cs) w := by
  have hp' : tmps[p]?.getD undef = .pointer (some ⟨g, 0, none⟩) := by simpa using hp
  simp [results, h, hp', asAddr, run_loadVar28_row hr hs]

theorem moved_end {w W : World} {r D : Nat} (hD : w.heap.size < D) (hrr : rowN W (w.heap.size + 1 + 1) = some (natA 0)) (hB : Below w.heap.size w W) (hK : W.heap[D]? = some (.deferred (some []))) :
    (W.setRow (w.heap.size + 1 + 1) (natA r)).heap[D]? = some (.deferred (some [])) ∧ rowN ((W.setRow (w.heap.size + 1 + 1) (natA r)).putObj D (.deferred none)) (w.heap.size + 1 + 1) = some (natA r) ∧
    Below w.heap.size w ((W.setRow (w.heap.size + 1 + 1) (natA r)).putObj D (.deferred none)) := by
  have hne : D ≠ w.heap.size + 1 + 1 := by
    intro e
    obtain ⟨t, ht⟩ := rowN_some hrr
    rw [← e, hK] at ht
    cases ht
  have hK' : (W.setRow (w.heap.size + 1 + 1) (natA r)).heap[D]? = some (.deferred (some [])) := by rw [setRow_other _ _ _ _ hne]; exact hK
  have hrow : rowN (W.setRow (w.heap.size + 1 + 1) (natA r)) (w.heap.size + 1 + 1) = some (natA r) := by rw [rowN_setRow, if_pos rfl, hrr]; rfl
  refine ⟨hK', row_kept hrow (grownBy_putObj' _ D (.deferred none)) (fun k e => by cases e; exact ⟨_, hK', rfl⟩), ?_⟩
  have hb := below_setRow' hB (show w.heap.size ≤ w.heap.size + 1 + 1 by omega) (natA r)
  exact hb.grown (grownBy_putObj' _ D (.deferred none)) hb.size (fun k e => by cases e; omega)

/-- What holds between two rounds. -/
def MvI (v : Nat) (n : Int) (w : World) (pre : List (Bit v)) (W : World) : Prop :=
  ((∀ x ∈ pre, 0 ≤ ((x.1 : Nat) : Int) + n) ∧ W.cell? ⟨w.heap.size + 1, 0, none⟩ = some (.int .i64 n) ∧ rowN W (w.heap.size + 1 + 1 + 1) = some (natA (orSh n pre)) ∧ rowN W (w.heap.size + 1 + 1) = some (natA 0)) ∧ Below w.heap.size w W
/-- What holds where the loop has been left. -/
def MvX (v : Nat) (n : Int) (w : World) (k : Nat) (c : Code) (pre : List (Bit v)) (W : World) : Prop :=
  (c = .exit k ∧ ∃ pre' x, pre = pre' ++ [x] ∧ ((x.1 : Nat) : Int) + n < 0 ∧ (∀ y ∈ pre', 0 ≤ ((y.1 : Nat) : Int) + n) ∧ rowN W (w.heap.size + 1 + 1 + 1) = some (natA (orSh n pre')) ∧ rowN W (w.heap.size + 1 + 1) = some (natA 0)) ∧ Below w.heap.size w W

set_option maxRecDepth 100000 in
set_option maxHeartbeats 2000000 in
theorem moved_in (m : Nat) (hm : 3 ≤ m) (v r : Nat) (n : Int) (hv : v < P64 ^ 16) (hn0 : -9223372036854775808 ≤ n) (hn1 : (dlen 2 v : Int) + n ≤ 1024) (hn2 : n ≤ 1024)
    (hall : ∀ xs, AllBits v xs → (∀ x ∈ xs, 0 ≤ ((x.1 : Nat) : Int) + n) → orSh n xs = r)
    (hsome : ∀ (pre : List (Bit v)) x, Cov v x.1 (pre ++ [x]) → ((x.1 : Nat) : Int) + n < 0 → (∀ y ∈ pre, 0 ≤ ((y.1 : Nat) : Int) + n) → orSh n pre = r) (w : World) :
    CallsIn Fence.wide m Try.prog 84 #[.agg (natA v), .int .i64 n] w fun e w' => e = .returned (.agg (natA r)) ∧ Below w.heap.size w w' := by
  have HA := Lib.hid hall
  have HS := Lib.hid hsome
  have HV := Lib.hid hv
  clear hall hsome hv
  refine callsIn_of_wp_marks Try.func84 rfl trivial ?_ rfl
  simp only [Try.ntmps84, List.size_toArray, List.length_cons, List.length_nil, Nat.reduceAdd, Nat.reduceSub, Array.replicate_succ, Array.replicate_zero, List.push_toArray, List.append_toArray, List.nil_append, List.cons_append]
  have h1 : 1 ≤ m := by omega
  gi_wp2_with fail
  refine ⟨trivial, ?_⟩
  refine (callsIn_wide.2 (ones_any v _)).mono ?_
  rintro e w1 ⟨rfl, rfl⟩
  simp only [World.size_alloc]
  have hB0 : Below w.heap.size w (((((w.alloc (.cells (natA v) 28)).alloc (.cells #[.int .i64 n] 3)).alloc (.cells (natA 0) 28)).alloc (.cells (natA 0) 28)).alloc (.cells (natA v) 28)) :=
    (((((Below.refl _ w).alloc (Nat.le_refl _) _).alloc (by simp) _).alloc (by simp <;> omega) _).alloc (by simp <;> omega) _).alloc (by simp <;> omega) _
  gi_wp2_with fail
  have hnc : (((((w.alloc (.cells (natA v) 28)).alloc (.cells #[.int .i64 n] 3)).alloc (.cells (natA 0) 28)).alloc (.cells (natA 0) 28)).alloc (.cells (natA v) 28)).cell? ⟨w.heap.size + 1, 0, none⟩ = some (.int .i64 n) := by
    have h : rowN (((((w.alloc (.cells (natA v) 28)).alloc (.cells #[.int .i64 n] 3)).alloc (.cells (natA 0) 28)).alloc (.cells (natA 0) 28)).alloc (.cells (natA v) 28)) (w.heap.size + 1) = some #[.int .i64 n] := by
      simp only [rowN_alloc, World.size_alloc, if_true] <;> (repeat rw [if_neg (by omega)])
    rw [(rowN_cell h).1]; rfl
  have hV0 : rowN (((((w.alloc (.cells (natA v) 28)).alloc (.cells #[.int .i64 n] 3)).alloc (.cells (natA 0) 28)).alloc (.cells (natA 0) 28)).alloc (.cells (natA v) 28)) (w.heap.size + 1 + 1 + 1) = some (natA 0) := by
    simp only [rowN_alloc, World.size_alloc, if_true] <;> (repeat rw [if_neg (by omega)])
  have hR0 : rowN (((((w.alloc (.cells (natA v) 28)).alloc (.cells #[.int .i64 n] 3)).alloc (.cells (natA 0) 28)).alloc (.cells (natA 0) 28)).alloc (.cells (natA v) 28)) (w.heap.size + 1 + 1) = some (natA 0) := by
    simp only [rowN_alloc, World.size_alloc, if_true] <;> (repeat rw [if_neg (by omega)])
  have hBn : rowN (((((w.alloc (.cells (natA v) 28)).alloc (.cells #[.int .i64 n] 3)).alloc (.cells (natA 0) 28)).alloc (.cells (natA 0) 28)).alloc (.cells (natA v) 28)) (w.heap.size + 1 + 1 + 1 + 1) = some (natA v) := by
    simp only [rowN_alloc, World.size_alloc, if_true] <;> (repeat rw [if_neg (by omega)])
  have HI0 := Lib.hid (show MvI v n w [] _ from ⟨⟨fun x hx => absurd hx (by simp), hnc, hV0, hR0⟩, hB0⟩)
  have HBN := Lib.hid hBn
  clear hnc hV0 hR0 hBn hB0
  refine wpIn_rangeFunc_ownF rfl h1 (gf := 93) (lb := #[.pointer (some ⟨w.heap.size + 1 + 1 + 1 + 1, 0, none⟩)]) rfl trivial (enters_of Try.func93 (by kernel_rfl) rfl)
    (ones1_stops (m - 1) (w.heap.size + 1 + 1 + 1 + 1) v HV.out _ HBN.out) (fun {A B C} h k => Eq.trans k h) (fun W l o o' hl ho _ _ => World.putObj_heap_other (fun e => by simp at hl; omega)) (Below.refl _ _) (fun _ => rfl)
    (MvI v n w) (MvX v n w 0)
    (OwnFrom.and (Own.from (fun s A B row hs hg hr => ⟨hs.1, cell_kept hs.2.1 hg hr, row_kept hs.2.2.1 hg hr, row_kept hs.2.2.2 hg hr⟩) _) (ownFrom_below (Nat.le_refl _) (by simp <;> omega)))
    (fun c => OwnFrom.and (Own.from (fun s A B row hs hg hr => ⟨hs.1, by obtain ⟨pre', x, e1, e2, e3, e4, e5⟩ := hs.2; exact ⟨pre', x, e1, e2, e3, row_kept e4 hg hr, row_kept e5 hg hr⟩⟩) _) (ownFrom_below (Nat.le_refl _) (by simp <;> omega)))
    HI0.out
    (fun x => { tmps := #[.agg (natA v), .int .i64 n, .pointer (some ⟨w.heap.size, 0, none⟩), .pointer (some ⟨w.heap.size + 1, 0, none⟩), .pointer (some ⟨w.heap.size + 1 + 1, 0, none⟩), .pointer (some ⟨w.heap.size + 1 + 1 + 1, 0, none⟩), .int .i64 x.1, .agg (natA v), .func (.func 93) #[] #[.pointer (some ⟨w.heap.size + 1 + 1 + 1 + 1, 0, none⟩)], .int .i64 x.1, undef, undef, undef, undef, undef, undef, undef, undef, undef, undef], defers := [] }) ?assign ?body ?done ?stop
  case assign =>
    intro l x W K hK
    gi_wp2
    exact hK
  case body =>
    rintro l pre x W hI _
    obtain ⟨⟨hall, hnc, hrv, hrr⟩, hB⟩ := hI
    have hx := x.2
    have hL := dlen2_le HV.out
    obtain ⟨xv, hxv⟩ : ∃ xv, x.1 = xv := ⟨_, rfl⟩
    rw [hxv] at hx
    have HXV := Lib.hid hxv
    have HALL := Lib.hid hall
    have HRV := Lib.hid hrv
    have HRR := Lib.hid hrr
    have HBB := Lib.hid hB
    rw [hxv]
    clear hxv hall hrv hrr hB
    by_cases hneg : (xv : Int) + n < 0
    · gi_wp2_with fail
      exact ⟨KeepsOthers.refl _, ⟨rfl, pre, x, rfl, by rw [HXV.out]; exact hneg, HALL.out, HRV.out, HRR.out⟩, HBB.out⟩
    · have hge : 0 ≤ (xv : Int) + n := by omega
      gi_wp2_with fail
      refine ⟨trivial, (fun h => by cases h), ?_⟩
      refine (CallsIn.inRound l (callsIn_wide.2 (set_any (w.heap.size + 1 + 1 + 1) (orSh n pre) ((xv : Int) + n) hge (by omega) _ HRV.out))).mono ?_
      rintro e w2 ⟨rfl, hr2, u, rfl⟩
      have HR2 := Lib.hid hr2
      clear hr2
      gi_wp2_with fail
      refine ⟨(KeepsOthers.setCell _ _ _).trans (KeepsOthers.drew _), ?_, ⟨?_, ?_, ?_, ?_⟩, (HBB.out.setCell (p := ⟨w.heap.size + 1 + 1 + 1, _, none⟩) (by show w.heap.size ≤ w.heap.size + 1 + 1 + 1; omega) _).drew⟩
      · exact Below.heap_setCell W _ _ _ (by show w.heap.size + 1 + 1 + 1 + 1 ≠ w.heap.size + 1 + 1 + 1; omega)
      · intro y hy
        rcases List.mem_append.1 hy with hy | hy
        · exact HALL.out y hy
        · simp at hy; subst hy; rw [HXV.out]; exact hge
      · exact (World.cell?_setCell_other W _ _ u (fun e => by have h := congrArg Addr.block e; change w.heap.size + 1 + 1 + 1 = w.heap.size + 1 at h; omega)).trans hnc
      · rw [HR2.out, orSh_snoc, HXV.out]
      · rw [rowN_drew, rowN_setCell, if_neg (by show ¬ w.heap.size + 1 + 1 = w.heap.size + 1 + 1 + 1; omega)]; exact HRR.out
  case done =>
    rintro D ys W hD hS ⟨⟨hall, _, hrv, hrr⟩, hB⟩ hK
    have HO := Lib.hid (HA.out ys hS hall)
    have HRR := Lib.hid hrr
    have HBB := Lib.hid hB
    have HKK := Lib.hid hK
    rw [HO.out] at hrv
    have hrr' := HRR.out
    clear hall hrr hB hK
    gi_wp2_with fail
    obtain ⟨k1, k2, k3⟩ := moved_end (r := r) (by simp at hD; omega) HRR.out HBB.out HKK.out
    refine ⟨by simp, .inl ⟨_, _, rfl, run_takeDeferred k1, ?_⟩⟩
    exact ⟨_, results_nat _ _ _ rfl rfl k2 (natA_size _), rfl, k3⟩
  case stop =>
    rintro D c pre W hD hSp ⟨⟨rfl, pre', x, rfl, hneg, hall, hrv, hrr⟩, hB⟩ hK
    obtain ⟨pre2, x2, he, hcov⟩ := hSp
    obtain ⟨e1, e2⟩ := List.append_inj' he rfl
    have e3 : x = x2 := by simpa using e2
    subst e1
    subst e3
    have HO := Lib.hid (HS.out pre' x hcov hneg hall)
    have HRR := Lib.hid hrr
    have HBB := Lib.hid hB
    have HKK := Lib.hid hK
    rw [HO.out] at hrv
    have hrr' := HRR.out
    clear hall hrr hB hK hneg hcov he e2
    gi_wp2_with fail
    obtain ⟨k1, k2, k3⟩ := moved_end (r := r) (by simp at hD; omega) HRR.out HBB.out HKK.out
    refine ⟨by simp, .inl ⟨_, _, rfl, run_takeDeferred k1, ?_⟩⟩
    exact ⟨_, results_nat _ _ _ rfl rfl k2 (natA_size _), rfl, k3⟩
end Go.Proofs.Ytlmfiggmjpjpiaa

namespace Go.Proofs.Ytlmfiggmjpjpiaa
open Go.RowKit Go.Shelf

theorem testBit_fold {v : Nat} (n : Int) (j : Nat) : ∀ (pre : List (Bit v)) (a : Nat), (∀ x ∈ pre, 0 ≤ ((x.1 : Nat) : Int) + n) →
    ((pre.foldl (fun a x => a ||| 2 ^ (((x.1 : Nat) : Int) + n).toNat) a).testBit j = true ↔ (a.testBit j = true ∨ ∃ x ∈ pre, ((x.1 : Nat) : Int) + n = j)) := by
  intro pre
  induction pre with
  | nil => intro a _; simp
  | cons y ys ih =>
    intro a h
    have hy := h y (by simp)
    rw [List.foldl_cons, ih _ (fun x hx => h x (by simp [hx])), Nat.testBit_or, Nat.testBit_two_pow, Bool.or_eq_true, decide_eq_true_eq]
    have e : ((((y.1 : Nat) : Int) + n).toNat = j) ↔ (((y.1 : Nat) : Int) + n = j) := by omega
    rw [e]
    constructor
    · rintro ((h1 | h1) | ⟨x, hx, h1⟩)
      · exact .inl h1
      · exact .inr ⟨y, by simp, h1⟩
      · exact .inr ⟨x, by simp [hx], h1⟩
    · rintro (h1 | ⟨x, hx, h1⟩)
      · exact .inl (.inl h1)
      · rcases List.mem_cons.1 hx with e | hx
        · exact .inl (.inr (e ▸ h1))
        · exact .inr ⟨x, hx, h1⟩

theorem orSh_eq {v r : Nat} (n : Int) (pre : List (Bit v)) (hp : ∀ x ∈ pre, 0 ≤ ((x.1 : Nat) : Int) + n) (hm : ∀ x ∈ pre, v.testBit x.1 = true)
    (ha : ∀ y : Bit v, v.testBit y.1 = true → 0 ≤ ((y.1 : Nat) : Int) + n → y ∈ pre)
    (hr : ∀ j, r.testBit j = true ↔ ∃ y, v.testBit y = true ∧ (y : Int) + n = j) : orSh n pre = r := by
  apply Nat.eq_of_testBit_eq
  intro j
  rw [Bool.eq_iff_iff, hr, orSh, testBit_fold n j pre 0 hp]
  constructor
  · rintro (h | ⟨x, hx, h⟩)
    · simp at h
    · exact ⟨x.1, hm x hx, h⟩
  · rintro ⟨y, hy, h⟩
    exact .inr ⟨⟨y, two_pow_dlen hy⟩, ha ⟨y, two_pow_dlen hy⟩ hy (by show 0 ≤ (y : Int) + n; omega), h⟩

theorem left_bits (v k j : Nat) : (v * 2 ^ k).testBit j = true ↔ ∃ y, v.testBit y = true ∧ (y : Int) + (k : Int) = j := by
  rw [← Nat.shiftLeft_eq, Nat.testBit_shiftLeft]
  simp only [Bool.and_eq_true, decide_eq_true_eq]
  constructor
  · rintro ⟨h1, h2⟩
    exact ⟨j - k, h2, by omega⟩
  · rintro ⟨y, h1, h2⟩
    have : y = j - k := by omega
    exact ⟨by omega, this ▸ h1⟩

theorem right_bits (v k j : Nat) : (v / 2 ^ k).testBit j = true ↔ ∃ y, v.testBit y = true ∧ (y : Int) + -(k : Int) = j := by
  rw [← Nat.shiftRight_eq_div_pow, Nat.testBit_shiftRight]
  constructor
  · intro h
    exact ⟨k + j, h, by omega⟩
  · rintro ⟨y, h1, h2⟩
    have : y = k + j := by omega
    exact this ▸ h1

theorem moved_any (v r : Nat) (n : Int) (hv : v < P64 ^ 16) (hn0 : -9223372036854775808 ≤ n) (hn1 : (dlen 2 v : Int) + n ≤ 1024) (hn2 : n ≤ 1024)
    (hr : ∀ j, r.testBit j = true ↔ ∃ y, v.testBit y = true ∧ (y : Int) + n = j) (w : World) :
    Calls Try.prog 84 #[.agg (natA v), .int .i64 n] w fun e w' => e = .returned (.agg (natA r)) ∧ Below w.heap.size w w' := by
  refine (callsIn_wide (n := 3)).1 (moved_in 3 (Nat.le_refl _) v r n hv hn0 hn1 hn2 (fun xs h hp => ?_) (fun pre x h hx hp => ?_) w)
  · exact orSh_eq n xs hp (fun x hx => (h.mem x hx).1) (fun y hy _ => h.all y hy (Nat.zero_le _)) hr
  · refine orSh_eq n pre hp (fun y hy => (h.mem y (by simp [hy])).1) (fun y hy hp' => ?_) hr
    have h1 := h.all y hy (by omega)
    rcases List.mem_append.1 h1 with h1 | h1
    · exact h1
    · simp at h1; subst h1; omega

theorem moved_left (v k : Nat) (hv : v < P64 ^ 16) (h : dlen 2 v + k ≤ 1024) (w : World) :
    Calls Try.prog 84 #[.agg (natA v), .int .i64 (k : Nat)] w fun e w' => e = .returned (.agg (natA (v * 2 ^ k))) ∧ Below w.heap.size w w' :=
  moved_any v _ k hv (by omega) (by omega) (by omega) (left_bits v k) w

theorem moved_right (v k : Nat) (hv : v < P64 ^ 16) (h : k ≤ 9223372036854775807) (w : World) :
    Calls Try.prog 84 #[.agg (natA v), .int .i64 (-(k : Int))] w fun e w' => e = .returned (.agg (natA (v / 2 ^ k))) ∧ Below w.heap.size w w' :=
  moved_any v _ (-(k : Int)) hv (by omega) (by have := dlen2_le hv; omega) (by omega) (right_bits v k) w

set_option maxRecDepth 100000 in
theorem shiftLeft_neg (v : Nat) (n : Int) (hn : n < 0) (w : World) : Calls Try.prog 69 #[.agg (natA v), .int .i64 n] w fun e w' =>
    e = .returned (.tuple #[.agg (natA 0), .int .i64 2]) ∧ Below w.heap.size w w' := by
  go_enter Try.func69, Try.ntmps69
  go_wp2_with fail
  exact ret_nat_tmp _ (natA 0) rfl rfl rfl (by simp [rowN_setRow, rowN_alloc]) (natA_size _) ⟨rfl, below_setRow' (((Below.refl _ _).alloc (Nat.le_refl _) _).alloc (by simp) _) (by simp <;> omega) _⟩


theorem p64_16_pos : 0 < P64 ^ 16 := Nat.pow_pos P64_pos

theorem natEq_zero : natEq 0 0 = true := by rw [natEq_iff p64_16_pos p64_16_pos]; rfl
theorem natEq_pos {v : Nat} (hv : v < P64 ^ 16) (h : v ≠ 0) : natEq v 0 = false := by rw [natEq_iff hv p64_16_pos]; simpa using h

set_option maxRecDepth 100000 in
theorem shiftLeft_zero (n : Int) (hn : 0 ≤ n) (w : World) : Calls Try.prog 69 #[.agg (natA 0), .int .i64 n] w fun e w' =>
    e = .returned (.tuple #[.agg (natA 0), .int .i64 0]) ∧ Below w.heap.size w w' := by
  have HZ := Lib.hid natEq_zero
  go_enter Try.func69, Try.ntmps69
  go_wp2_with fail
  refine (isZero_any 0 _).mono ?_
  rintro e w1 ⟨rfl, hb⟩
  rw [HZ.out]
  have hR : rowN w1 (w.heap.size + 1) = some (natA 0) := by
    rw [brow hb _ (by simp)]; simp only [rowN_alloc, World.size_alloc, if_true] <;> (repeat rw [if_neg (by omega)])
  have HB := Lib.hid ((((Below.refl _ w).alloc (Nat.le_refl _) _).alloc (by simp) _).trans (hb.mono (by simp <;> omega)))
  clear hb
  go_wp2_with fail
  exact ret_nat_tmp _ (natA 0) rfl rfl rfl (by simp [rowN_setRow, hR]) (natA_size _) ⟨rfl, below_setRow' HB.out (by omega) _⟩

set_option maxRecDepth 100000 in
theorem shiftLeft_full (v : Nat) (n : Int) (hv : v < P64 ^ 16) (h0 : v ≠ 0) (hn : 0 ≤ n) (hn1 : n ≤ 9223372036854775807) (h : 1024 < (dlen 2 v : Int) + n) (w : World) : Calls Try.prog 69 #[.agg (natA v), .int .i64 n] w fun e w' =>
    e = .returned (.tuple #[.agg (natA 0), .int .i64 7]) ∧ Below w.heap.size w w' := by
  have HZ := Lib.hid (natEq_pos hv h0)
  have HV := Lib.hid hv
  clear hv h0
  have hL := dlen2_le HV.out
  generalize hD : dlen 2 v = D at *
  have HD := Lib.hid hD
  clear hD
  go_enter Try.func69, Try.ntmps69
  go_wp2_with fail
  refine (isZero_any v _).mono ?_
  rintro e w1 ⟨rfl, hb⟩
  rw [HZ.out]
  have hA : rowN w1 w.heap.size = some (natA v) := by
    rw [brow hb _ (by simp <;> omega)]; simp only [rowN_alloc, World.size_alloc, if_true] <;> (repeat rw [if_neg (by omega)])
  have hR : rowN w1 (w.heap.size + 1) = some (natA 0) := by
    rw [brow hb _ (by simp)]; simp only [rowN_alloc, World.size_alloc, if_true] <;> (repeat rw [if_neg (by omega)])
  have HB := Lib.hid ((((Below.refl _ w).alloc (Nat.le_refl _) _).alloc (by simp) _).trans (hb.mono (by simp <;> omega)))
  have hlt := rowN_lt hR
  have HR := Lib.hid hR
  clear hb hR
  go_wp2_with fail
  refine (bitLen_any v HV.out _).mono ?_
  rintro e w2 ⟨rfl, hb⟩
  rw [HD.out]
  have hR : rowN w2 (w.heap.size + 1) = some (natA 0) := by rw [brow hb _ hlt]; exact HR.out
  have HB2 := Lib.hid (HB.out.trans (hb.mono (by omega)))
  clear hb
  go_wp2_with fail
  exact ret_nat_tmp _ (natA 0) rfl rfl rfl (by simp [rowN_setRow, hR]) (natA_size _) ⟨rfl, below_setRow' HB2.out (by omega) _⟩

set_option maxRecDepth 100000 in
theorem shiftLeft_ok (v k : Nat) (hv : v < P64 ^ 16) (h0 : v ≠ 0) (h : dlen 2 v + k ≤ 1024) (w : World) : Calls Try.prog 69 #[.agg (natA v), .int .i64 (k : Nat)] w fun e w' =>
    e = .returned (.tuple #[.agg (natA (v * 2 ^ k)), .int .i64 0]) ∧ Below w.heap.size w w' := by
  have HZ := Lib.hid (natEq_pos hv h0)
  have HV := Lib.hid hv
  have HM := Lib.hid (moved_left v k hv h)
  clear hv h0
  generalize v * 2 ^ k = r at *
  generalize hD : dlen 2 v = D at *
  have HD := Lib.hid hD
  clear hD
  go_enter Try.func69, Try.ntmps69
  go_wp2_with fail
  refine (isZero_any v _).mono ?_
  rintro e w1 ⟨rfl, hb⟩
  rw [HZ.out]
  have hA : rowN w1 w.heap.size = some (natA v) := by
    rw [brow hb _ (by simp <;> omega)]; simp only [rowN_alloc, World.size_alloc, if_true] <;> (repeat rw [if_neg (by omega)])
  have hR : rowN w1 (w.heap.size + 1) = some (natA 0) := by
    rw [brow hb _ (by simp)]; simp only [rowN_alloc, World.size_alloc, if_true] <;> (repeat rw [if_neg (by omega)])
  have HB := Lib.hid ((((Below.refl _ w).alloc (Nat.le_refl _) _).alloc (by simp) _).trans (hb.mono (by simp <;> omega)))
  have hlt := rowN_lt hR
  have HR := Lib.hid hR
  have HA := Lib.hid hA
  clear hb hR
  go_wp2_with fail
  refine (bitLen_any v HV.out _).mono ?_
  rintro e w2 ⟨rfl, hb⟩
  rw [HD.out]
  have hR2 : rowN w2 (w.heap.size + 1) = some (natA 0) := by rw [brow hb _ hlt]; exact HR.out
  have hA2 : rowN w2 w.heap.size = some (natA v) := by rw [brow hb _ (by omega)]; exact HA.out
  have HB2 := Lib.hid (HB.out.trans (hb.mono (by omega)))
  have hlt2 := rowN_lt hR2
  have HR2 := Lib.hid hR2
  clear hb hA hR2
  go_wp2_with fail
  refine (HM.out _).mono ?_
  rintro e w3 ⟨rfl, hb⟩
  have hR3 : rowN w3 (w.heap.size + 1) = some (natA 0) := by rw [brow hb _ hlt2]; exact HR2.out
  have HB3 := Lib.hid (HB2.out.trans (hb.mono (by omega)))
  clear hb
  go_wp2_with fail
  exact ret_nat_tmp _ (natA r) rfl rfl rfl (by simp [rowN_setRow, hR3]) (natA_size _) ⟨rfl, below_setRow' HB3.out (by omega) _⟩

end Go.Proofs.Ytlmfiggmjpjpiaa
