/- The whole blocks of a string, yielded. -/
import Derived.RangeFuncNested
import Derived.RangeFuncBound
import Derived.RangeFuncCalls
import Derived.RangeFuncLeaves
import Derived.RangeFuncFrom
import Derived.Shelf.Abstract
import Derived.Shelf.RegionOpen
import Derived.OwnWalkIn
import Derived.TacticsInMore
import Derived.LoopNIn
import Derived.LoopIn
import Derived.Test.YtmlacbdonkfbdaaDoorSE
namespace Go.Proofs.YtmlacbdonkfbdaaDoor
open Go.RowKit Go.Shelf

attribute [local go_sem] Oper.semAt_some

/-- What a yield gives in a wide fence it gives in a round, at any depth. -/
theorem YieldAt.wideTo {n m : Nat} {P : Program} {l : Nat} {args : Array Value} {W : World} {R : Ending → World → Prop} (h : YieldAt Fence.wide n P l args W R) (l' : Nat) : YieldAt (Fence.wide.inRound l') m P l args W R := by
  obtain ⟨fn, t, a, b, hy, hr⟩ := h
  exact ⟨fn, t, a, b, hy, hr.1, fun c cs _ => hr.2 c cs (room_wide _)⟩
theorem YieldAt.wideAny {n m : Nat} {P : Program} {l : Nat} {args : Array Value} {W : World} {R : Ending → World → Prop} (h : YieldAt Fence.wide n P l args W R) : YieldAt Fence.wide m P l args W R := by
  obtain ⟨fn, t, a, b, hy, hr⟩ := h
  exact ⟨fn, t, a, b, hy, hr.1, fun c cs _ => hr.2 c cs (room_wide _)⟩

set_option maxRecDepth 100000 in
theorem whole_any (a : Option Addr) (L c : Nat) (w : World) : Calls Tryd.prog 37 #[.slice a L c] w fun e w' => e = .returned (.func (.func 49) #[] #[.pointer (some ⟨w.heap.size, 0, none⟩)]) ∧ w' = w.alloc (.cells #[.slice a L c] 22) := by
  have hmf : ∀ (fn : Fn) (first cap : Array Value) (w : World), (Instr.makeFunc fn first cap).run Tryd.prog w = .ok (.func fn first cap) w := fun _ _ _ _ => rfl
  go_enter Tryd.func37, Tryd.ntmps37
  go_wp2
  go_ret
  exact ⟨rfl, rfl⟩
set_option maxRecDepth 100000 in
theorem padded_any (a : Option Addr) (L c n : Nat) (w : World) : Calls Tryd.prog 50 #[.slice a L c, .int .i64 (n : Nat)] w fun e w' => e = .returned (.func (.func 55) #[] #[.pointer (some ⟨w.heap.size, 0, none⟩), .pointer (some ⟨w.heap.size + 1, 0, none⟩)]) ∧
    w' = (w.alloc (.cells #[.slice a L c] 22)).alloc (.cells #[.int .i64 (n : Nat)] 3) := by
  have hmf : ∀ (fn : Fn) (first cap : Array Value) (w : World), (Instr.makeFunc fn first cap).run Tryd.prog w = .ok (.func fn first cap) w := fun _ _ _ _ => rfl
  go_enter Tryd.func50, Tryd.ntmps50
  go_wp2
  go_ret
  exact ⟨rfl, rfl⟩

/-- The number of a block. -/
def Bk (q : Nat) : Type := { k : Nat // k < q }
def nums {q : Nat} (xs : List (Bk q)) : List Nat := xs.map (fun x => x.1)
def AllB (q : Nat) (xs : List (Bk q)) : Prop := nums xs = List.range q
def SomeB (q : Nat) (xs : List (Bk q)) : Prop := ∃ k, k ≤ q ∧ nums xs = List.range k
def encB (b off : Nat) {q : Nat} (x : Bk q) : Array Value := #[.slice (some ⟨b, off + 64 * x.1, none⟩) 64 64]
def NoKp (_ _ : World) : Prop := True

theorem nums_snoc {q k : Nat} {xs : List (Bk q)} {h : k < q} (hx : nums xs = List.range k) : nums (xs ++ [⟨k, h⟩]) = List.range (k + 1) := by
  unfold nums at hx ⊢
  rw [List.map_append, List.range_succ, hx]; rfl
def WhRel (b off L q : Nat) (J : List (Bk q) → World → Prop) (s : Value) (wr : World) : Prop :=
  ∃ (k off' c' : Nat) (pre : List (Bk q)), k ≤ q ∧ s = .slice (some ⟨b, off', none⟩) (L - 64 * k) c' ∧ L - 64 * k ≤ c' ∧ (k < q → off' = off + 64 * k) ∧ nums pre = List.range k ∧ J pre wr

set_option maxRecDepth 100000 in
set_option maxHeartbeats 1000000 in
theorem whole1_stops (n gb b off L c q : Nat) (hq : q = L / 64) (hL : L ≤ c) (w : World) (hg : rowN w gb = some #[.slice (some ⟨b, off, none⟩) L c]) :
    SeqStopsK Fence.wide n Tryd.prog 49 #[.pointer (some ⟨gb, 0, none⟩)] (encB b off (q := q)) NoKp (AllB q) (SomeB q) q w := by
  intro l J Jx W hW _ _ hY h0
  have hrow : rowN W gb = some #[.slice (some ⟨b, off, none⟩) L c] := keptW hW hg
  have hc := (rowN_cell hrow).1 0
  have HY := Lib.hid hY
  have H0 := Lib.hid h0
  clear hY h0 hg hrow hW
  refine callsIn_of_wp Tryd.func49 rfl trivial ?_ rfl
  simp only [Tryd.ntmps49, List.size_toArray, List.length_cons, List.length_nil, Nat.reduceAdd, Nat.reduceSub, Array.replicate_succ, Array.replicate_zero, List.push_toArray, List.append_toArray, List.nil_append, List.cons_append]
  gi_wp2_with fail
  gi_loopw [3] (fun s wr => WhRel b off L q J s wr) (fun s _ => match s with | .slice _ m _ => m | _ => 0)
  case atStart => exact ⟨0, off, c, [], by omega, rfl, hL, fun _ => rfl, rfl, H0.out⟩
  case round =>
    obtain ⟨k, off', c', pre, hk, rfl, hcc, hoff, hpre, hj⟩ := hrel
    have HJ := Lib.hid hj
    have HPRE := Lib.hid hpre
    clear hj hpre hc
    by_cases hlt : k < q
    · obtain rfl := hoff hlt
      have h64 : 64 ≤ L - 64 * k := by omega
      have hlen : pre.length < q := by
        have := congrArg List.length HPRE.out
        rw [List.length_range] at this
        unfold nums at this
        rw [List.length_map] at this
        omega
      obtain ⟨m, hm⟩ : ∃ m, L - 64 * k = m := ⟨_, rfl⟩
      rw [hm] at hcc h64 ⊢
      have HM := Lib.hid hm
      clear hm hoff
      obtain ⟨fn, tmps, assign, body, hy, hR⟩ := HY.out pre ⟨k, hlt⟩ wr HJ.out hlen
      have HRR := Lib.hid hR
      clear hR
      dsimp only [encB] at hy
      have h64' : (64 : Int) ≤ (m : Int) := by omega
      gi_wp2_with fail
      refine ⟨(fun h => by cases h), ?_⟩
      refine HRR.out.mono ?_
      rintro e3 W3 (⟨rfl, hJ3, hk3⟩ | ⟨rfl, hJx3⟩)
      · have HJ3 := Lib.hid hJ3
        clear hJ3 hk3
        gi_wp2_with fail
        refine ⟨⟨k + 1, if c' = 64 then off + 64 * k else off + 64 * k + 64, c' - 64, pre ++ [⟨k, hlt⟩], by omega, ?_, by have := HM.out; omega, fun h => ?_, nums_snoc HPRE.out, HJ3.out⟩, by simp; omega⟩
        · rw [show L - 64 * (k + 1) = m - 64 by have := HM.out; omega]
          split <;> rfl
        · rw [if_neg (by have := HM.out; omega)]; omega
      · have HJX := Lib.hid hJx3
        clear hJx3
        gi_wp2_with fail
        refine bodyPost_ret (results_none rfl _ _ _) rfl ?_
        exact ⟨⟨_, rfl⟩, .inr ⟨pre ++ [⟨k, hlt⟩], ⟨k + 1, by omega, nums_snoc HPRE.out⟩, HJX.out⟩⟩
    · obtain rfl : k = q := by omega
      have hlt64 : L - 64 * k < 64 := by omega
      have hlt64' : ¬ (64 : Int) ≤ ((L - 64 * k : Nat) : Int) := by omega
      gi_wp2_with fail
      go_end0
      exact ⟨⟨_, rfl⟩, .inl ⟨pre, HPRE.out, HJ.out⟩⟩

set_option maxRecDepth 100000 in
set_option maxHeartbeats 1000000 in
theorem whole1_none (n gb b off : Nat) (a : Option Addr) (L c : Nat) (hL : L < 64) (w : World) (hg : rowN w gb = some #[.slice a L c]) :
    SeqStopsK Fence.wide n Tryd.prog 49 #[.pointer (some ⟨gb, 0, none⟩)] (encB b off (q := 0)) NoKp (AllB 0) (SomeB 0) 0 w := by
  intro l J Jx W hW _ _ _ h0
  have hrow : rowN W gb = some #[.slice a L c] := keptW hW hg
  have hc := (rowN_cell hrow).1 0
  have H0 := Lib.hid h0
  have hlt64' : ¬ (64 : Int) ≤ ((L : Nat) : Int) := by omega
  clear h0 hg hrow hW
  refine callsIn_of_wp Tryd.func49 rfl trivial ?_ rfl
  simp only [Tryd.ntmps49, List.size_toArray, List.length_cons, List.length_nil, Nat.reduceAdd, Nat.reduceSub, Array.replicate_succ, Array.replicate_zero, List.push_toArray, List.append_toArray, List.nil_append, List.cons_append]
  gi_wp2_with fail
  gi_loopw [3] (fun s wr => s = .slice a L c ∧ J [] wr) (fun _ _ => 0)
  case atStart => exact ⟨rfl, H0.out⟩
  case round =>
    obtain ⟨rfl, hj⟩ := hrel
    have HJ := Lib.hid hj
    clear hj hc
    gi_wp2_with fail
    go_end0
    exact ⟨⟨_, rfl⟩, .inl ⟨[], rfl, HJ.out⟩⟩
end Go.Proofs.YtmlacbdonkfbdaaDoor
