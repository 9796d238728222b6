/- NatBits of too many bytes. -/
import Derived.Test.YtkegdjndmeialaaN7
namespace Go.Proofs.Ytkegdjndmeialaa
open Go.RowKit Go.Shelf

attribute [local go_sem] Oper.semAt_some

set_option maxRecDepth 100000 in
set_option maxHeartbeats 1000000 in
theorem bits_long (n : Nat) (a : Option Addr) (c : Nat) (at_ many : Int) (w : World) (hn : n ≤ 9223372036854775807) (h : 128 < n) :
    Calls Try.prog 5 #[.slice a n c, .int .i64 at_, .int .i64 many] w fun e w' => e = .returned (.bool true) ∧ Below w.heap.size w w' := by
  refine (callsIn_wide (n := 5)).1 ?_
  refine callsIn_of_wp_marks Try.func5 rfl trivial ?_ rfl
  simp only [Try.ntmps5, List.size_toArray, List.length_cons, List.length_nil, Nat.reduceAdd, Nat.reduceSub, Array.replicate_succ, Array.replicate_zero, List.push_toArray, List.append_toArray, List.nil_append, List.cons_append]
  refine wpIn_wide.2 ?_
  go_wp2_with fail
  have hb0 : Below w.heap.size w ((w.alloc (.cells #[.int .i64 many] 3)).alloc (.cells #[.bool false] 4)) := ((Below.refl _ w).alloc (Nat.le_refl _) _).alloc (by simp) _
  refine (known_any _).mono ?_
  rintro e wK ⟨rfl, hb⟩
  have hR := kept hb (w.heap.size + 1) #[.bool false] (by rw [rowN_alloc, if_pos (by simp)])
  have cR := (rowN_cell hR).1 0
  have fR := (rowN_cell hR).2 0
  have HB := Lib.hid ((hb0.trans (hb.mono hb0.size)).setCell (p := ⟨w.heap.size + 1, 0, none⟩) (by simp) (.bool true))
  have HR := Lib.hid (row_set0 (x := .bool true) hR)
  clear hb hb0 hR
  go_wp2_with fail
  exact ⟨_, results_bool _ _ rfl rfl HR.out, rfl, HB.out⟩
end Go.Proofs.Ytkegdjndmeialaa
