/- AES: blocks and keys without a cipher, and blocks of a wrong length. -/
import Derived.Test.YtfmmokcniechcaaDoorAO
namespace Go.Proofs.YtfmmokcniechcaaDoor
open Go.RowKit Go.Shelf

attribute [local go_sem] Oper.semAt_some
set_option maxRecDepth 100000 in
set_option maxHeartbeats 2000000 in
theorem enc_stops (p s : Value) (k : Int) (hk : k = 1 ∨ k = 2) (w : World) (h : Calls Tryd.prog 27 #[p, s] w fun e w' => e = .returned (.tuple #[.pointer none, .int .i64 k]) ∧ w = w') :
    Calls Tryd.prog 14 #[p, s] w fun e w' => e = .returned (.tuple #[.slice none 0 0, .int .i64 k]) ∧ Below w.heap.size w w' := by
  have H := Lib.hid h
  have HK := Lib.hid (show ¬ k = 0 by omega)
  clear h hk
  go_enter Tryd.func14, Tryd.ntmps14
  go_wp2_with fail
  refine H.out.mono ?_
  rintro e w1 ⟨rfl, rfl⟩
  have hk := HK.out
  go_wp2_with fail
  go_ret2
  exact ⟨rfl, ((Below.refl _ w).alloc (Nat.le_refl _) _)⟩
set_option maxRecDepth 100000 in
set_option maxHeartbeats 2000000 in
theorem dec_stops (p s : Value) (k : Int) (hk : k = 1 ∨ k = 2) (w : World) (h : Calls Tryd.prog 27 #[p, s] w fun e w' => e = .returned (.tuple #[.pointer none, .int .i64 k]) ∧ w = w') :
    Calls Tryd.prog 15 #[p, s] w fun e w' => e = .returned (.tuple #[.slice none 0 0, .int .i64 k]) ∧ Below w.heap.size w w' := by
  have H := Lib.hid h
  have HK := Lib.hid (show ¬ k = 0 by omega)
  clear h hk
  go_enter Tryd.func15, Tryd.ntmps15
  go_wp2_with fail
  refine H.out.mono ?_
  rintro e w1 ⟨rfl, rfl⟩
  have hk := HK.out
  go_wp2_with fail
  go_ret2
  exact ⟨rfl, ((Below.refl _ w).alloc (Nat.le_refl _) _)⟩

set_option maxRecDepth 100000 in
theorem keys_any (p : Option Addr) (w : World) : Calls Tryd.prog 12 #[.pointer p] w fun e w' => e = .returned (.func (.func 22) #[] #[.pointer (some ⟨w.heap.size, 0, none⟩)]) ∧ w' = w.alloc (.cells #[.pointer p] 26) := by
  have hmf : ∀ (fn : Fn) (first cap : Array Value) (w : World), (Instr.makeFunc fn first cap).run Tryd.prog w = .ok (.func fn first cap) w := fun _ _ _ _ => rfl
  go_enter Tryd.func12, Tryd.ntmps12
  go_wp2_with fail
  go_ret
  exact ⟨rfl, rfl⟩
set_option maxRecDepth 100000 in
set_option maxHeartbeats 1000000 in
theorem keys1_none (n gb : Nat) (p : Value) (w : World) (hb : rowN w gb = some #[p]) (hp : ∀ W, Below w.heap.size w W → Calls Tryd.prog 23 #[p] W fun e w' => e = .returned (.bool false) ∧ W = w') :
    Yields n 22 #[.pointer (some ⟨gb, 0, none⟩)] 0 (fun _ _ _ _ => True) (fun j => j = gb) w := by
  intro l J Jx M W hW hM hJ _ hY h0
  have hrb : rowN W gb = some #[p] := keptW hW hb
  have hbx : Below W.heap.size W (W.alloc (.cells #[.func (.yield l) #[] #[]] 53)) := (Below.refl _ W).alloc (Nat.le_refl _) _
  have hc := (rowN_cell (keptW hbx hrb)).1 0
  have HP := Lib.hid (hp _ (bthen hW hbx))
  have HJ0 := Lib.hid (hJ 0 W _ none h0 (grown_none hbx) (fun r e => by cases e))
  clear hY hb hrb hW hJ hM h0 hp hbx
  refine callsIn_of_wp Tryd.func22 rfl trivial ?_ rfl
  simp only [Tryd.ntmps22, List.size_toArray, List.length_cons, List.length_nil, Nat.reduceAdd, Nat.reduceSub, Array.replicate_succ, Array.replicate_zero, List.push_toArray, List.append_toArray, List.nil_append, List.cons_append]
  gi_wp2_with fail
  refine ⟨trivial, (fun h => (by cases h)), (callsIn_wide (n := n - 1)).2 ?_⟩
  refine HP.out.mono ?_
  rintro e w1 ⟨rfl, rfl⟩
  have HJ1 := HJ0
  gi_wp2_with fail
  refine bodyPost_ret (results_none rfl _ _ _) rfl ?_
  exact ⟨⟨_, rfl⟩, .inl HJ1.out⟩
end Go.Proofs.YtfmmokcniechcaaDoor
