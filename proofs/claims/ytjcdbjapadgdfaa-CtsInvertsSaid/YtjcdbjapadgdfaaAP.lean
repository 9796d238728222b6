/- AES: blocks and keys without a cipher, and blocks of a wrong length. -/
import Derived.Test.YtjcdbjapadgdfaaAO
namespace Go.Proofs.Ytjcdbjapadgdfaa
open Go.RowKit Go.Shelf

attribute [local go_sem] Oper.semAt_some
set_option maxRecDepth 100000 in
set_option maxHeartbeats 2000000 in
theorem enc_stops (p s : Value) (k : Int) (hk : k = 1 ∨ k = 2) (w : World) (h : Calls Try.prog 29 #[p, s] w fun e w' => e = .returned (.tuple #[.pointer none, .int .i64 k]) ∧ w = w') :
    Calls Try.prog 27 #[p, s] w fun e w' => e = .returned (.tuple #[.slice none 0 0, .int .i64 k]) ∧ Below w.heap.size w w' := by
  have H := Lib.hid h
  have HK := Lib.hid (show ¬ k = 0 by omega)
  clear h hk
  go_enter Try.func27, Try.ntmps27
  go_wp2_with fail
  refine H.out.mono ?_
  rintro e w1 ⟨rfl, rfl⟩
  have hk := HK.out
  go_wp2_with fail
  go_ret2
  exact ⟨rfl, ((Below.refl _ w).alloc (Nat.le_refl _) _)⟩
set_option maxRecDepth 100000 in
set_option maxHeartbeats 2000000 in
theorem dec_stops (p s : Value) (k : Int) (hk : k = 1 ∨ k = 2) (w : World) (h : Calls Try.prog 29 #[p, s] w fun e w' => e = .returned (.tuple #[.pointer none, .int .i64 k]) ∧ w = w') :
    Calls Try.prog 23 #[p, s] w fun e w' => e = .returned (.tuple #[.slice none 0 0, .int .i64 k]) ∧ Below w.heap.size w w' := by
  have H := Lib.hid h
  have HK := Lib.hid (show ¬ k = 0 by omega)
  clear h hk
  go_enter Try.func23, Try.ntmps23
  go_wp2_with fail
  refine H.out.mono ?_
  rintro e w1 ⟨rfl, rfl⟩
  have hk := HK.out
  go_wp2_with fail
  go_ret2
  exact ⟨rfl, ((Below.refl _ w).alloc (Nat.le_refl _) _)⟩

end Go.Proofs.Ytjcdbjapadgdfaa
