/- AES: blocks and keys without a cipher, and blocks of a wrong length. -/
import Derived.Test.YtjcdbjapadgdfaaDoorAO
namespace Go.Proofs.YtjcdbjapadgdfaaDoor
open Go.RowKit Go.Shelf

attribute [local go_sem] Oper.semAt_some
set_option maxRecDepth 100000 in
set_option maxHeartbeats 2000000 in
theorem enc_stops (p s : Value) (k : Int) (hk : k = 1 ∨ k = 2) (w : World) (h : Calls Tryd.prog 38 #[p, s] w fun e w' => e = .returned (.tuple #[.pointer none, .int .i64 k]) ∧ w = w') :
    Calls Tryd.prog 36 #[p, s] w fun e w' => e = .returned (.tuple #[.slice none 0 0, .int .i64 k]) ∧ Below w.heap.size w w' := by
  have H := Lib.hid h
  have HK := Lib.hid (show ¬ k = 0 by omega)
  clear h hk
  go_enter Tryd.func36, Tryd.ntmps36
  go_wp2_with fail
  refine H.out.mono ?_
  rintro e w1 ⟨rfl, rfl⟩
  have hk := HK.out
  go_wp2_with fail
  go_ret2
  exact ⟨rfl, ((Below.refl _ w).alloc (Nat.le_refl _) _)⟩
set_option maxRecDepth 100000 in
set_option maxHeartbeats 2000000 in
theorem dec_stops (p s : Value) (k : Int) (hk : k = 1 ∨ k = 2) (w : World) (h : Calls Tryd.prog 38 #[p, s] w fun e w' => e = .returned (.tuple #[.pointer none, .int .i64 k]) ∧ w = w') :
    Calls Tryd.prog 29 #[p, s] w fun e w' => e = .returned (.tuple #[.slice none 0 0, .int .i64 k]) ∧ Below w.heap.size w w' := by
  have H := Lib.hid h
  have HK := Lib.hid (show ¬ k = 0 by omega)
  clear h hk
  go_enter Tryd.func29, Tryd.ntmps29
  go_wp2_with fail
  refine H.out.mono ?_
  rintro e w1 ⟨rfl, rfl⟩
  have hk := HK.out
  go_wp2_with fail
  go_ret2
  exact ⟨rfl, ((Below.refl _ w).alloc (Nat.le_refl _) _)⟩

end Go.Proofs.YtjcdbjapadgdfaaDoor
