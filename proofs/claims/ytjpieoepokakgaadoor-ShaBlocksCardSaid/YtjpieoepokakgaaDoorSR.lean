/- Blocks; Len, Copy. -/
import Derived.Test.YtjpieoepokakgaaDoorSQ
namespace Go.Proofs.YtjpieoepokakgaaDoor
open Go.RowKit Go.Shelf

set_option maxRecDepth 100000 in
theorem blocks_any (zs : List Nat) (s : Value) (hL : zs.length ≤ 140737488355328) (w : World) (hB : BytesAt zs s w) (hnil : Nil0 s) :
    Calls Tryd.prog 11 #[s] w fun e w' => ∃ gb s', e = .returned (.func (.func 20) #[] #[.pointer (some ⟨gb, 0, none⟩)]) ∧ w.heap.size ≤ gb ∧ rowN w' gb = some #[s'] ∧ BytesAt zs s' w' ∧ (∀ j, InS s' j → w.heap.size ≤ j) ∧ Nil0 s' ∧ Below w.heap.size w w' := by
  have hmf : ∀ (fn : Fn) (first cap : Array Value) (w : World), (Instr.makeFunc fn first cap).run Tryd.prog w = .ok (.func fn first cap) w := fun _ _ _ _ => rfl
  have HC := Lib.hid (clone_any zs s hL w hB hnil)
  clear hB hnil
  go_enter Tryd.func11, Tryd.ntmps11
  go_wp2_with fail
  refine HC.out.mono ?_
  rintro e w2 ⟨s', rfl, ⟨hb, hf, hn⟩, hB2⟩
  obtain ⟨a', c', rfl⟩ : ∃ a' c', s' = .slice a' zs.length c' := by obtain ⟨_, a', c', e, _, _⟩ := hb; exact ⟨a', c', e⟩
  obtain ⟨L, hl⟩ : ∃ L, zs.length = L := ⟨_, rfl⟩
  rw [hl] at hb hf hn ⊢
  have HE := Lib.hid (show rowN (w2.alloc (.cells #[.slice a' L c'] 22)) w2.heap.size = some #[.slice a' L c'] ∧ BytesAt zs (.slice a' L c') (w2.alloc (.cells #[.slice a' L c'] 22)) ∧ (∀ j, InS (.slice a' L c') j → w.heap.size ≤ j) ∧ Nil0 (.slice a' L c') ∧ Below w.heap.size w (w2.alloc (.cells #[.slice a' L c'] 22)) from
    ⟨by rw [rowN_alloc, if_pos rfl], hb.kept ((Below.refl _ _).alloc (Nat.le_refl _) _), hf, hn, hB2.alloc hB2.size _⟩)
  have hlw := hB2.size
  clear hb hf hn hB2 HC hl hL
  go_wp2_with fail
  go_ret
  exact ⟨_, _, rfl, hlw, HE.out⟩
end Go.Proofs.YtjpieoepokakgaaDoor
