/- A Hash: Len, waiting. -/
import Derived.Test.YtmlacbdonkfbdaaDoorSO
namespace Go.Proofs.YtmlacbdonkfbdaaDoor
open Go.RowKit

/-- The cells of a Hash: the state, the tail, the length. -/
def hashA (st tl : List Nat) (n : Nat) : Array Value := stA st (arr .u8 tl ++ #[.int .i64 (n : Nat)])
theorem hashA_len {st tl : List Nat} (hs : st.length = 8) (ht : tl.length = 64) (n : Nat) : (hashA st tl n)[72]? = some (.int .i64 (n : Nat)) := by
  unfold hashA stA
  rw [Array.getElem?_append_right (by rw [arr_size]; omega), Array.getElem?_append_right (by rw [arr_size, arr_size]; omega), arr_size, arr_size, hs, ht]
  rfl
theorem hashA_tail {st tl : List Nat} (hs : st.length = 8) (ht : tl.length = 64) (n : Nat) {j : Nat} (hj : j < 64) : (hashA st tl n)[8 + j]? = some (.int .u8 (tl.getD j 0 : Nat)) := by
  unfold hashA stA
  rw [Array.getElem?_append_right (by rw [arr_size]; omega), arr_size, hs, Nat.add_sub_cancel_left, Array.getElem?_append_left (by rw [arr_size]; omega)]
  exact arr_get .u8 tl j (by omega)

theorem arr36 : Tryd.prog.arrayLen 47 = 64 ∧ Tryd.prog.elem 47 = 5 ∧ Tryd.prog.underlying 47 = some (.array (Tryd.prog.arrayLen 47) (Tryd.prog.elem 47)) := ⟨by kernel_rfl, by kernel_rfl, by kernel_rfl⟩
theorem run_slice36_hm (g k : Nat) (hk : k ≤ 64) (W : World) : (Instr.sliceAt 47 (.pointer (some ⟨g, 8, none⟩)) none (some (.int .i64 (k : Nat))) (some (.int .i64 (k : Nat)))).run Tryd.prog W = .ok (.slice (some ⟨g, 8, none⟩) k k) W := by
  obtain ⟨h1, h2, h3⟩ := arr36
  rw [run_sliceAt_array_hm W 47 _ h3 _ _ _ _ (by omega) (by omega) (by rw [h1]; omega), h2, Tryd.sizeOf5]
  simp [slicedAt, Addr.add]
set_option maxRecDepth 100000 in
theorem waiting_any (g n : Nat) (st tl : List Nat) (hs : st.length = 8) (ht : tl.length = 64) (w : World) (hr : rowN w g = some (hashA st tl n)) :
    Calls Tryd.prog 35 #[.pointer (some ⟨g, 0, none⟩)] w fun e w' => e = .returned (.slice (some ⟨g, 8, none⟩) (n % 64) (n % 64)) ∧ w = w' := by
  have hc : w.cell? ⟨g, 72, none⟩ = some (.int .i64 (n : Nat)) := ((rowN_cell hr).1 72).trans (hashA_len hs ht n)
  have hm : n % 64 < 64 := Nat.mod_lt _ (by omega)
  obtain ⟨q, hq⟩ : ∃ q, n % 64 = q := ⟨_, rfl⟩
  have hq2 : ((n : Nat) : Int) % 64 = ((q : Nat) : Int) := by omega
  rw [hq] at hm ⊢
  have hs36 := fun W => run_slice36_hm g q (by omega) W
  clear hr hq
  go_enter Tryd.func35, Tryd.ntmps35
  go_wp2_with fail
  go_ret
  exact ⟨rfl, rfl⟩
theorem waiting_bytes {g n : Nat} {st tl : List Nat} (hs : st.length = 8) (ht : tl.length = 64) (h256 : ∀ x ∈ tl, x < 256) {w : World} (hr : rowN w g = some (hashA st tl n)) : BytesAt (tl.take (n % 64)) (.slice (some ⟨g, 8, none⟩) (n % 64) (n % 64)) w := by
  have hl : (tl.take (n % 64)).length = n % 64 := by rw [List.length_take]; omega
  refine ⟨fun x hx => h256 x (List.mem_of_mem_take hx), _, n % 64, by rw [hl], by omega, .inr ⟨g, 8, rfl, rowN_lt hr, fun j hj => ?_⟩⟩
  rw [hl] at hj
  rw [(rowN_cell hr).1 (8 + j), hashA_tail hs ht n (by omega)]
  simp [List.getD, hj]
end Go.Proofs.YtmlacbdonkfbdaaDoor
