/- slices.Clone, waiting. -/
import Derived.Test.YtjpieoepokakgaaDoorSN
namespace Go.Proofs.YtjpieoepokakgaaDoor
open Go.RowKit

theorem eql_nil22 (w : World) : (binOp BinOp.eql 22 (.slice none 0 0) (.slice none 0 0)).run Tryd.prog w = .ok (.bool true) w := by kernel_rfl
theorem eql_some22 (ad : Addr) (L c : Nat) (w : World) : (binOp BinOp.eql 22 (.slice (some ad) L c) (.slice none 0 0)).run Tryd.prog w = .ok (.bool false) w := by kernel_rfl
attribute [go_sem] eql_nil22 eql_some22
theorem owns_nil0 {base k : Nat} {w : World} {s : Value} {xs : List Value} (h : w.ownsRow base 5 1 s k xs) : Nil0 s := by
  rintro L c rfl
  rcases h.2 with ⟨e, _⟩ | ⟨g, cap, cur, e, _⟩
  · cases e; rfl
  · cases e
set_option maxRecDepth 100000 in
set_option maxHeartbeats 1000000 in
theorem clone_any (zs : List Nat) (s : Value) (hl : zs.length ≤ 140737488355328) (w : World) (h : BytesAt zs s w) (hnil : Nil0 s) :
    Calls Tryd.prog 19 #[s] w fun e w' => ∃ s', e = .returned s' ∧ (BytesAt zs s' w' ∧ (∀ j, InS s' j → w.heap.size ≤ j) ∧ Nil0 s') ∧ Below w.heap.size w w' := by
  obtain ⟨i0, hi, hz0, hz1, hz2⟩ := info_parts Tryd.info5
  have HB := Lib.hid h
  have HN := Lib.hid hnil
  have H256 := Lib.hid h.1
  obtain ⟨_, a, c, rfl, hc, h2⟩ := h
  obtain ⟨L, hL⟩ : ∃ L, zs.length = L := ⟨_, rfl⟩
  have HL := Lib.hid hL
  rw [hL] at hl HB h2 hnil HN ⊢
  cases a with
  | none =>
    have h0 : L = 0 := by
      rcases h2 with h2 | ⟨b, off, e, _⟩
      · exact h2
      · cases e
    obtain rfl := hnil _ _ rfl
    have HZ := Lib.hid (show zs = [] from List.length_eq_zero_iff.1 (by omega))
    clear hL h2 hnil hc
    subst h0
    go_enter Tryd.func19, Tryd.ntmps19
    go_wp2_with fail
    go_ret
    exact ⟨_, rfl, ⟨HB.out, (fun j h => by obtain ⟨_, _, _, _, e⟩ := h; cases e), HN.out⟩, Below.refl _ _⟩
  | some ad =>
    have hown2 : (w.alloc (.cells #[] 5)).ownsRow w.heap.size 5 1 (.slice (some ⟨w.heap.size, 0, none⟩) 0 0) 0 [] := World.ownsRow_lit w #[] 0 (Nat.le_refl _) (by unfold maxLen; omega) rfl
    have hbel2 : Below w.heap.size w (w.alloc (.cells #[] 5)) := (Below.refl _ w).alloc (Nat.le_refl _) _
    have hsz2 : w.heap.size ≤ (w.alloc (.cells #[] 5)).heap.size := hbel2.size
    have HB2 := Lib.hid (HB.out.kept hbel2)
    have hcz : ∀ j u, (cl zs)[j]? = some u → (w.alloc (.cells #[] 5)).cell? (ad.add j) = some u := by
      intro j u hu
      have hj : j < zs.length := by
        have := (List.getElem?_eq_some_iff.1 hu).1
        rw [cl_len] at this; exact this
      obtain ⟨_, a0, c0, e, _, h3⟩ := HB2.out
      cases e
      rcases h3 with h3 | ⟨b, off, ea, _, hjj⟩
      · omega
      · cases ea
        rw [cl_get zs j hj] at hu
        cases hu
        rw [show (⟨b, off, none⟩ : Addr).add j = ⟨b, off + j, none⟩ by unfold Addr.add; split <;> simp_all]
        exact hjj j hj
    clear hL h2 hnil hc
    go_enter Tryd.func19, Tryd.ntmps19
    go_wp2_with (at_builtin; refine wpList_append_own _ rfl _ _ 22 rfl w.heap.size 5 i0 (.int .u8 0) 1 1 Tryd.underlying22 hi hz0 hz1 hz2 rfl (by decide) _ _ _ rfl hown2 ad L c (cl zs) rfl (by rw [cl_len, HL.out]; omega) hcz (cl_one zs) (by unfold maxLen; omega) (by omega) hsz2 ?_; intro v3 w3 hown3 hgrow3 hnil3)
    have hb3 := below_owned hbel2 hown2 hgrow3 hsz2
    have ho : w3.ownsRow w.heap.size 5 1 v3 zs.length (cl zs) := by
      rw [HL.out]; rw [show 0 + L = L by omega, List.nil_append] at hown3; exact hown3
    have HE := Lib.hid (show (BytesAt zs v3 w3 ∧ (∀ j, InS v3 j → w.heap.size ≤ j) ∧ Nil0 v3) ∧ Below w.heap.size w w3 from ⟨⟨(owns_both H256.out ho).1, (owns_both H256.out ho).2, owns_nil0 ho⟩, hb3⟩)
    clear hown3 hgrow3 hnil3 hb3 ho hown2 hbel2 hsz2 hcz
    go_wp2_with fail
    go_ret
    exact ⟨_, rfl, HE.out⟩
end Go.Proofs.YtjpieoepokakgaaDoor
