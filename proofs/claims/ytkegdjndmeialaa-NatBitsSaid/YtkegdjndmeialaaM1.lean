/- What 'made' comes to: the number and the reference's of the same bytes. -/
import Derived.Test.YtkegdjndmeialaaR4
import Derived.Deep.RegionHeld3
namespace Go.Proofs.Ytkegdjndmeialaa
open Go.RowKit

theorem info_fb_fits {zs : List Nat} (h : valBE 256 zs < P64 ^ 16) : fbV zs = valBE 256 zs ∧ fbE zs = 0 := by
  unfold fbV fbE
  exact ⟨if_pos h, if_pos h⟩
theorem info_fb_full {zs : List Nat} (h : ¬ valBE 256 zs < P64 ^ 16) : fbV zs = 0 ∧ fbE zs = 7 := by
  unfold fbV fbE
  exact ⟨if_neg h, if_neg h⟩

theorem dlen_bytes {zs : List Nat} (h256 : ∀ x ∈ zs, x < 256) (hn : zs.length ≤ 1000000) : dlen 65536 (valBE 256 zs) ≤ 1000000 := by
  refine Nat.le_trans (dlen_le (by omega) (from_all zs h256 zs.length (by omega))) hn

theorem DigN.setRow {v n g x : Nat} {s : Value} {W : World} {cs : Array Value} (h : DigN v n s W) (hr : rowN W g = some (natA x)) : DigN v n s (W.setRow g cs) := by
  obtain ⟨h1, a, c, rfl, h2, h3, h4⟩ := h
  refine ⟨h1, a, c, rfl, h2, h3, ?_⟩
  rcases h4 with h4 | ⟨b, off, rfl, h5, h6⟩
  · exact .inl h4
  · by_cases hn : n = 0
    · exact .inl hn
    · have hne : b ≠ g := by
        rintro rfl
        have h7 := h6 0 (by omega)
        rw [(rowN_cell hr).1] at h7
        by_cases ho : off + 0 < 16
        · rw [natA_get _ _ ho] at h7; cases h7
        · rw [Array.getElem?_eq_none (by rw [natA_size]; omega)] at h7; cases h7
      refine .inr ⟨b, off, rfl, by simpa [World.setRow] using h5, fun j hj => ?_⟩
      rw [← h6 j hj]
      simp only [World.cell?, setRow_other W g b cs hne]

theorem fits_true (v n : Nat) (s : Value) (w : World) (h : DigN v n s w) (hn : n ≤ 100000000) (hf : v < P64 ^ 16) : Calls Try.prog 14 #[s] w fun e w' => e = .returned (.bool true) ∧ w' = w := by
  have h := fits_any v n s w h hn
  rw [decide_eq_true hf] at h
  exact h
theorem fits_false (v n : Nat) (s : Value) (w : World) (h : DigN v n s w) (hn : n ≤ 100000000) (hf : ¬ v < P64 ^ 16) : Calls Try.prog 14 #[s] w fun e w' => e = .returned (.bool false) ∧ w' = w := by
  have h := fits_any v n s w h hn
  rw [decide_eq_false hf] at h
  exact h

set_option maxRecDepth 100000 in
set_option maxHeartbeats 1000000 in
theorem made_fits (zs : List Nat) (s : Value) (w : World) (h : BytesAt zs s w) (hn : zs.length ≤ 1000000) (hf : valBE 256 zs < P64 ^ 16) :
    Calls Try.prog 23 #[s] w fun e w' => ∃ t, e = .returned (.tuple #[.agg (natA (valBE 256 zs)), t, .bool true]) ∧ RefN (valBE 256 zs) t w' ∧ Below w.heap.size w w' := by
  have HB := Lib.hid h
  have HF := Lib.hid hf
  obtain ⟨e1, e2⟩ := info_fb_fits hf
  have hd := dlen_bytes h.1 hn
  have HN := Lib.hid hn
  have H1 := Lib.hid (fun (W : World) (hW : BytesAt zs s W) => fromBytes_any zs s W hW hn)
  have H2 := Lib.hid (fun (W : World) (hW : BytesAt zs s W) => from_any zs s W hW hn)
  rw [e1, e2] at H1
  clear h hf e1 e2 hn
  generalize valBE 256 zs = v at *
  go_enter Try.func23, Try.ntmps23
  have hB0 := Lib.hid (HB.out.kept ((Below.refl _ w).alloc (Nat.le_refl _) (.cells (natA 0) 28)))
  go_wp2_with fail
  refine (H1.out _ hB0.out).mono ?_
  rintro e w1 ⟨rfl, hb⟩
  have hR : rowN w1 w.heap.size = some (natA 0) := kept hb _ _ (by rw [rowN_alloc, if_pos rfl])
  have HBel := Lib.hid (((Below.refl _ w).alloc (Nat.le_refl _) _).trans (hb.mono (by simp)))
  have hlt := rowN_lt hR
  have HB1 := Lib.hid (hB0.out.kept hb)
  clear hb
  go_wp2_with fail
  refine (H2.out _ (HB1.out.kept (below_setRow' ((Below.refl _ _).alloc (Nat.le_refl _) _) (Nat.le_refl _) _))).mono ?_
  rintro e w2 ⟨t, rfl, ht, hb⟩
  obtain ⟨hV, hk, hBel2⟩ := stored hb
  have hR2 := hk _ _ hR
  have HBel2 := Lib.hid (HBel.out.trans (hBel2.mono (by omega)))
  have hlt2 := rowN_lt hV
  have hlt3 := hBel2.size
  have HT := Lib.hid ht
  generalize w1.heap.size = b1 at *
  clear hb hk hBel2 ht
  go_wp2_with fail
  have hVd : rowN w2.drew b1 = some (natA v) := by rw [rowN_drew]; exact hV
  have hRd : rowN w2.drew w.heap.size = some (natA 0) := by rw [rowN_drew]; exact hR2
  have HTd := Lib.hid (HT.out.kept (Below.refl _ w2).drew)
  have HBd := Lib.hid HBel2.out.drew
  go_region_held3 (fun W => rowN W b1 = some (natA v) ∧ Below w.heap.size w W) (first | exact ⟨by rw [rowN_setRow, if_neg (by omega)]; exact hV4, below_setRow' HB4.out (Nat.le_refl _) _⟩ | exact ⟨hV4, HB4.out⟩ | exact ⟨hVd, HBd.out⟩) (first
    | (go_at_call 14; refine (fits_true v _ t _ HTd.out (by omega) HF.out).mono ?_; rintro e w3 ⟨rfl, hw⟩; subst hw)
    | (go_at_call 16; refine (same_eq v HF.out t _ HTd.out).mono ?_; rintro e w4 ⟨rfl, hb⟩; have hV4 := kept hb _ _ hVd; have hR4 := kept hb _ _ hRd; have HT4 := Lib.hid (HTd.out.kept hb); have HB4 := Lib.hid (HBd.out.trans (hb.mono HBd.out.size)); clear hb))
  go_wp2_with fail
  have hfin : rowN (w4.setRow w.heap.size (natA v)) w.heap.size = some (natA v) := by rw [rowN_setRow, if_pos rfl, hR4]; rfl
  exact ret_nat_tmp_tmp _ (natA v) rfl rfl rfl hfin (natA_size _) ⟨t, rfl, HT4.out.setRow hR4, below_setRow' HB4.out (Nat.le_refl _) _⟩
end Go.Proofs.Ytkegdjndmeialaa
