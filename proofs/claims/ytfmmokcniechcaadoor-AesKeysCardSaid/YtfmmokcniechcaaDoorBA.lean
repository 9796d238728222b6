/- AES: the reference's substitutes; AesSubstitutes walked. -/
import Derived.Test.YtfmmokcniechcaaDoorAR
namespace Go.Proofs.YtfmmokcniechcaaDoor
open Go.RowKit Go.Shelf

attribute [local go_sem] Oper.semAt_some
/-- The reference's table. -/
def SG (w : World) : Prop := 0 < w.heap.size ∧ ∀ i, i < 256 → w.cell? ⟨0, i, none⟩ = some (.int .u8 (tb sb i : Nat))
theorem SG.kept {w w' : World} (h : SG w) (hb : Below w.heap.size w w') : SG w' :=
  ⟨Nat.lt_of_lt_of_le h.1 hb.size, fun i hi => (hb.cell (p := ⟨0, i, none⟩) h.1).trans (h.2 i hi)⟩
set_option maxRecDepth 100000 in
theorem rsub_any (x : Nat) (hx : x < 256) (w : World) (hG : SG w) : Calls Tryd.prog 7 #[.int .u8 (x : Nat)] w fun e w' => e = .returned (.int .u8 (tb sb x : Nat)) ∧ w = w' := by
  have hx2 : ((x : Nat) : Int) < 256 := by omega
  have hc := hG.2 x hx
  obtain ⟨y, hy⟩ : ∃ y, tb sb x = y := ⟨_, rfl⟩
  rw [hy] at hc ⊢
  clear hG hy
  go_enter Tryd.func7, Tryd.ntmps7
  go_wp2_with fail
  go_ret
  exact ⟨rfl, rfl⟩
set_option maxRecDepth 100000 in
theorem rinv_any (b : Nat) (hb : b < 256) (w : World) (hG : SG w) : Calls Tryd.prog 9 #[.int .u8 (b : Nat)] w fun e w' => e = .returned (.int .u8 (tb ib b : Nat)) ∧ w = w' := by
  have HG := Lib.hid hG
  clear hG
  go_enter Tryd.func9, Tryd.ntmps9
  go_wp2_with fail
  go_loopw [3] (fun i wr => ∃ k : Nat, k ≤ 256 ∧ i = .int .i64 (k : Nat) ∧ (∀ j, j < k → tb sb j ≠ b) ∧ w = wr) (fun i _ => 256 - (intOf i).toNat)
  case atStart => exact ⟨0, by omega, rfl, fun j h => by omega, rfl⟩
  case round =>
    obtain ⟨k, hk, rfl, hno, rfl⟩ := hrel
    have HNO := Lib.hid hno
    clear hno
    by_cases hlt : k < 256
    · have hk4 : ((k : Nat) : Int) < 256 := by omega
      have hc := HG.out.2 k hlt
      have HIB := Lib.hid (ib_sb k hlt)
      have HNB := Lib.hid (show tb sb k = tb sb k from rfl)
      obtain ⟨y, hy⟩ : ∃ y, tb sb k = y := ⟨_, rfl⟩
      rw [hy] at hc HIB
      have HY := Lib.hid hy
      clear hy HNB
      by_cases he : y = b
      · subst he
        have ek : IntKind.u8.wrap ((k : Nat) : Int) = ((k : Nat) : Int) := by rw [IntKind.wrap_u8]; omega
        go_wp2_with fail
        go_ret
        exact ⟨by rw [HIB.out]; rfl, rfl⟩
      · have hne : ¬ ((y : Nat) : Int) = ((b : Nat) : Int) := by omega
        go_wp2_with fail
        exact ⟨⟨k + 1, by omega, rfl, fun j hj => by
          by_cases hjk : j = k
          · rw [hjk, HY.out]; exact he
          · exact HNO.out j (by omega), (by first | rfl | trivial)⟩, by simp [intOf]; omega⟩
    · exact absurd (sb_ib b hb) (HNO.out _ (by have := tb_256 ib_256 b; omega))
set_option maxRecDepth 100000 in
set_option maxHeartbeats 2000000 in
theorem substitutes_walk (x : Nat) (hx : x < 256) (w : World) (hG : SG w) : Calls Tryd.prog 3 #[.int .u8 (x : Nat)] w fun e w' => e = .returned (.bool true) ∧ Below w.heap.size w w' := by
  have H6 := Lib.hid (Subst_any x hx w)
  have H7 := Lib.hid (rsub_any x hx w hG)
  have H8 := Lib.hid (Inv_any x hx w)
  have H9 := Lib.hid (rinv_any x hx w hG)
  have H8s := Lib.hid (Inv_any (tb sb x) (tb_256 sb_256 x) w)
  rw [ib_sb x hx] at H8s
  have HK := Lib.hid (known_any w)
  obtain ⟨y, hy⟩ : ∃ y, tb sb x = y := ⟨_, rfl⟩
  obtain ⟨z, hz⟩ : ∃ z, tb ib x = z := ⟨_, rfl⟩
  rw [hy] at H6 H7 H8s
  rw [hz] at H8 H9
  clear hy hz hG
  go_enter Tryd.func3, Tryd.ntmps3
  go_wp2_with fail
  refine H6.out.mono ?_
  rintro e w1 ⟨rfl, rfl⟩
  go_wp2_with fail
  refine H7.out.mono ?_
  rintro e w1 ⟨rfl, rfl⟩
  go_wp2_with fail
  refine H8.out.mono ?_
  rintro e w1 ⟨rfl, rfl⟩
  go_wp2_with fail
  refine H9.out.mono ?_
  rintro e w1 ⟨rfl, rfl⟩
  go_wp2_with fail
  refine H6.out.mono ?_
  rintro e w1 ⟨rfl, rfl⟩
  go_wp2_with fail
  refine H8s.out.mono ?_
  rintro e w1 ⟨rfl, rfl⟩
  go_wp2_with fail
  refine HK.out.mono ?_
  rintro e w1 ⟨rfl, hb⟩
  have HB := Lib.hid hb
  clear hb
  go_wp2_with fail
  go_ret
  exact ⟨rfl, HB.out⟩
end Go.Proofs.YtfmmokcniechcaaDoor
