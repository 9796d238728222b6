/- CTS: decrypt's change at a string's end. -/
import Derived.Test.YtjcdbjapadgdfaaDoorCR
namespace Go.Proofs.YtjcdbjapadgdfaaDoor
open Go.RowKit Go.Shelf

attribute [local go_sem] Oper.semAt_some
set_option maxRecDepth 100000 in
set_option maxHeartbeats 1000000 in
theorem changeEnd_mend (g n : Nat) (g1 g2 g3 : Nat) (hn : 32 ≤ n) (hn2 : n ≤ 1000000) (w : World) (R : World → Prop)
    (H : Calls Tryd.prog 28 #[.pointer (some ⟨g, n - 32, none⟩), .pointer (some ⟨g, n - 16, none⟩), .pointer (some ⟨g1, 0, none⟩), .pointer (some ⟨g2, 0, none⟩), .pointer (some ⟨g3, 0, none⟩)] w.drew fun e w' => e = .returned (.tuple #[]) ∧ R w') :
    Calls Tryd.prog 26 #[.slice (some ⟨g, 0, none⟩) n n, .func (.func 28) #[] #[.pointer (some ⟨g1, 0, none⟩), .pointer (some ⟨g2, 0, none⟩), .pointer (some ⟨g3, 0, none⟩)]] w fun e w' => e = .returned (.tuple #[]) ∧ R w' := by
  have HH := Lib.hid H
  have hs1 := fun W => run_slice22_lhm g 0 n n (n - 32) (n - 16) (by omega) (by omega) W
  have hs2 := fun W => run_slice22_l g 0 n n (n - 16) (by omega) (Nat.le_refl _) W
  rw [Nat.zero_add, show n - 16 - (n - 32) = 16 by omega, show ((n - 32 : Nat) : Int) = ((n : Nat) : Int) - 16 - 16 by omega, show ((n - 16 : Nat) : Int) = ((n : Nat) : Int) - 16 by omega] at hs1
  rw [Nat.zero_add, show n - (n - 16) = 16 by omega, show ((n - 16 : Nat) : Int) = ((n : Nat) : Int) - 16 by omega] at hs2
  have ha1 := fun W => arrayAt16 ⟨g, n - 32, none⟩ 16 16 (Nat.le_refl _) W
  have ha2 := fun W => arrayAt16 ⟨g, n - 16, none⟩ 16 16 (Nat.le_refl _) W
  have i1 : IntKind.i64.wrap (((n : Nat) : Int) - 16) = ((n : Nat) : Int) - 16 := IntWalk.i64_in _ (by omega)
  have i2 : IntKind.i64.wrap (((n : Nat) : Int) - 16 - 16) = ((n : Nat) : Int) - 16 - 16 := IntWalk.i64_in _ (by omega)
  have i3 : ¬ ((n : Nat) : Int) - 16 - 16 < 0 := by omega
  clear H
  go_enter Tryd.func26, Tryd.ntmps26
  go_upto_region 3 with fail
  refine wp_region_still_tail 11 (by kernel_rfl) (by kernel_rfl) ?_
  simp only [List.take_succ_cons, List.take_zero, List.drop_succ_cons, List.drop_zero]
  repeat still_step
  refine wpStill_nil ?_
  change wpList _ _ _ _ _ w.drew
  go_wp2_with fail
  refine HH.out.mono ?_
  rintro e w1 ⟨rfl, hR⟩
  have HR := Lib.hid hR
  clear hR
  go_wp2_with fail
  go_end0
  exact ⟨rfl, HR.out⟩

/-- A ciphertext with what was cut off, and (cdL) with its last two blocks exchanged. -/
def mdL (key cs : List Nat) : List Nat :=
  if 32 ≤ 16 * nB cs.length then cs ++ (aD key (((padB cs).drop (16 * nB cs.length - 32)).take 16)).drop (16 + cs.length - 16 * nB cs.length) else padB cs
def cdL (key cs : List Nat) : List Nat := swp (mdL key cs)
theorem mdL_spl {key cs : List Nat} (h : 32 ≤ 16 * nB cs.length) (hk : ∀ x ∈ key, x < 256) (hc : ∀ x ∈ cs, x < 256) :
    spl (padB cs) (16 * nB cs.length - 16 + (16 + cs.length - 16 * nB cs.length)) ((aD key (((padB cs).drop (16 * nB cs.length - 32)).take 16)).drop (16 + cs.length - 16 * nB cs.length)) = mdL key cs := by
  have hle := nB_le cs.length
  have hp := padB_len cs
  have hn : 16 * nB cs.length < cs.length + 16 := by unfold nB; omega
  have hD : (aD key (((padB cs).drop (16 * nB cs.length - 32)).take 16)).length = 16 := aD_len hk (fun x hx => padB_256 hc x (List.mem_of_mem_drop (List.mem_of_mem_take hx)))
  unfold mdL
  rw [if_pos h]
  unfold spl
  rw [show 16 * nB cs.length - 16 + (16 + cs.length - 16 * nB cs.length) = cs.length by omega, List.drop_of_length_le (show (padB cs).length ≤ cs.length + _ by rw [hp, List.length_drop, hD]; omega), List.append_nil]
  congr 1
  unfold padB
  rw [List.take_append_of_le_length (Nat.le_refl _), List.take_length]
theorem mdL_len {key cs : List Nat} (hk : ∀ x ∈ key, x < 256) (hc : ∀ x ∈ cs, x < 256) : (mdL key cs).length = 16 * nB cs.length := by
  have hle := nB_le cs.length
  have hn : 16 * nB cs.length < cs.length + 16 := by unfold nB; omega
  have hD : (aD key (((padB cs).drop (16 * nB cs.length - 32)).take 16)).length = 16 := aD_len hk (fun x hx => padB_256 hc x (List.mem_of_mem_drop (List.mem_of_mem_take hx)))
  unfold mdL
  split
  · rw [List.length_append, List.length_drop, hD]; omega
  · exact padB_len cs
theorem mdL_256 {key cs : List Nat} (hk : ∀ x ∈ key, x < 256) (hc : ∀ x ∈ cs, x < 256) : ∀ x ∈ mdL key cs, x < 256 := by
  unfold mdL
  split
  · intro x hx
    rcases List.mem_append.1 hx with hx | hx
    · exact hc x hx
    · exact aD_256 hk (fun x hx => padB_256 hc x (List.mem_of_mem_drop (List.mem_of_mem_take hx))) x (List.mem_of_mem_drop hx)
  · exact padB_256 hc
theorem swp_256 {l : List Nat} (h : ∀ x ∈ l, x < 256) : ∀ x ∈ swp l, x < 256 := by
  intro x hx
  unfold swp at hx
  split at hx
  · rcases List.mem_append.1 hx with hx | hx
    · rcases List.mem_append.1 hx with hx | hx
      · exact h x (List.mem_of_mem_take hx)
      · exact h x (List.mem_of_mem_drop hx)
    · exact h x (List.mem_of_mem_drop (List.mem_of_mem_take hx))
  · exact h x hx
theorem mendEnd_any (key iv cs : List Nat) (g gm gc g1 g2 g3 n sc : Nat) (sa : Option Addr) (hn : 16 * nB cs.length = n) (hk : ∀ x ∈ key, x < 256) (hc : ∀ x ∈ cs, x < 256) (hl : cs.length ≤ 200000) (w : World)
    (hM : MdAt key iv gm gc w) (hr : rowN w g = some (arr .u8 (padB cs))) (h1 : rowN w g1 = some #[.pointer (some ⟨gm, 0, none⟩)]) (h2 : rowN w g2 = some #[.slice (some ⟨g, 0, none⟩) n n]) (h3 : rowN w g3 = some #[.slice sa cs.length sc]) :
    Calls Tryd.prog 26 #[.slice (some ⟨g, 0, none⟩) n n, .func (.func 28) #[] #[.pointer (some ⟨g1, 0, none⟩), .pointer (some ⟨g2, 0, none⟩), .pointer (some ⟨g3, 0, none⟩)]] w fun e w' => e = .returned (.tuple #[]) ∧ rowN w' g = some (arr .u8 (cdL key cs)) ∧ w.grownBy w' (some g) := by
  subst hn
  have hle := nB_le cs.length
  have hlt : 16 * nB cs.length < cs.length + 16 := by unfold nB; omega
  have hml := mdL_len hk hc
  by_cases h : 32 ≤ 16 * nB cs.length
  · refine changeEnd_mend g (16 * nB cs.length) g1 g2 g3 h (by omega) w (fun w' => rowN w' g = some (arr .u8 (cdL key cs)) ∧ w.grownBy w' (some g)) ?_
    refine (mend_any key iv (padB cs) (mdL key cs) g (16 * nB cs.length - 32) (16 * nB cs.length - 16) gm gc g1 g2 g3 (16 * nB cs.length) cs.length sc (16 + cs.length - 16 * nB cs.length) sa (mdL_spl h hk hc) hk (padB_256 hc) (padB_len cs) (by omega) (by omega) (by omega) (by omega) (by omega) w.drew hM hr h1 h2 h3).mono ?_
    rintro e w' ⟨rfl, r1, r2⟩
    rw [List.take_of_length_le (show ((mdL key cs).drop (16 * nB cs.length - 16)).length ≤ 16 by rw [List.length_drop, hml]; omega)] at r1
    have he := swp_eq (l := mdL key cs) (by rw [hml]; exact h)
    rw [hml] at he
    rw [List.take_of_length_le (show ((mdL key cs).drop (16 * nB cs.length - 16)).length ≤ 16 by rw [List.length_drop, hml]; omega)] at he
    rw [he] at r1
    exact ⟨rfl, r1, grownBy_trans (grown_of_below (Below.refl _ _).drew _) r2⟩
  · refine (changeEnd_one g (16 * nB cs.length) (.func 28) _ (by omega) w).mono ?_
    rintro e w' ⟨rfl, rfl⟩
    refine ⟨rfl, ?_, grownBy_refl _ _⟩
    unfold cdL mdL swp
    rw [if_neg h, if_neg (by rw [padB_len]; exact h)]; exact hr
end Go.Proofs.YtjcdbjapadgdfaaDoor
