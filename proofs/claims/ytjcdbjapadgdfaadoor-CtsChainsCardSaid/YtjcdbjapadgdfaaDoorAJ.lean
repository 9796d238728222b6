/- AES: the iterators over the round keys; isCipher, begin. -/
import Derived.Test.YtjcdbjapadgdfaaDoorAI
namespace Go.Proofs.YtjcdbjapadgdfaaDoor
open Go.RowKit Go.Shelf

attribute [local go_sem] Oper.semAt_some
def kyv (K : List Nat) (k : Nat) : Value := .agg (arr .u32 ((K.drop (k * 4)).take 4))
def RdK (g gb : Nat) (j : Nat) : Prop := j = g ∨ j = gb
def AlR (K : List Nat) (g gb : Nat) (W0 : World) (J : Nat → World → Prop) (i : Value) (wr : World) : Prop :=
  ∃ k : Nat, k ≤ 11 ∧ i = .int .i64 (k : Nat) ∧ J k wr ∧ rowN wr g = some (cphA TB K) ∧ rowN wr gb = some #[.slice (some ⟨g, 512, none⟩) 11 11] ∧ W0.heap.size ≤ wr.heap.size
theorem grown_none {A B : World} (h : Below A.heap.size A B) : A.grownBy B none := ⟨h.os, h.tape, h.output, h.size, fun j hj _ => h.block j hj⟩

set_option maxRecDepth 100000 in
set_option maxHeartbeats 1000000 in
theorem all_yields (n gb g : Nat) (K : List Nat) (hK : K.length = 44) (w : World) (hg : rowN w g = some (cphA TB K)) (hb : rowN w gb = some #[.slice (some ⟨g, 512, none⟩) 11 11]) :
    Yields n 70 #[.pointer (some ⟨gb, 0, none⟩)] 11 (fun k u v _ => u = .int .i64 (k : Nat) ∧ v = kyv K k) (RdK g gb) w := by
  intro l J Jx M W hW hM hJ _ hY h0
  have hrg : rowN W g = some (cphA TB K) := keptW hW hg
  have hrb : rowN W gb = some #[.slice (some ⟨g, 512, none⟩) 11 11] := keptW hW hb
  have hc := (rowN_cell hrb).1 0
  have HY := Lib.hid hY
  have HJ := Lib.hid hJ
  have HM := Lib.hid hM
  have HK := Lib.hid hK
  have HI0 := Lib.hid (show AlR K g gb W J (.int .i64 0) W from ⟨0, by omega, rfl, h0, hrg, hrb, Nat.le_refl _⟩)
  have sz4 : (arr .u32 (zr 4)).size = 4 := by rw [arr_size, zr_len]
  clear hY h0 hg hb hrg hrb hW hJ hM hK
  refine callsIn_of_wp Tryd.func70 rfl trivial ?_ rfl
  simp only [Tryd.ntmps70, List.size_toArray, List.length_cons, List.length_nil, Nat.reduceAdd, Nat.reduceSub, Array.replicate_succ, Array.replicate_zero, List.push_toArray, List.append_toArray, List.nil_append, List.cons_append]
  gi_wp2_with fail
  gi_loopw [7] (fun i wr => AlR K g gb W J i wr) (fun i _ => 11 - (intOf i).toNat)
  case atStart => exact HI0.out
  case round =>
    obtain ⟨k, hk, rfl, hj, hrg, hrb, hws⟩ := hrel
    have HRG := Lib.hid hrg
    have HRB := Lib.hid hrb
    have HWS := Lib.hid hws
    have HJK := Lib.hid hj
    by_cases hlt : k < 11
    · have hk4 : ((k : Nat) : Int) < 11 := by omega
      have hld := load_key TB_len HK.out hrg hlt
      have hll : ((K.drop (k * 4)).take 4).length = 4 := by rw [List.length_take, List.length_drop, HK.out]; omega
      have HKV := Lib.hid (show kyv K k = .agg (arr .u32 ((K.drop (k * 4)).take 4)) from rfl)
      obtain ⟨ks, hks⟩ : ∃ z, (K.drop (k * 4)).take 4 = z := ⟨_, rfl⟩
      rw [hks] at hld hll HKV
      have szk : (arr .u32 ks).size = 4 := by rw [arr_size, hll]
      have hbY : Below wr.heap.size wr ((wr.alloc (.cells (arr .u32 (zr 4)) 72)).setRow wr.heap.size (arr .u32 ks)) := below_setRow' ((Below.refl _ _).alloc (Nat.le_refl _) _) (Nat.le_refl _) _
      obtain ⟨fn, tmps, assign, body, hy, hR⟩ := HY.out k (.int .i64 (k : Nat)) (.agg (arr .u32 ks)) _ hlt (HJ.out k wr _ none hj (grown_none hbY) (fun r e => by cases e)) ⟨rfl, HKV.out.symm⟩
      have HRR := Lib.hid hR
      have HBY := Lib.hid hbY
      clear hR hj hrg hrb hks hbY
      gi_wp2_with fail
      refine ⟨(fun h => by cases h), ?_⟩
      refine HRR.out.mono ?_
      rintro e3 W3 ⟨hk3, (⟨rfl, hJ3⟩ | ⟨rfl, hJx3⟩)⟩
      · have HJ3 := Lib.hid hJ3
        have HG3 := Lib.hid (hk3.row (keptW HBY.out HRG.out) (fun h => (HM.out g h).2 (.inl rfl)))
        have HB3 := Lib.hid (hk3.row (keptW HBY.out HRB.out) (fun h => (HM.out gb h).2 (.inr rfl)))
        have HW3 := Lib.hid (show W.heap.size ≤ W3.heap.size from Nat.le_trans HWS.out (Nat.le_trans HBY.out.size hk3.size))
        clear hJ3 hk3
        gi_wp2_with fail
        exact ⟨⟨k + 1, by omega, rfl, HJ3.out, HG3.out, HB3.out, HW3.out⟩, by simp [intOf]; omega⟩
      · have HJX := Lib.hid hJx3
        clear hJx3 hk3
        gi_wp2_with fail
        refine bodyPost_ret (results_none rfl _ _ _) rfl ?_
        exact ⟨⟨_, rfl⟩, .inr ⟨k + 1, by omega, HJX.out⟩⟩
    · obtain rfl : k = 11 := by omega
      gi_wp2_with fail
      go_end0
      exact ⟨⟨_, rfl⟩, .inl HJK.out⟩

def BaR (K : List Nat) (g gb : Nat) (W0 : World) (J : Nat → World → Prop) (i : Value) (wr : World) : Prop :=
  ∃ k : Nat, k ≤ 11 ∧ i = .int .i64 (10 - (k : Nat) : Int) ∧ J k wr ∧ rowN wr g = some (cphA TB K) ∧ rowN wr gb = some #[.slice (some ⟨g, 512, none⟩) 11 11] ∧ W0.heap.size ≤ wr.heap.size
set_option maxRecDepth 100000 in
set_option maxHeartbeats 1000000 in
theorem back_yields (n gb g : Nat) (K : List Nat) (hK : K.length = 44) (w : World) (hg : rowN w g = some (cphA TB K)) (hb : rowN w gb = some #[.slice (some ⟨g, 512, none⟩) 11 11]) :
    Yields n 56 #[.pointer (some ⟨gb, 0, none⟩)] 11 (fun k u v _ => u = .int .i64 ((10 - k : Nat) : Int) ∧ v = kyv K (10 - k)) (RdK g gb) w := by
  intro l J Jx M W hW hM hJ _ hY h0
  have hrg : rowN W g = some (cphA TB K) := keptW hW hg
  have hrb : rowN W gb = some #[.slice (some ⟨g, 512, none⟩) 11 11] := keptW hW hb
  have hc := (rowN_cell hrb).1 0
  have HY := Lib.hid hY
  have HM := Lib.hid hM
  have HK := Lib.hid hK
  have HI0 := Lib.hid (show BaR K g gb W J (.int .i64 10) W from ⟨0, by omega, rfl, h0, hrg, hrb, Nat.le_refl _⟩)
  clear hY h0 hg hb hrg hrb hW hJ hM hK
  refine callsIn_of_wp Tryd.func56 rfl trivial ?_ rfl
  simp only [Tryd.ntmps56, List.size_toArray, List.length_cons, List.length_nil, Nat.reduceAdd, Nat.reduceSub, Array.replicate_succ, Array.replicate_zero, List.push_toArray, List.append_toArray, List.nil_append, List.cons_append]
  gi_wp2_with fail
  gi_loopw [3] (fun i wr => BaR K g gb W J i wr) (fun i _ => (intOf i + 1).toNat)
  case atStart => exact HI0.out
  case round =>
    obtain ⟨k, hk, rfl, hj, hrg, hrb, hws⟩ := hrel
    have HRG := Lib.hid hrg
    have HRB := Lib.hid hrb
    have HWS := Lib.hid hws
    have HJK := Lib.hid hj
    by_cases hlt : k < 11
    · obtain ⟨m, hm⟩ : ∃ m : Nat, 10 - k = m := ⟨_, rfl⟩
      have hmi : (10 : Int) - ((k : Nat) : Int) = ((m : Nat) : Int) := by omega
      rw [hmi]
      have hk4 : ((m : Nat) : Int) < 11 := by omega
      have hk0 : (0 : Int) ≤ ((m : Nat) : Int) := by omega
      have hm1 : IntKind.i64.wrap (((m : Nat) : Int) - 1) = ((m : Nat) : Int) - 1 := IntWalk.i64_in _ (by omega)
      have hcb := (rowN_cell hrb).1 0
      have hld := load_key TB_len HK.out hrg (show m < 11 by omega)
      have HKV := Lib.hid (show kyv K m = .agg (arr .u32 ((K.drop (m * 4)).take 4)) from rfl)
      obtain ⟨ks, hks⟩ : ∃ z, (K.drop (m * 4)).take 4 = z := ⟨_, rfl⟩
      rw [hks] at hld HKV
      obtain ⟨fn, tmps, assign, body, hy, hR⟩ := HY.out k (.int .i64 (m : Nat)) (.agg (arr .u32 ks)) wr hlt hj ⟨by rw [hm], by rw [hm]; exact HKV.out.symm⟩
      have HRR := Lib.hid hR
      have HMK := Lib.hid hmi
      clear hR hj hrg hrb hks hm hmi
      gi_wp2_with fail
      refine ⟨(fun h => by cases h), ?_⟩
      refine HRR.out.mono ?_
      rintro e3 W3 ⟨hk3, (⟨rfl, hJ3⟩ | ⟨rfl, hJx3⟩)⟩
      · have HJ3 := Lib.hid hJ3
        have HG3 := Lib.hid (hk3.row HRG.out (fun h => (HM.out g h).2 (.inl rfl)))
        have HB3 := Lib.hid (hk3.row HRB.out (fun h => (HM.out gb h).2 (.inr rfl)))
        have HW3 := Lib.hid (show W.heap.size ≤ W3.heap.size from Nat.le_trans HWS.out hk3.size)
        clear hJ3 hk3
        gi_wp2_with fail
        refine ⟨⟨k + 1, by omega, ?_, HJ3.out, HG3.out, HB3.out, HW3.out⟩, by simp [intOf] <;> omega⟩
        have := HMK.out
        exact congrArg (Value.int .i64) (by omega)
      · have HJX := Lib.hid hJx3
        clear hJx3 hk3
        gi_wp2_with fail
        refine bodyPost_ret (results_none rfl _ _ _) rfl ?_
        exact ⟨⟨_, rfl⟩, .inr ⟨k + 1, by omega, HJX.out⟩⟩
    · obtain rfl : k = 11 := by omega
      have hneg : ¬ (0 : Int) ≤ (10 : Int) - ((11 : Nat) : Int) := by omega
      gi_wp2_with fail
      go_end0
      exact ⟨⟨_, rfl⟩, .inl HJK.out⟩
end Go.Proofs.YtjcdbjapadgdfaaDoor
