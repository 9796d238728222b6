/- The blocks of a padded string, yielded. -/
import Derived.RangeFuncLeaves
import Derived.Test.YtmlacbdonkfbdaaDoorSI
namespace Go.Proofs.YtmlacbdonkfbdaaDoor
open Go.RowKit Go.Shelf

attribute [local go_sem] Oper.semAt_some

def wblk (b off k : Nat) : Value := .slice (some ⟨b, off + 64 * k, none⟩) 64 64
def WhY (b off L q : Nat) (J : Nat → World → Prop) (s : Value) (wr : World) : Prop :=
  ∃ (k off' c' : Nat), k ≤ q ∧ s = .slice (some ⟨b, off', none⟩) (L - 64 * k) c' ∧ L - 64 * k ≤ c' ∧ (k < q → off' = off + 64 * k) ∧ J k wr

set_option maxRecDepth 100000 in
set_option maxHeartbeats 1000000 in
theorem whole1_yields (n gb b off L c q : Nat) (hq : q = L / 64) (hL : L ≤ c) (w : World) (hg : rowN w gb = some #[.slice (some ⟨b, off, none⟩) L c]) :
    Yields n 49 #[.pointer (some ⟨gb, 0, none⟩)] q (fun k v _ => v = wblk b off k) (fun _ => False) (fun _ _ => False) w := by
  intro l J Jx M W hW _ _ _ hY h0
  have hrow : rowN W gb = some #[.slice (some ⟨b, off, none⟩) L c] := keptW hW hg
  have hc := (rowN_cell hrow).1 0
  have HY := Lib.hid hY
  have H0 := Lib.hid h0
  clear hY h0 hg hrow hW
  refine callsIn_of_wp Tryd.func49 rfl trivial ?_ rfl
  simp only [Tryd.ntmps49, List.size_toArray, List.length_cons, List.length_nil, Nat.reduceAdd, Nat.reduceSub, Array.replicate_succ, Array.replicate_zero, List.push_toArray, List.append_toArray, List.nil_append, List.cons_append]
  gi_wp2_with fail
  gi_loopw [3] (fun s wr => WhY b off L q J s wr) (fun s _ => match s with | .slice _ m _ => m | _ => 0)
  case atStart => exact ⟨0, off, c, by omega, rfl, hL, fun _ => rfl, H0.out⟩
  case round =>
    obtain ⟨k, off', c', hk, rfl, hcc, hoff, hj⟩ := hrel
    have HJ := Lib.hid hj
    clear hj hc
    by_cases hlt : k < q
    · obtain rfl := hoff hlt
      have h64 : 64 ≤ L - 64 * k := by omega
      obtain ⟨m, hm⟩ : ∃ m, L - 64 * k = m := ⟨_, rfl⟩
      rw [hm] at hcc h64 ⊢
      have HM := Lib.hid hm
      clear hm hoff
      obtain ⟨fn, tmps, assign, body, hy, hR⟩ := HY.out k (wblk b off k) wr hlt HJ.out rfl
      have HRR := Lib.hid hR
      clear hR
      dsimp only [wblk] at hy
      have h64' : (64 : Int) ≤ (m : Int) := by omega
      gi_wp2_with fail
      refine ⟨(fun h => by cases h), ?_⟩
      refine HRR.out.mono ?_
      rintro e3 W3 ⟨hk3, (⟨rfl, hJ3⟩ | ⟨rfl, hJx3⟩)⟩
      · have HJ3 := Lib.hid hJ3
        clear hJ3 hk3
        gi_wp2_with fail
        refine ⟨⟨k + 1, if c' = 64 then off + 64 * k else off + 64 * k + 64, c' - 64, by omega, ?_, by have := HM.out; omega, fun h => ?_, HJ3.out⟩, by simp; omega⟩
        · rw [show L - 64 * (k + 1) = m - 64 by have := HM.out; omega]
          split <;> rfl
        · rw [if_neg (by have := HM.out; omega)]; omega
      · have HJX := Lib.hid hJx3
        clear hJx3 hk3
        gi_wp2_with fail
        refine bodyPost_ret (results_none rfl _ _ _) rfl ?_
        exact ⟨⟨_, rfl⟩, .inr ⟨k + 1, by omega, HJX.out⟩⟩
    · have HJ2 := Lib.hid (show J q wr from (show k = q by omega) ▸ HJ.out)
      have hlt64 : L - 64 * k < 64 := by omega
      have hlt64' : ¬ (64 : Int) ≤ ((L - 64 * k : Nat) : Int) := by omega
      gi_wp2_with fail
      go_end0
      exact ⟨⟨_, rfl⟩, .inl (hq ▸ HJ2.out)⟩

set_option maxRecDepth 100000 in
set_option maxHeartbeats 1000000 in
theorem whole1_yields0 (n gb : Nat) (a : Option Addr) (L c : Nat) (hL : L < 64) (Φ : Nat → Value → World → Prop) (w : World) (hg : rowN w gb = some #[.slice a L c]) :
    Yields n 49 #[.pointer (some ⟨gb, 0, none⟩)] 0 Φ (fun _ => False) (fun _ _ => False) w := by
  intro l J Jx M W hW _ _ _ _ h0
  have hrow : rowN W gb = some #[.slice a L c] := keptW hW hg
  have hc := (rowN_cell hrow).1 0
  have H0 := Lib.hid h0
  have hlt64' : ¬ (64 : Int) ≤ ((L : Nat) : Int) := by omega
  clear h0 hg hrow hW
  refine callsIn_of_wp Tryd.func49 rfl trivial ?_ rfl
  simp only [Tryd.ntmps49, List.size_toArray, List.length_cons, List.length_nil, Nat.reduceAdd, Nat.reduceSub, Array.replicate_succ, Array.replicate_zero, List.push_toArray, List.append_toArray, List.nil_append, List.cons_append]
  gi_wp2_with fail
  gi_loopw [3] (fun s wr => s = .slice a L c ∧ J 0 wr) (fun _ _ => 0)
  case atStart => exact ⟨rfl, H0.out⟩
  case round =>
    obtain ⟨rfl, hj⟩ := hrel
    have HJ := Lib.hid hj
    clear hj hc
    gi_wp2_with fail
    go_end0
    exact ⟨⟨_, rfl⟩, .inl HJ.out⟩

/-- The bytes of a block, at its slice. -/
theorem BytesAt.blk {zs : List Nat} {b off c : Nat} {w : World} (h : BytesAt zs (.slice (some ⟨b, off, none⟩) zs.length c) w) {k : Nat} (hk : 64 * (k + 1) ≤ zs.length) : BytesAt ((zs.drop (64 * k)).take 64) (wblk b off k) w := by
  obtain ⟨h1, a0, c0, e, hc0, h2⟩ := h
  cases e
  have hl : ((zs.drop (64 * k)).take 64).length = 64 := by rw [List.length_take, List.length_drop]; omega
  refine ⟨fun x hx => h1 x (List.mem_of_mem_drop (List.mem_of_mem_take hx)), some ⟨b, off + 64 * k, none⟩, 64, by rw [hl]; rfl, by rw [hl]; exact Nat.le_refl _, ?_⟩
  rw [hl]
  rcases h2 with h2 | ⟨b', off', ea, hb, hj⟩
  · omega
  · cases ea
    refine .inr ⟨b, off + 64 * k, rfl, hb, fun j hjl => ?_⟩
    rw [Nat.add_assoc, hj (64 * k + j) (by omega)]
    simp [List.getD, List.getElem?_drop, hjl]

theorem BytesAt.keeps {zs : List Nat} {s : Value} {w w' : World} (h : BytesAt zs s w) {M : Nat → Prop} (hk : Keeps M w w') (hM : ∀ j, 0 < zs.length → InS s j → ¬ M j) : BytesAt zs s w' := by
  obtain ⟨h1, a, c, rfl, hc, h⟩ := h
  refine ⟨h1, a, c, rfl, hc, ?_⟩
  rcases h with h | ⟨b, off, rfl, hlt, hj⟩
  · exact .inl h
  · exact .inr ⟨b, off, rfl, Nat.lt_of_lt_of_le hlt hk.size, fun j hjl => (hk.cell (p := ⟨b, off + j, none⟩) hlt (hM b (by omega) ⟨off, none, _, _, rfl⟩)).trans (hj j hjl)⟩
theorem BytesAt.putObj {zs : List Nat} {s : Value} {w : World} (h : BytesAt zs s w) {l : Nat} {o : Obj} (o' : Obj) (hl : w.heap[l]? = some o) (ho : o.isCells = false) : BytesAt zs s (w.putObj l o') := by
  obtain ⟨h1, a, c, rfl, hc, h⟩ := h
  refine ⟨h1, a, c, rfl, hc, ?_⟩
  rcases h with h | ⟨b, off, rfl, hlt, hj⟩
  · exact .inl h
  · refine .inr ⟨b, off, rfl, by simp; exact hlt, fun j hjl => ?_⟩
    have hjj := hj j hjl
    refine (World.cell?_of_block (w := w) (World.putObj_heap_other (fun e => ?_))).trans hjj
    subst e
    unfold World.cell? at hjj
    simp only [hl] at hjj
    cases o <;> simp_all [Obj.isCells]
/-- The slice lies in blocks that are there. -/
theorem BytesAt.lt {zs : List Nat} {s : Value} {w : World} (h : BytesAt zs s w) (h0 : 0 < zs.length) {j : Nat} (hj : InS s j) : j < w.heap.size := by
  obtain ⟨h1, a, c, rfl, hc, h⟩ := h
  obtain ⟨off, sp, L, c', e⟩ := hj
  cases e
  rcases h with h | ⟨b, off, e, hlt, hj⟩
  · omega
  · cases e; exact hlt
end Go.Proofs.YtmlacbdonkfbdaaDoor
