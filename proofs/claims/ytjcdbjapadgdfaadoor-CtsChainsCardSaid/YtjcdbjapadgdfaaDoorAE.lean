/- AES: the bytes of a block. -/
import Derived.Test.YtjcdbjapadgdfaaDoorAX
namespace Go.Proofs.YtjcdbjapadgdfaaDoor
open Go.RowKit

attribute [local go_sem] Oper.semAt_some
def bW (x : Nat) : List Nat := [b0 x, b1 x, b2 x, b3 x]
def bytesL (ws : List Nat) : List Nat := ws.flatMap bW
theorem bytesL_succ {ws : List Nat} {k : Nat} (h : k < ws.length) : bytesL (ws.take (k + 1)) = bytesL (ws.take k) ++ bW (ws.getD k 0) := by
  unfold bytesL
  rw [List.take_succ_eq_append_getElem h, List.flatMap_append, List.getD, List.getElem?_eq_getElem h]
  simp
theorem bytesL_len : ∀ ws : List Nat, (bytesL ws).length = 4 * ws.length
  | [] => rfl
  | x :: ws => by
    have h := bytesL_len ws
    unfold bytesL at h ⊢
    rw [List.flatMap_cons, List.length_append, h, List.length_cons]
    simp [bW]; omega
theorem bW_256 {x : Nat} (h : x < 4294967296) : ∀ y ∈ bW x, y < 256 := by
  intro y hy
  simp only [bW, List.mem_cons, List.not_mem_nil, or_false] at hy
  rcases hy with rfl | rfl | rfl | rfl
  · exact b0_lt h
  · exact b1_lt _
  · exact b2_lt _
  · exact b3_lt _
theorem bytesL_256 {ws : List Nat} (h : W32 ws) : ∀ y ∈ bytesL ws, y < 256 := by
  intro y hy
  obtain ⟨x, hx, hy⟩ := List.mem_flatMap.1 hy
  exact bW_256 (h x hx) y hy
def NF (s : Value) (W : World) : Prop := ∀ b off L c, s = .slice (some ⟨b, off, none⟩) L c → ∀ j, j < L → W.frozen? ⟨b, off + j, none⟩ = false
theorem owns_nf {base n : Nat} {w : World} {v : Value} {xs : List Value} (h : w.ownsRow base 5 1 v n xs) : NF v w := by
  rintro b off L c rfl j hj
  rcases h.2 with ⟨e, _⟩ | ⟨g, cap, cur, e, _, hg, _⟩
  · cases e
  · cases e; simp [World.frozen?, hg]
def ByRel (ws : List Nat) (w : World) (v i : Value) (wr : World) : Prop :=
  ∃ k : Nat, k ≤ 4 ∧ i = .int .i64 (k : Nat) ∧ wr.ownsRow w.heap.size 5 1 v (bytesL (ws.take k)).length (cl (bytesL (ws.take k))) ∧ Below w.heap.size w wr
theorem made_own (w : World) (n : Nat) (cs : Array Value) (hc : cs.size = n) (hn : n ≤ 1000) : (w.alloc (.cells cs 5)).ownsRow w.heap.size 5 1 (.slice (some ⟨w.heap.size, 0, none⟩) 0 n) 0 (cl []) :=
  ⟨rfl, .inr ⟨w.heap.size, n, cs, rfl, Nat.le_refl _, heap_alloc_new w _, Nat.zero_le _, by unfold maxLen; omega, by rw [hc, Nat.mul_one], by simp [cl]⟩⟩

theorem run_make16 (W : World) : (Instr.makeSlice 22 (.int .i64 0) (.int .i64 16)).run Tryd.prog W = .ok (.slice (some ⟨W.heap.size, 0, none⟩) 0 16) (W.alloc (.cells (arr .u8 (zr 16)) 5)) := by
  obtain ⟨i0, hi, hz0, hz1, hz2⟩ := info_parts Tryd.info5
  rw [run_make W 22 5 i0 (.int .u8 0) Tryd.underlying22 hi hz0 .i64 .i64 0 16 (by omega) (by omega) (by rw [hz2]; decide) (by omega), hz1, arr_lit, zr_eq, List.map_replicate]
  kernel_rfl
set_option maxRecDepth 100000 in
set_option maxHeartbeats 1000000 in
theorem bytes_any (ws : List Nat) (rest : Array Value) (g : Nat) (hs : ws.length = 4) (hw : W32 ws) (w : World) (hrow : rowN w g = some (blA ws rest)) :
    Calls Tryd.prog 45 #[.pointer (some ⟨g, 0, none⟩)] w fun e w' => ∃ s, e = .returned s ∧ BytesAt (bytesL ws) s w' ∧ Nil0 s ∧ (∀ j, InS s j → w.heap.size ≤ j) ∧ NF s w' ∧ Below w.heap.size w w' := by
  have HS := Lib.hid hs
  have HW := Lib.hid hw
  have HR := Lib.hid hrow
  clear hs hw hrow
  have hmk := run_make16
  have hzs : (arr .u8 (zr 16)).size = 16 := by rw [arr_size, zr_len]
  have HI0 := Lib.hid (show ByRel ws w (.slice (some ⟨w.heap.size, 0, none⟩) 0 16) (.int .i64 0) (w.alloc (.cells (arr .u8 (zr 16)) 5)) from
    ⟨0, by omega, rfl, made_own w 16 _ hzs (by omega), (Below.refl _ w).alloc (Nat.le_refl _) _⟩)
  go_enter Tryd.func45, Tryd.ntmps45
  go_wp2_with fail
  go_loopw [3, 8] (fun v i wr => ByRel ws w v i wr) (fun _ i _ => 4 - (intOf i).toNat)
  case atStart => exact HI0.out
  case round =>
    obtain ⟨k, hk, rfl, ho, hB⟩ := hrel
    have HB := Lib.hid hB
    by_cases hlt : k < 4
    · have hk4 : ((k : Nat) : Int) < 4 := by omega
      have hks : k < ws.length := by rw [HS.out]; exact hlt
      have hc0 := cell_bl HS.out (keptW hB HR.out) hlt
      have hx32 := HW.out.get k
      have HSU := Lib.hid (bytesL_succ hks)
      have hll : (bytesL (ws.take k)).length ≤ 16 := by rw [bytesL_len, List.length_take, HS.out]; omega
      obtain ⟨x, hx⟩ : ∃ x, ws.getD k 0 = x := ⟨_, rfl⟩
      rw [hx] at hc0 hx32 HSU
      have HW4 := Lib.hid (bW_256 hx32)
      have HBW := Lib.hid (show bW x = [b0 x, b1 x, b2 x, b3 x] from rfl)
      have e0 : IntKind.u8.wrap (((x : Nat) : Int) / 16777216) = ((b0 x : Nat) : Int) := by rw [IntKind.wrap_u8]; unfold b0; omega
      have e1 : IntKind.u8.wrap (((x : Nat) : Int) / 65536) = ((b1 x : Nat) : Int) := by rw [IntKind.wrap_u8]; unfold b1; omega
      have e2 : IntKind.u8.wrap (((x : Nat) : Int) / 256) = ((b2 x : Nat) : Int) := by rw [IntKind.wrap_u8]; unfold b2; omega
      have e3 : IntKind.u8.wrap ((x : Nat) : Int) = ((b3 x : Nat) : Int) := by rw [IntKind.wrap_u8]; unfold b3; omega
      obtain ⟨a0, ha0⟩ : ∃ z, b0 x = z := ⟨_, rfl⟩
      obtain ⟨a1, ha1⟩ : ∃ z, b1 x = z := ⟨_, rfl⟩
      obtain ⟨a2, ha2⟩ : ∃ z, b2 x = z := ⟨_, rfl⟩
      obtain ⟨a3, ha3⟩ : ∃ z, b3 x = z := ⟨_, rfl⟩
      rw [ha0] at e0 HBW; rw [ha1] at e1 HBW; rw [ha2] at e2 HBW; rw [ha3] at e3 HBW
      have HLIT := Lib.hid (fun (W : World) => show BytesAt (bW x) (.slice (some ⟨W.heap.size, 0, none⟩) 4 4) (W.alloc (.cells #[.int .u8 (a0 : Nat), .int .u8 (a1 : Nat), .int .u8 (a2 : Nat), .int .u8 (a3 : Nat)] 5)) from
        bytes_row HW4.out (by rw [rowN_alloc, if_pos rfl, arr_lit, HBW.out]; rfl) 4 rfl)
      have HO := Lib.hid ho
      obtain ⟨av, cv, rfl⟩ := owns_slice ho
      have hwz := hB.size
      clear ho hB hx ha0 ha1 ha2 ha3
      go_wp2_with (at_builtin; refine wpList_app rfl _ _ rfl w.heap.size rfl rfl (HO.out.alloc _) (HLIT.out wr) (fun L c e => by cases e) (by simp [bW]; omega) (by simp; omega) ?_; intro v' w' hown' hgrow')
      have hb' := below_owned (HB.out.alloc hwz _) (HO.out.alloc _) hgrow' (by simp; omega)
      have HB' := Lib.hid hb'
      have HO' := Lib.hid hown'
      rw [← HSU.out] at HO'
      clear hown' hgrow' hb'
      go_wp2_with fail
      exact ⟨⟨k + 1, by omega, rfl, HO'.out, HB'.out⟩, by simp [intOf]; omega⟩
    · obtain rfl : k = 4 := by omega
      rw [List.take_of_length_le (by rw [HS.out]; exact Nat.le_refl _)] at ho
      have h1 := owns_both (bytesL_256 HW.out) ho
      have HN := Lib.hid (owns_nil0 ho)
      have HNF := Lib.hid (owns_nf ho)
      have H1 := Lib.hid h1
      clear h1 ho hB
      go_wp2_with fail
      go_ret
      exact ⟨_, rfl, H1.out.1, HN.out, H1.out.2, HNF.out, HB.out⟩

/-! The operations of a round. -/
set_option maxRecDepth 100000 in
theorem shift_any (ws : List Nat) (rest : Array Value) (g : Nat) (hs : ws.length = 4) (hw : W32 ws) (w : World) (hrow : rowN w g = some (blA ws rest)) :
    Calls Tryd.prog 52 #[.pointer (some ⟨g, 0, none⟩)] w fun e w' => e = .returned (.tuple #[]) ∧ rowN w' g = some (blA (shL 1 ws) rest) ∧ w.grownBy w' (some g) := by
  have H := Lib.hid (show Calls Tryd.prog 57 #[.pointer (some ⟨g, 0, none⟩), .int .i64 1] w (fun e w' => e = .returned (.tuple #[]) ∧ rowN w' g = some (blA (shL 1 ws) rest) ∧ w.grownBy w' (some g)) from shiftBy_any 1 (by omega) ws rest g hs hw w hrow)
  clear hs hw hrow
  go_enter Tryd.func52, Tryd.ntmps52
  go_wp2_with fail
  refine H.out.mono ?_
  rintro e w1 ⟨rfl, h1, h2⟩
  have H1 := Lib.hid h1
  have H2 := Lib.hid h2
  clear h1 h2
  go_wp2_with fail
  go_end0
  exact ⟨rfl, H1.out, H2.out⟩
set_option maxRecDepth 100000 in
theorem unshift_any (ws : List Nat) (rest : Array Value) (g : Nat) (hs : ws.length = 4) (hw : W32 ws) (w : World) (hrow : rowN w g = some (blA ws rest)) :
    Calls Tryd.prog 42 #[.pointer (some ⟨g, 0, none⟩)] w fun e w' => e = .returned (.tuple #[]) ∧ rowN w' g = some (blA (shL 3 ws) rest) ∧ w.grownBy w' (some g) := by
  have H := Lib.hid (show Calls Tryd.prog 57 #[.pointer (some ⟨g, 0, none⟩), .int .i64 3] w (fun e w' => e = .returned (.tuple #[]) ∧ rowN w' g = some (blA (shL 3 ws) rest) ∧ w.grownBy w' (some g)) from shiftBy_any 3 (by omega) ws rest g hs hw w hrow)
  clear hs hw hrow
  go_enter Tryd.func42, Tryd.ntmps42
  go_wp2_with fail
  refine H.out.mono ?_
  rintro e w1 ⟨rfl, h1, h2⟩
  have H1 := Lib.hid h1
  have H2 := Lib.hid h2
  clear h1 h2
  go_wp2_with fail
  go_end0
  exact ⟨rfl, H1.out, H2.out⟩
set_option maxRecDepth 100000 in
theorem mix_any (ws : List Nat) (rest : Array Value) (g : Nat) (hs : ws.length = 4) (hw : W32 ws) (w : World) (hrow : rowN w g = some (blA ws rest)) :
    Calls Tryd.prog 53 #[.pointer (some ⟨g, 0, none⟩)] w fun e w' => e = .returned (.tuple #[]) ∧ rowN w' g = some (blA (ws.map mixW) rest) ∧ w.grownBy w' (some g) := by
  have H := Lib.hid (change_mix ws rest g hs hw w hrow)
  clear hs hw hrow
  go_enter Tryd.func53, Tryd.ntmps53
  go_wp2_with fail
  refine H.out.mono ?_
  rintro e w1 ⟨rfl, h1, h2⟩
  have H1 := Lib.hid h1
  have H2 := Lib.hid h2
  clear h1 h2
  go_wp2_with fail
  go_end0
  exact ⟨rfl, H1.out, H2.out⟩
theorem map_w32 {F : Nat → Nat} {ws : List Nat} (h : ∀ x, x < 4294967296 → F x < 4294967296) (hw : W32 ws) : W32 (ws.map F) := by
  intro y hy
  obtain ⟨x, hx, rfl⟩ := List.mem_map.1 hy
  exact h x (hw x hx)
def umL (ws : List Nat) : List Nat := (ws.map umW).map mixW
set_option maxRecDepth 100000 in
theorem unmix_any (ws : List Nat) (rest : Array Value) (g : Nat) (hs : ws.length = 4) (hw : W32 ws) (w : World) (hrow : rowN w g = some (blA ws rest)) :
    Calls Tryd.prog 44 #[.pointer (some ⟨g, 0, none⟩)] w fun e w' => e = .returned (.tuple #[]) ∧ rowN w' g = some (blA (umL ws) rest) ∧ w.grownBy w' (some g) := by
  have H := Lib.hid (change_um ws rest g hs hw w hrow)
  have HX := Lib.hid (fun W h => mix_any (ws.map umW) rest g (by rw [List.length_map]; exact hs) (map_w32 (fun _ => umW_lt) hw) W h)
  clear hs hw hrow
  go_enter Tryd.func44, Tryd.ntmps44
  go_wp2_with fail
  refine H.out.mono ?_
  rintro e w1 ⟨rfl, h1, h2⟩
  have H1 := Lib.hid h1
  have H2 := Lib.hid h2
  clear h1 h2
  go_wp2_with fail
  refine (HX.out _ H1.out).mono ?_
  rintro e w2 ⟨rfl, h1, h2⟩
  have H3 := Lib.hid h1
  have H4 := Lib.hid (grownBy_trans H2.out h2)
  clear h1 h2
  go_wp2_with fail
  go_end0
  exact ⟨rfl, H3.out, H4.out⟩
end Go.Proofs.YtjcdbjapadgdfaaDoor
