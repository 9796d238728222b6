/- AES: blockOf; the table; Substitute, Inverse. -/
import Derived.Lib.Bytealg
import Derived.Test.YtjcdbjapadgdfaaDoorAF
namespace Go.Proofs.YtjcdbjapadgdfaaDoor
open Go.RowKit

attribute [local go_sem] Oper.semAt_some
theorem getS (s : ByteArray) (x : Nat) (h : x < s.size) (hS : s.data.toList = sb.map UInt8.ofNat) : (s[x]'h).toNat = tb sb x := by
  have hl : x < sb.length := by
    have h2 : s.size = s.data.toList.length := rfl
    rw [hS, List.length_map] at h2; omega
  have h3 : s[x]'h = (sb.map UInt8.ofNat)[x]'(by rw [List.length_map]; exact hl) := by
    have h4 : s[x]'h = s.data.toList[x]'(by rw [hS, List.length_map]; exact hl) := by rfl
    rw [h4]
    exact List.getElem_of_eq hS _
  have h5 := sb_256 _ (List.getElem_mem hl)
  rw [h3, List.getElem_map]
  unfold tb
  rw [List.getD, List.getElem?_eq_getElem hl]
  simp
  omega
theorem ib_tab : ∀ x, x < 256 → Lib.indexByte (sb.map UInt8.ofNat) ((x : Nat) : Int).toNat.toUInt8 = ((tb ib x : Nat) : Int) := by decide +kernel
/-! The table. -/
def tbl : Nat → List Nat
  | 0 => List.replicate 512 0
  | i + 1 => ((tbl i).set i (tb sb i)).set (256 + tb sb i) i
theorem tbl_len : ∀ i, (tbl i).length = 512
  | 0 => List.length_replicate
  | i + 1 => by unfold tbl; rw [List.length_set, List.length_set, tbl_len i]
theorem tbl_all : tbl 256 = sb ++ ib := by decide +kernel
def NtRel (gt g0 : Nat) (w : World) (i : Value) (wr : World) : Prop :=
  ∃ k : Nat, k ≤ 256 ∧ i = .int .i64 (k : Nat) ∧ rowN wr gt = some (arr .u8 (tbl k)) ∧ rowN wr g0 = some (arr .u8 (zr 512)) ∧ Below w.heap.size w wr
set_option maxRecDepth 100000 in
set_option maxHeartbeats 1000000 in
theorem newTable_any (w : World) : Calls Tryd.prog 47 #[] w fun e w' => e = .returned (.agg (arr .u8 (sb ++ ib))) ∧ Below w.heap.size w w' := by
  have sz5 : (arr .u8 (zr 512)).size = 512 := by rw [arr_size, zr_len]
  go_enter Tryd.func47, Tryd.ntmps47
  go_wp2_with fail
  obtain ⟨V, hV⟩ : ∃ V, (w.alloc (.cells (arr .u8 (zr 512)) 75)).alloc (.cells (arr .u8 (zr 512)) 75) = V := ⟨_, rfl⟩
  have hbV : Below w.heap.size w V := by rw [← hV]; exact ((Below.refl _ w).alloc (Nat.le_refl _) _).alloc (by simp) _
  have hr1 : rowN V (w.heap.size + 1) = some (arr .u8 (zr 512)) := by rw [← hV, rowN_alloc, if_pos (by simp)]
  have hr0 : rowN V w.heap.size = some (arr .u8 (zr 512)) := by rw [← hV, rowN_alloc, if_neg (by simp), rowN_alloc, if_pos rfl]
  have HI0 := Lib.hid (show NtRel (w.heap.size + 1) w.heap.size w (.int .i64 0) V from ⟨0, by omega, rfl, by rw [hr1, zr_eq]; rfl, hr0, hbV⟩)
  rw [hV]
  clear hV hbV hr1 hr0
  go_loopw [4] (fun i wr => NtRel (w.heap.size + 1) w.heap.size w i wr) (fun i _ => 256 - (intOf i).toNat)
  case atStart => exact HI0.out
  case round =>
    obtain ⟨k, hk, rfl, hr, hr0, hB⟩ := hrel
    have HR := Lib.hid hr
    have HR0 := Lib.hid hr0
    have HB := Lib.hid hB
    by_cases hlt : k < 256
    · have hk4 : ((k : Nat) : Int) < 256 := by omega
      have hs := tb_256 sb_256 k
      have ek : IntKind.u8.wrap ((k : Nat) : Int) = ((k : Nat) : Int) := by rw [IntKind.wrap_u8]; omega
      have c1 := cell_arr hr (show k < (tbl k).length by rw [tbl_len]; omega)
      have c2 := cell_arr hr (show 256 + tb sb k < (tbl k).length by rw [tbl_len]; omega)
      have f1 := (rowN_cell hr).2 k
      have f2 := (rowN_cell hr).2 (256 + tb sb k)
      have HNX := Lib.hid (show tbl (k + 1) = ((tbl k).set k (tb sb k)).set (256 + tb sb k) k from rfl)
      clear hr hr0 hB
      go_upto_region 6 with fail
      rw [getS _ k _ (by kernel_rfl)]
      obtain ⟨s, hss⟩ : ∃ s, tb sb k = s := ⟨_, rfl⟩
      rw [hss] at hs c2 f2 HNX ⊢
      have hs4 : ((s : Nat) : Int) < 256 := by omega
      have hne1 : ¬ k = 256 + s := by omega
      have hne2 : ¬ 256 + s = k := by omega
      clear hss
      go_wp2_with fail
      refine ⟨⟨k + 1, by omega, rfl, ?_, row_cell0 (row_cell0 HR0.out (by omega)) (by omega), (HB.out.setCell (p := ⟨w.heap.size + 1, k, none⟩) (by show w.heap.size ≤ w.heap.size + 1; omega) _).setCell (p := ⟨w.heap.size + 1, 256 + s, none⟩) (by show w.heap.size ≤ w.heap.size + 1; omega) _⟩, by simp [intOf]; omega⟩
      rw [HNX.out]
      exact row_arr (row_arr HR.out)
    · obtain rfl : k = 256 := by omega
      rw [tbl_all] at hr
      have sz6 : (arr .u8 (sb ++ ib)).size = 512 := by rw [arr_size, List.length_append, sb_len, ib_len]
      have hl6 : (sb ++ ib).length = 512 := by rw [List.length_append, sb_len, ib_len]
      have HR2 := Lib.hid hr
      clear hB HR
      go_wp2_with fail
      exact ret_arr _ _ run_loadVar34 rfl rfl rfl (row_new HR0.out) sz6 ⟨rfl, below_setRow' HB.out (Nat.le_refl _) _⟩

/-! blockOf. -/
def wdF (l : List Nat) : Nat := l.foldl (fun a b => a * 256 + b) 0
def blK (zs : List Nat) (i : Nat) : List Nat := [wdF ((zs.take i).take 4), wdF (((zs.take i).drop 4).take 4), wdF (((zs.take i).drop 8).take 4), wdF (((zs.take i).drop 12).take 4)]
def wordsL (zs : List Nat) : List Nat := blK zs 16
theorem blK_zero (zs : List Nat) : blK zs 0 = [0, 0, 0, 0] := by unfold blK; simp [wdF]
theorem blK_len (zs : List Nat) (i : Nat) : (blK zs i).length = 4 := rfl
theorem sixteen {zs : List Nat} (h : zs.length = 16) : ∃ a b c d e f g h i j k l m n o p, zs = [a, b, c, d, e, f, g, h, i, j, k, l, m, n, o, p] := by
  match zs, h with
  | [a, b, c, d, e, f, g, h, i, j, k, l, m, n, o, p], _ => exact ⟨a, b, c, d, e, f, g, h, i, j, k, l, m, n, o, p, rfl⟩
theorem blK_step {zs : List Nat} (hl : zs.length = 16) (h256 : ∀ x ∈ zs, x < 256) {i : Nat} (hi : i < 16) :
    (blK zs i).getD (i / 4) 0 < 16777216 ∧ (blK zs i).set (i / 4) ((blK zs i).getD (i / 4) 0 * 256 + zs.getD i 0) = blK zs (i + 1) := by
  obtain ⟨a, b, c, d, e, f, g, h, q, j, k, l, m, n, o, p, rfl⟩ := sixteen hl
  simp only [List.mem_cons, List.not_mem_nil, or_false, forall_eq_or_imp, forall_eq] at h256
  obtain ⟨ha, hb, hc, hd, he, hf, hg, hh, hq, hj, hk, hll, hm, hn, ho, hp⟩ := h256
  rcases (by omega : i = 0 ∨ i = 1 ∨ i = 2 ∨ i = 3 ∨ i = 4 ∨ i = 5 ∨ i = 6 ∨ i = 7 ∨ i = 8 ∨ i = 9 ∨ i = 10 ∨ i = 11 ∨ i = 12 ∨ i = 13 ∨ i = 14 ∨ i = 15) with rfl | rfl | rfl | rfl | rfl | rfl | rfl | rfl | rfl | rfl | rfl | rfl | rfl | rfl | rfl | rfl <;> refine ⟨?_, rfl⟩ <;> simp [blK, wdF] <;> omega
theorem or_low (x y : Nat) (hy : y < 256) : (x * 256) ||| y = x * 256 + y := by
  have h := step_or x 0 0 y (by omega) hy
  simpa using h
def BoRel (zs : List Nat) (g1 g0 : Nat) (w : World) (i : Value) (wr : World) : Prop :=
  ∃ k : Nat, k ≤ 16 ∧ i = .int .i64 (k : Nat) ∧ rowN wr g1 = some (arr .u32 (blK zs k)) ∧ rowN wr g0 = some (arr .u32 (zr 4)) ∧ Below w.heap.size w wr
set_option maxRecDepth 100000 in
set_option maxHeartbeats 1000000 in
theorem blockOf_any (zs : List Nat) (s : Value) (hl : zs.length = 16) (w : World) (hB : BytesAt zs s w) : Calls Tryd.prog 49 #[s] w fun e w' => e = .returned (.agg (arr .u32 (wordsL zs))) ∧ Below w.heap.size w w' := by
  have HB0 := Lib.hid hB
  obtain ⟨h256, a, c, rfl, hcap, hcell⟩ := hB
  rw [hl] at hcell ⊢
  obtain ⟨b, off, rfl, hb, hcc⟩ : ∃ b off, a = some ⟨b, off, none⟩ ∧ b < w.heap.size ∧ ∀ j, j < 16 → w.cell? ⟨b, off + j, none⟩ = some (.int .u8 (zs.getD j 0 : Nat)) := by
    rcases hcell with h | h
    · omega
    · exact h
  have HC := Lib.hid hcc
  have HL := Lib.hid hl
  have H256 := Lib.hid h256
  have sz4 : (arr .u32 (zr 4)).size = 4 := by rw [arr_size, zr_len]
  clear hcell hcc hl h256 hcap
  go_enter Tryd.func49, Tryd.ntmps49
  go_wp2_with fail
  obtain ⟨V, hV⟩ : ∃ V, (w.alloc (.cells (arr .u32 (zr 4)) 72)).alloc (.cells (arr .u32 (zr 4)) 72) = V := ⟨_, rfl⟩
  have hbV : Below w.heap.size w V := by rw [← hV]; exact ((Below.refl _ w).alloc (Nat.le_refl _) _).alloc (by simp) _
  have hr1 : rowN V (w.heap.size + 1) = some (arr .u32 (zr 4)) := by rw [← hV, rowN_alloc, if_pos (by simp)]
  have hr0 : rowN V w.heap.size = some (arr .u32 (zr 4)) := by rw [← hV, rowN_alloc, if_neg (by simp), rowN_alloc, if_pos rfl]
  have HI0 := Lib.hid (show BoRel zs (w.heap.size + 1) w.heap.size w (.int .i64 0) V from ⟨0, by omega, rfl, by rw [hr1, blK_zero, zr_eq]; rfl, hr0, hbV⟩)
  rw [hV]
  clear hV hbV hr1 hr0
  go_loopw [9] (fun i wr => BoRel zs (w.heap.size + 1) w.heap.size w i wr) (fun i _ => 16 - (intOf i).toNat)
  case atStart => exact HI0.out
  case round =>
    obtain ⟨k, hk, rfl, hr, hr0, hB⟩ := hrel
    have HR := Lib.hid hr
    have HR0 := Lib.hid hr0
    have HB := Lib.hid hB
    by_cases hlt : k < 16
    · have hk4 : ((k : Nat) : Int) < 16 := by omega
      have hst := blK_step HL.out H256.out hlt
      have hc0 : wr.cell? ⟨b, off + k, none⟩ = some (.int .u8 (zs.getD k 0 : Nat)) := (hB.cell (p := ⟨b, off + k, none⟩) hb).trans (HC.out k hlt)
      have c1 := cell_arr hr (show k / 4 < (blK zs k).length by rw [blK_len]; omega)
      have f1 := (rowN_cell hr).2 (k / 4)
      have hy : zs.getD k 0 < 256 := byte_lt H256.out k
      obtain ⟨q, hq⟩ : ∃ q, k / 4 = q := ⟨_, rfl⟩
      rw [hq] at hst c1 f1
      have hq1 : ((k : Nat) : Int) / 4 = ((q : Nat) : Int) := by omega
      have hq2 : ((k : Nat) : Int).tdiv 4 = ((q : Nat) : Int) := by rw [Int.tdiv_eq_ediv_of_nonneg (by omega)]; omega
      have hq3 : ((q : Nat) : Int) < 4 := by omega
      obtain ⟨x, hx⟩ : ∃ x, (blK zs k).getD q 0 = x := ⟨_, rfl⟩
      obtain ⟨y, hyy⟩ : ∃ y, zs.getD k 0 = y := ⟨_, rfl⟩
      rw [hx] at hst c1
      rw [hyy] at hst hc0 hy
      have HSET := Lib.hid hst.2
      have hxl := hst.1
      have e1 : ((x : Nat) : Int) * 256 % 4294967296 = ((x * 256 : Nat) : Int) := by omega
      have e2 : bits BinOp.or IntKind.u32 ((x * 256 : Nat) : Int) ((y : Nat) : Int) = ((x * 256 + y : Nat) : Int) := by
        rw [bits_or32 _ _ (by omega) (by omega), or_low _ _ hy]
      have e3 : ((x * 256 : Nat) : Int) = ((x : Nat) : Int) * 256 := by omega
      rw [e3] at e1 e2
      clear hr hr0 hB hst hx hyy e3 hq
      go_wp2_with fail
      refine ⟨⟨k + 1, by omega, rfl, ?_, row_cell0 HR0.out (by omega), HB.out.setCell (p := ⟨w.heap.size + 1, q, none⟩) (by show w.heap.size ≤ w.heap.size + 1; omega) _⟩, by simp [intOf]; omega⟩
      rw [← HSET.out]
      exact row_arr HR.out
    · obtain rfl : k = 16 := by omega
      have sz6 : (arr .u32 (wordsL zs)).size = 4 := by rw [arr_size]; rfl
      have hl6 : (wordsL zs).length = 4 := rfl
      have hr2 : rowN wr (w.heap.size + 1) = some (arr .u32 (wordsL zs)) := hr
      clear hB HR hr
      go_wp2_with fail
      exact ret_arr _ _ run_loadVar37 rfl rfl rfl (row_new HR0.out) sz6 ⟨rfl, below_setRow' HB.out (Nat.le_refl _) _⟩
end Go.Proofs.YtjcdbjapadgdfaaDoor
