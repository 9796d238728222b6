/- AES: known. -/
import Derived.Test.YtfmmokcniechcaaDoorAP
namespace Go.Proofs.YtfmmokcniechcaaDoor
open Go.RowKit Go.Shelf

attribute [local go_sem] Oper.semAt_some
theorem run_made16 (W : World) : (Instr.makeSlice 25 (.int .i64 16) (.int .i64 16)).run Tryd.prog W = .ok (.slice (some ⟨W.heap.size, 0, none⟩) 16 16) (W.alloc (.cells (arr .u8 (zr 16)) 5)) := by
  obtain ⟨i0, hi, hz0, hz1, hz2⟩ := info_parts Tryd.info5
  rw [run_makeSlice W 25 5 i0 (.int .u8 0) Tryd.underlying25 hi hz0 .i64 .i64 16 16 (by omega) (by omega) (by rw [hz1]; omega) (by rw [hz2]; decide) (by omega), hz1, arr_lit, zr_eq, List.map_replicate]
  kernel_rfl
/-- The first n bytes are m·i. -/
def kfl (n m : Nat) : List Nat := (List.range 16).map fun i => if i < n then m * i else 0
theorem kfl_len (n m : Nat) : (kfl n m).length = 16 := by simp [kfl]
theorem kfl_zero (m : Nat) : kfl 0 m = zr 16 := by rw [zr_eq]; rfl
theorem kfl_set {n m : Nat} (h : n < 16) : (kfl n m).set n (m * n) = kfl (n + 1) m := by
  refine List.ext_getElem (by simp [kfl]) fun i h1 h2 => ?_
  have hi : i < 16 := by rw [kfl_len] at h2; exact h2
  rw [List.getElem_set]
  simp only [kfl, List.getElem_map, List.getElem_range]
  split
  · subst_vars; rw [if_pos (by omega)]
  · rename_i hne
    by_cases hlt : i < n
    · rw [if_pos hlt, if_pos (by omega)]
    · rw [if_neg hlt, if_neg (by omega)]
theorem kfl_256 {m : Nat} (hm : m ≤ 17) (n : Nat) : ∀ x ∈ kfl n m, x < 256 := by
  intro x hx
  simp only [kfl, List.mem_map, List.mem_range] at hx
  obtain ⟨i, hi, rfl⟩ := hx
  split
  · have : m * i ≤ 17 * i := Nat.mul_le_mul_right _ hm
    omega
  · omega
attribute [irreducible] kfl
def ans : List Nat := [105, 196, 224, 216, 106, 123, 4, 48, 216, 205, 183, 128, 112, 180, 197, 90]
theorem ans16 : bytesL (encS (wordsL (kfl 16 1)) (wordsL (kfl 16 17)) 11) = ans := by decide +kernel
/-- A block of bytes that nothing has frozen, with its type. -/
def RowT (W : World) (g : Nat) (l : List Nat) : Prop := W.heap[g]? = some (.cells (arr .u8 l) 5 (0, 0))
theorem RowT.row {W : World} {g : Nat} {l : List Nat} (h : RowT W g l) : rowN W g = some (arr .u8 l) := by
  unfold rowN; rw [show W.heap[g]? = _ from h]; simp
theorem RowT.set {W : World} {g : Nat} {l : List Nat} (h : RowT W g l) (i x : Nat) : RowT (W.setCell ⟨g, i, none⟩ (.int .u8 (x : Nat))) g (l.set i x) := by
  have := heap_setCell_same W g i (arr .u8 l) 5 (.int .u8 (x : Nat)) h
  rw [arr_set] at this; exact this
theorem RowT.other {W : World} {g g' : Nat} {l : List Nat} (h : RowT W g l) (i : Nat) (u : Value) (hne : g ≠ g') : RowT (W.setCell ⟨g', i, none⟩ u) g l :=
  (heap_setCell_other W ⟨g', i, none⟩ g u hne).trans h
theorem RowT.lt {W : World} {g : Nat} {l : List Nat} (h : RowT W g l) : g < W.heap.size := (Array.getElem?_eq_some_iff.1 h).1
theorem RowT.kept {n : Nat} {W V : World} {g : Nat} {l : List Nat} (h : RowT W g l) (hb : Below n W V) (hn : g < n) : RowT V g l := (hb.block g hn).trans h
theorem RowT.owns {W : World} {g base : Nat} {l : List Nat} (h : RowT W g l) (hb : base ≤ g) (n : Nat) (hl : l.length = n) (hn : n ≤ 1000) : W.ownsRow base 5 1 (.slice (some ⟨g, 0, none⟩) n n) l.length (cl l) :=
  ⟨by rw [cl_len, Nat.mul_one], .inr ⟨g, n, arr .u8 l, by rw [hl], hb, h, by omega, by unfold maxLen; omega, by rw [arr_size, hl, Nat.mul_one], by rw [arr_toList, Nat.mul_one, List.take_of_length_le (by simp)]; rfl⟩⟩
def KnR (gk gb : Nat) (w0 : World) (i : Value) (wr : World) : Prop :=
  ∃ k : Nat, k ≤ 16 ∧ i = .int .i64 (k : Nat) ∧ RowT wr gk (kfl k 1) ∧ RowT wr gb (kfl k 17) ∧ Below w0.heap.size w0 wr
theorem str_ans : strOf ans = { data := #[105, 196, 224, 216, 106, 123, 4, 48, 216, 205, 183, 128, 112, 180, 197, 90] } := by rfl
theorem run_eqp24 (g : Nat) (W : World) : (binOp BinOp.eql 26 (.pointer (some ⟨g, 0, none⟩)) (.pointer none)).run Tryd.prog W = .ok (.bool false) W := by kernel_rfl
set_option maxRecDepth 100000 in
set_option maxHeartbeats 8000000 in
theorem known_any (w : World) : Calls Tryd.prog 10 #[] w fun e w' => e = .returned (.bool true) ∧ Below w.heap.size w w' := by
  have hmk := run_made16
  have hzs : (arr .u8 (zr 16)).size = 16 := by rw [arr_size, zr_len]
  go_enter Tryd.func10, Tryd.ntmps10
  go_upto_region 1 with fail
  go_region
  · obtain ⟨V, hV⟩ : ∃ V, ((w.alloc (.cells (arr .u8 (zr 16)) 5)).alloc (.cells (arr .u8 (zr 16)) 5)).drew = V := ⟨_, rfl⟩
    have hbV : Below w.heap.size w V := by rw [← hV]; exact (((Below.refl _ w).alloc (Nat.le_refl _) _).alloc (by simp) _).drew
    have h0 : RowT V w.heap.size (zr 16) := by
      rw [← hV]
      exact (heap_alloc_old _ _ (by simp)).trans (heap_alloc_new w _)
    have h1 : RowT V (w.heap.size + 1) (zr 16) := by
      rw [← hV]
      have := heap_alloc_new (w.alloc (.cells (arr .u8 (zr 16)) 5)) (.cells (arr .u8 (zr 16)) 5)
      rw [World.size_alloc] at this; exact this
    rw [hV]
    obtain ⟨gk, hgk⟩ : ∃ z, w.heap.size = z := ⟨_, rfl⟩
    obtain ⟨gb, hgb⟩ : ∃ z, w.heap.size + 1 = z := ⟨_, rfl⟩
    have hne : gk ≠ gb := by omega
    have hgk0 : w.heap.size ≤ gk := by omega
    have hgb0 : w.heap.size ≤ gb := by omega
    have HI0 := Lib.hid (show KnR gk gb w (.int .i64 0) V from ⟨0, by omega, rfl, by rw [kfl_zero, ← hgk]; exact h0, by rw [kfl_zero, ← hgb]; exact h1, hbV⟩)
    clear hV hbV h0 h1 hmk
    first | rw [hgb, hgk] | rw [hgk, hgb]
    have HNE := Lib.hid hne
    have HGK := Lib.hid hgk0
    have HGB := Lib.hid hgb0
    clear hgk hgb hne hgk0 hgb0
    go_wp2_with fail
    go_loopw [3] (fun i wr => KnR gk gb w i wr) (fun i _ => 16 - (intOf i).toNat)
    case atStart => exact HI0.out
    case round =>
      obtain ⟨k, hk, rfl, hr, hrb, hB⟩ := hrel
      have HR := Lib.hid hr
      have HRB := Lib.hid hrb
      have HB := Lib.hid hB
      by_cases hlt : k < 16
      · have hk4 : ((k : Nat) : Int) < 16 := by omega
        have e1 : IntKind.u8.wrap ((k : Nat) : Int) = ((1 * k : Nat) : Int) := by rw [IntKind.wrap_u8]; omega
        have e2 : IntKind.u8.wrap (17 * ((k : Nat) : Int)) = ((17 * k : Nat) : Int) := by rw [IntKind.wrap_u8]; omega
        have c1 := cell_arr hr.row (show k < (kfl k 1).length by rw [kfl_len]; omega)
        have c2 := cell_arr hrb.row (show k < (kfl k 17).length by rw [kfl_len]; omega)
        have f1 := (rowN_cell hr.row).2 k
        have f2 := (rowN_cell hrb.row).2 k
        have hne := HNE.out
        have hne' := HNE.out.symm
        clear hr hrb hB
        go_wp2_with fail
        have e17 : ((17 * k : Nat) : Int) = 17 * (k : Int) := by omega
        have a1 := (HR.out.set k k).other (g' := gb) k (.int .u8 (17 * (k : Int))) HNE.out
        have a2 := (HRB.out.other (g' := gk) k (.int .u8 (k : Nat)) HNE.out.symm).set k (17 * k)
        rw [e17] at a2
        have s1 := kfl_set (m := 1) hlt
        rw [Nat.one_mul] at s1
        rw [s1] at a1
        rw [kfl_set hlt] at a2
        exact ⟨⟨k + 1, by omega, rfl, a1, a2, (HB.out.setCell (p := ⟨gk, k, none⟩) HGK.out _).setCell (p := ⟨gb, k, none⟩) HGB.out _⟩, by simp [intOf]; omega⟩
      · obtain rfl : k = 16 := by omega
        have hbk := bytes_row (kfl_256 (by omega) 16) hr.row 16 (kfl_len _ _)
        have HN1 := Lib.hid (new_any (kfl 16 1) _ (kfl_len _ _) wr hbk)
        have HK0 := Lib.hid hbk
        have hs15 : ∀ W, (Instr.sliceAt 25 (.slice (some ⟨gk, 0, none⟩) 16 16) none (some (.int .i64 15)) none).run Tryd.prog W = .ok (.slice (some ⟨gk, 0, none⟩) 15 16) W := fun W => run_slice22_h (some ⟨gk, 0, none⟩) 16 16 15 (by omega) (fun h => by cases h) W
        clear hr hrb hB hbk
        go_wp2_with fail
        refine HN1.out.mono ?_
        rintro e w1 ⟨g, rfl, hg, hC, hb1⟩
        have HC1 := Lib.hid hC
        have HK1 := Lib.hid (HK0.out.kept hb1)
        have HX1 := Lib.hid (HRB.out.kept hb1 HRB.out.lt)
        have HB1 := Lib.hid (bthen HB.out hb1)
        clear hC hb1 HN1 HK0
        go_wp2_with fail
        refine (new_len ((kfl 16 1).take 15) (.slice (some ⟨gk, 0, none⟩) 15 16) (by rw [List.length_take, kfl_len]; decide) w1 (bytes_take HK1.out 15 (by omega))).mono ?_
        rintro e w2 ⟨rfl, hb2⟩
        have HC2 := Lib.hid (keptW hb2 HC1.out)
        have HX2 := Lib.hid (HX1.out.kept hb2 HX1.out.lt)
        have HB2 := Lib.hid (bthen HB1.out hb2)
        clear hb2 HC1 HX1 HB1 HK1
        go_wp2_with fail
        refine (Subst_any 0 (by omega) w2).mono ?_
        rintro e w3 ⟨rfl, rfl⟩
        rw [show tb sb 0 = 99 from by decide +kernel]
        go_wp2_with fail
        refine (Subst_any 83 (by omega) w2).mono ?_
        rintro e w3 ⟨rfl, rfl⟩
        rw [show tb sb 83 = 237 from by decide +kernel]
        go_wp2_with fail
        refine (Inv_any 237 (by omega) w2).mono ?_
        rintro e w3 ⟨rfl, rfl⟩
        rw [show tb ib 237 = 83 from by decide +kernel]
        have hp24 := run_eqp24 g
        go_wp2_with fail
        have hbb := bytes_row (kfl_256 (Nat.le_refl _) 16) HX2.out.row 16 (kfl_len _ _)
        have HEN := Lib.hid (encrypt_any g (kfl 16 1) (kfl 16 17) _ (kfl_len _ _) (kfl_256 (by omega) 16) w2 HC2.out hbb)
        rw [ans16] at HEN
        clear hbb
        refine HEN.out.mono ?_
        rintro e w3 ⟨s', rfl, hby, hn0, hin, hb3⟩
        have HC3 := Lib.hid (keptW hb3 HC2.out)
        have HX3 := Lib.hid (HX2.out.kept hb3 HX2.out.lt)
        have HB3 := Lib.hid (bthen HB2.out hb3)
        have HY3 := Lib.hid hby
        have HN3 := Lib.hid hn0
        have HIN := Lib.hid hin
        have HGL := Lib.hid (show gb < w2.heap.size from HX2.out.lt)
        have HGN := Lib.hid (show g ≠ gb by have := HRB.out.lt; omega)
        clear hby hn0 hin hb3 HEN HC2 HX2 HB2
        have hwz := HB3.out.size
        have HLIT := Lib.hid (show BytesAt [0] (.slice (some ⟨w3.heap.size, 0, none⟩) 1 1) (w3.alloc (.cells #[.int .u8 (0 : Nat)] 5)) from
          bytes_row (by decide) (by rw [rowN_alloc, if_pos rfl, arr_lit]; rfl) 1 rfl)
        have HO := Lib.hid (HX3.out.owns HGB.out 16 (kfl_len _ _) (by omega))
        have hkl := kfl_len 16 17
        go_wp2_with (at_builtin; refine wpList_app rfl _ _ rfl w.heap.size rfl rfl (HO.out.alloc _) HLIT.out (fun L c e => by cases e) (by rw [kfl_len]; decide) (by simp; omega) ?_; intro v' w' hown' hgrow')
        have hgb : w3.alloc (.cells #[.int .u8 (0 : Nat)] 5) = w3.alloc (.cells #[.int .u8 (0 : Nat)] 5) := rfl
        have hb' := below_owned (HB3.out.alloc hwz (.cells #[.int .u8 (0 : Nat)] 5)) (HO.out.alloc _) hgrow' (by simp; omega)
        have hba : Below w3.heap.size w3 (w3.alloc (.cells #[.int .u8 (0 : Nat)] 5)) := (Below.refl _ w3).alloc (Nat.le_refl _) _
        have hC0 := keptW hba HC3.out
        have hC4 := (grownBy_rowN hgrow' (rowN_lt hC0) (fun e => by injection e with e; exact HGN.out e)).trans hC0
        have hY4 := (HY3.out.kept hba).keeps (Keeps.of_grownBy (M := fun j => j = gb) hgrow' (fun r e => by injection e with e; exact e.symm)) (fun j _ hj e => by have := HIN.out j hj; have := HGL.out; omega)
        have HBV := Lib.hid (owns_bytes (by intro x hx; rcases List.mem_append.1 hx with h | h; exact kfl_256 (Nat.le_refl _) 16 x h; simp at h; omega) hown')
        have HES := Lib.hid (enc_stops (.pointer (some ⟨g, 0, none⟩)) v' 2 (.inr rfl) w' (begin_len g (kfl 16 17 ++ [0]) v' (by rw [List.length_append, kfl_len]; decide) w' (cph_99 hC4) HBV.out))
        have HY4 := Lib.hid hY4
        have HB4 := Lib.hid hb'
        clear hb' hba hC0 hC4 hY4 hown' hgrow' hgb HY3 HB3 HC3 HX3 HBV HO HLIT
        refine HES.out.mono ?_
        rintro e w4 ⟨rfl, hb4⟩
        have hst := str_bytes (HY4.out.kept hb4) HN3.out
        rw [str_ans] at hst
        have HB5 := Lib.hid (bthen HB4.out hb4)
        clear hb4 HES HY4 HB4
        go_wp2_with fail
        go_ret
        exact ⟨rfl, HB5.out⟩
  · obtain ⟨V, hV⟩ : ∃ V, ((w.alloc (.cells (arr .u8 (zr 16)) 5)).alloc (.cells (arr .u8 (zr 16)) 5)).drew = V := ⟨_, rfl⟩
    have hbV : Below w.heap.size w V := by rw [← hV]; exact (((Below.refl _ w).alloc (Nat.le_refl _) _).alloc (by simp) _).drew
    have h0 : RowT V w.heap.size (zr 16) := by
      rw [← hV]
      exact (heap_alloc_old _ _ (by simp)).trans (heap_alloc_new w _)
    have h1 : RowT V (w.heap.size + 1) (zr 16) := by
      rw [← hV]
      have := heap_alloc_new (w.alloc (.cells (arr .u8 (zr 16)) 5)) (.cells (arr .u8 (zr 16)) 5)
      rw [World.size_alloc] at this; exact this
    rw [hV]
    obtain ⟨gk, hgk⟩ : ∃ z, w.heap.size + 1 = z := ⟨_, rfl⟩
    obtain ⟨gb, hgb⟩ : ∃ z, w.heap.size = z := ⟨_, rfl⟩
    have hne : gk ≠ gb := by omega
    have hgk0 : w.heap.size ≤ gk := by omega
    have hgb0 : w.heap.size ≤ gb := by omega
    have HI0 := Lib.hid (show KnR gk gb w (.int .i64 0) V from ⟨0, by omega, rfl, by rw [kfl_zero, ← hgk]; exact h1, by rw [kfl_zero, ← hgb]; exact h0, hbV⟩)
    clear hV hbV h0 h1 hmk
    first | rw [hgb, hgk] | rw [hgk, hgb]
    have HNE := Lib.hid hne
    have HGK := Lib.hid hgk0
    have HGB := Lib.hid hgb0
    clear hgk hgb hne hgk0 hgb0
    go_wp2_with fail
    go_loopw [3] (fun i wr => KnR gk gb w i wr) (fun i _ => 16 - (intOf i).toNat)
    case atStart => exact HI0.out
    case round =>
      obtain ⟨k, hk, rfl, hr, hrb, hB⟩ := hrel
      have HR := Lib.hid hr
      have HRB := Lib.hid hrb
      have HB := Lib.hid hB
      by_cases hlt : k < 16
      · have hk4 : ((k : Nat) : Int) < 16 := by omega
        have e1 : IntKind.u8.wrap ((k : Nat) : Int) = ((1 * k : Nat) : Int) := by rw [IntKind.wrap_u8]; omega
        have e2 : IntKind.u8.wrap (17 * ((k : Nat) : Int)) = ((17 * k : Nat) : Int) := by rw [IntKind.wrap_u8]; omega
        have c1 := cell_arr hr.row (show k < (kfl k 1).length by rw [kfl_len]; omega)
        have c2 := cell_arr hrb.row (show k < (kfl k 17).length by rw [kfl_len]; omega)
        have f1 := (rowN_cell hr.row).2 k
        have f2 := (rowN_cell hrb.row).2 k
        have hne := HNE.out
        have hne' := HNE.out.symm
        clear hr hrb hB
        go_wp2_with fail
        have e17 : ((17 * k : Nat) : Int) = 17 * (k : Int) := by omega
        have a1 := (HR.out.set k k).other (g' := gb) k (.int .u8 (17 * (k : Int))) HNE.out
        have a2 := (HRB.out.other (g' := gk) k (.int .u8 (k : Nat)) HNE.out.symm).set k (17 * k)
        rw [e17] at a2
        have s1 := kfl_set (m := 1) hlt
        rw [Nat.one_mul] at s1
        rw [s1] at a1
        rw [kfl_set hlt] at a2
        exact ⟨⟨k + 1, by omega, rfl, a1, a2, (HB.out.setCell (p := ⟨gk, k, none⟩) HGK.out _).setCell (p := ⟨gb, k, none⟩) HGB.out _⟩, by simp [intOf]; omega⟩
      · obtain rfl : k = 16 := by omega
        have hbk := bytes_row (kfl_256 (by omega) 16) hr.row 16 (kfl_len _ _)
        have HN1 := Lib.hid (new_any (kfl 16 1) _ (kfl_len _ _) wr hbk)
        have HK0 := Lib.hid hbk
        have hs15 : ∀ W, (Instr.sliceAt 25 (.slice (some ⟨gk, 0, none⟩) 16 16) none (some (.int .i64 15)) none).run Tryd.prog W = .ok (.slice (some ⟨gk, 0, none⟩) 15 16) W := fun W => run_slice22_h (some ⟨gk, 0, none⟩) 16 16 15 (by omega) (fun h => by cases h) W
        clear hr hrb hB hbk
        go_wp2_with fail
        refine HN1.out.mono ?_
        rintro e w1 ⟨g, rfl, hg, hC, hb1⟩
        have HC1 := Lib.hid hC
        have HK1 := Lib.hid (HK0.out.kept hb1)
        have HX1 := Lib.hid (HRB.out.kept hb1 HRB.out.lt)
        have HB1 := Lib.hid (bthen HB.out hb1)
        clear hC hb1 HN1 HK0
        go_wp2_with fail
        refine (new_len ((kfl 16 1).take 15) (.slice (some ⟨gk, 0, none⟩) 15 16) (by rw [List.length_take, kfl_len]; decide) w1 (bytes_take HK1.out 15 (by omega))).mono ?_
        rintro e w2 ⟨rfl, hb2⟩
        have HC2 := Lib.hid (keptW hb2 HC1.out)
        have HX2 := Lib.hid (HX1.out.kept hb2 HX1.out.lt)
        have HB2 := Lib.hid (bthen HB1.out hb2)
        clear hb2 HC1 HX1 HB1 HK1
        go_wp2_with fail
        refine (Subst_any 0 (by omega) w2).mono ?_
        rintro e w3 ⟨rfl, rfl⟩
        rw [show tb sb 0 = 99 from by decide +kernel]
        go_wp2_with fail
        refine (Subst_any 83 (by omega) w2).mono ?_
        rintro e w3 ⟨rfl, rfl⟩
        rw [show tb sb 83 = 237 from by decide +kernel]
        go_wp2_with fail
        refine (Inv_any 237 (by omega) w2).mono ?_
        rintro e w3 ⟨rfl, rfl⟩
        rw [show tb ib 237 = 83 from by decide +kernel]
        have hp24 := run_eqp24 g
        go_wp2_with fail
        have hbb := bytes_row (kfl_256 (Nat.le_refl _) 16) HX2.out.row 16 (kfl_len _ _)
        have HEN := Lib.hid (encrypt_any g (kfl 16 1) (kfl 16 17) _ (kfl_len _ _) (kfl_256 (by omega) 16) w2 HC2.out hbb)
        rw [ans16] at HEN
        clear hbb
        refine HEN.out.mono ?_
        rintro e w3 ⟨s', rfl, hby, hn0, hin, hb3⟩
        have HC3 := Lib.hid (keptW hb3 HC2.out)
        have HX3 := Lib.hid (HX2.out.kept hb3 HX2.out.lt)
        have HB3 := Lib.hid (bthen HB2.out hb3)
        have HY3 := Lib.hid hby
        have HN3 := Lib.hid hn0
        have HIN := Lib.hid hin
        have HGL := Lib.hid (show gb < w2.heap.size from HX2.out.lt)
        have HGN := Lib.hid (show g ≠ gb by have := HRB.out.lt; omega)
        clear hby hn0 hin hb3 HEN HC2 HX2 HB2
        have hwz := HB3.out.size
        have HLIT := Lib.hid (show BytesAt [0] (.slice (some ⟨w3.heap.size, 0, none⟩) 1 1) (w3.alloc (.cells #[.int .u8 (0 : Nat)] 5)) from
          bytes_row (by decide) (by rw [rowN_alloc, if_pos rfl, arr_lit]; rfl) 1 rfl)
        have HO := Lib.hid (HX3.out.owns HGB.out 16 (kfl_len _ _) (by omega))
        have hkl := kfl_len 16 17
        go_wp2_with (at_builtin; refine wpList_app rfl _ _ rfl w.heap.size rfl rfl (HO.out.alloc _) HLIT.out (fun L c e => by cases e) (by rw [kfl_len]; decide) (by simp; omega) ?_; intro v' w' hown' hgrow')
        have hgb : w3.alloc (.cells #[.int .u8 (0 : Nat)] 5) = w3.alloc (.cells #[.int .u8 (0 : Nat)] 5) := rfl
        have hb' := below_owned (HB3.out.alloc hwz (.cells #[.int .u8 (0 : Nat)] 5)) (HO.out.alloc _) hgrow' (by simp; omega)
        have hba : Below w3.heap.size w3 (w3.alloc (.cells #[.int .u8 (0 : Nat)] 5)) := (Below.refl _ w3).alloc (Nat.le_refl _) _
        have hC0 := keptW hba HC3.out
        have hC4 := (grownBy_rowN hgrow' (rowN_lt hC0) (fun e => by injection e with e; exact HGN.out e)).trans hC0
        have hY4 := (HY3.out.kept hba).keeps (Keeps.of_grownBy (M := fun j => j = gb) hgrow' (fun r e => by injection e with e; exact e.symm)) (fun j _ hj e => by have := HIN.out j hj; have := HGL.out; omega)
        have HBV := Lib.hid (owns_bytes (by intro x hx; rcases List.mem_append.1 hx with h | h; exact kfl_256 (Nat.le_refl _) 16 x h; simp at h; omega) hown')
        have HES := Lib.hid (enc_stops (.pointer (some ⟨g, 0, none⟩)) v' 2 (.inr rfl) w' (begin_len g (kfl 16 17 ++ [0]) v' (by rw [List.length_append, kfl_len]; decide) w' (cph_99 hC4) HBV.out))
        have HY4 := Lib.hid hY4
        have HB4 := Lib.hid hb'
        clear hb' hba hC0 hC4 hY4 hown' hgrow' hgb HY3 HB3 HC3 HX3 HBV HO HLIT
        refine HES.out.mono ?_
        rintro e w4 ⟨rfl, hb4⟩
        have hst := str_bytes (HY4.out.kept hb4) HN3.out
        rw [str_ans] at hst
        have HB5 := Lib.hid (bthen HB4.out hb4)
        clear hb4 HES HY4 HB4
        go_wp2_with fail
        go_ret
        exact ⟨rfl, HB5.out⟩
end Go.Proofs.YtfmmokcniechcaaDoor
