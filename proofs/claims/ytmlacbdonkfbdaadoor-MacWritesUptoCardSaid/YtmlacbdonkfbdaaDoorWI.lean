/- package mac: Truncated, Check. -/
import Derived.Test.YtmlacbdonkfbdaaDoorWH
namespace Go.Proofs.YtmlacbdonkfbdaaDoor
open Go.RowKit Go.Shelf

attribute [local go_sem] Oper.semAt_some
theorem arr27 : Tryd.prog.arrayLen 27 = 32 ∧ Tryd.prog.elem 27 = 5 ∧ Tryd.prog.underlying 27 = some (.array (Tryd.prog.arrayLen 27) (Tryd.prog.elem 27)) := ⟨by kernel_rfl, by kernel_rfl, by kernel_rfl⟩
theorem run_slice27_hm (g k : Nat) (hk : k ≤ 32) (W : World) : (Instr.sliceAt 27 (.pointer (some ⟨g, 0, none⟩)) none (some (.int .i64 (k : Nat))) (some (.int .i64 (k : Nat)))).run Tryd.prog W = .ok (.slice (some ⟨g, 0, none⟩) k k) W := by
  obtain ⟨h1, h2, h3⟩ := arr27
  rw [run_sliceAt_array_hm W 27 _ h3 _ _ _ _ (by omega) (by omega) (by rw [h1]; omega), h2, Tryd.sizeOf5]
  simp [slicedAt, Addr.add]
theorem run_slice27_h (g k : Nat) (hk : k ≤ 32) (W : World) : (Instr.sliceAt 27 (.pointer (some ⟨g, 0, none⟩)) none (some (.int .i64 (k : Nat))) none).run Tryd.prog W = .ok (.slice (some ⟨g, 0, none⟩) k 32) W := by
  obtain ⟨h1, h2, h3⟩ := arr27
  rw [run_sliceAt_array_h W 27 _ h3 _ _ (by omega) (by rw [h1]; omega), h2, h1, Tryd.sizeOf5]
  simp [slicedAt, Addr.add]
theorem bytes_take_row {W : World} {g c : Nat} {l : List Nat} (h256 : ∀ x ∈ l, x < 256) (h : rowN W g = some (arr .u8 l)) (n : Nat) (hn : n ≤ l.length) (hc : n ≤ c) : BytesAt (l.take n) (.slice (some ⟨g, 0, none⟩) n c) W := by
  have hl : (l.take n).length = n := by rw [List.length_take]; omega
  refine ⟨fun x hx => h256 x (List.mem_of_mem_take hx), _, c, by rw [hl], by omega, .inr ⟨g, 0, rfl, rowN_lt h, fun j hj => ?_⟩⟩
  rw [hl] at hj
  rw [Nat.zero_add, cell_arr h (show j < l.length by omega)]
  simp [List.getD, hj]
theorem macL_len (key zs : List Nat) : (macL key zs).length = 32 := shaL_len _
theorem macL_256 (key zs : List Nat) : ∀ x ∈ macL key zs, x < 256 := shaL_256 _

set_option maxRecDepth 100000 in
theorem trunc_no (n : Int) (h : n < 1 ∨ 32 < n) (s v : Value) (w : World) : Calls Tryd.prog 11 #[.int .i64 n, s, v] w fun e w' => e = .returned (.tuple #[.slice none 0 0, .int .i64 2]) ∧ Below w.heap.size w w' := by
  have HI := Lib.hid (fun W => isLength_no n h W)
  clear h
  go_enter Tryd.func11, Tryd.ntmps11
  go_wp2_with fail
  refine (HI.out _).mono ?_
  rintro e w2 ⟨rfl, hb⟩
  have HB := Lib.hid hb
  clear hb HI
  go_wp2_with fail
  go_ret2
  exact ⟨rfl, HB.out⟩
set_option maxRecDepth 100000 in
theorem trunc_big (n : Int) (h1 : 1 ≤ n) (h2 : n ≤ 32) (key : List Nat) (s v : Value) (hl : 4096 < key.length) (w : World) (hB : BytesAt key s w) : Calls Tryd.prog 11 #[.int .i64 n, s, v] w fun e w' => e = .returned (.tuple #[.slice none 0 0, .int .i64 2]) ∧ Below w.heap.size w w' := by
  have HI := Lib.hid (fun W => isLength_yes n h1 h2 W)
  have HM := Lib.hid (fun W (hb : Below w.heap.size w W) => hmac_big key s v hl W (hB.kept hb))
  have hz32 := z32_lit
  have hzl : z32.length = 32 := rfl
  have sz4 : (arr .u8 z32).size = 32 := by rw [arr_size]; rfl
  clear hB h1 h2
  go_enter Tryd.func11, Tryd.ntmps11
  go_wp2_with fail
  refine (HI.out _).mono ?_
  rintro e w2 ⟨rfl, hb2⟩
  have HB2 := Lib.hid hb2
  clear hb2 HI
  go_wp2_with fail
  refine (HM.out _ HB2.out).mono ?_
  rintro e w3 ⟨rfl, hb3⟩
  have HB3 := Lib.hid (HB2.out.trans (hb3.mono HB2.out.size))
  clear hb3 HM
  go_upto_region 4 with fail
  obtain ⟨V, hV⟩ : ∃ V, (w3.alloc (.cells (arr .u8 z32) 27)).setRow w3.heap.size (arr .u8 z32) = V := ⟨_, rfl⟩
  have hbV : Below w3.heap.size w3 V := by rw [← hV]; exact below_setRow' ((Below.refl _ _).alloc (Nat.le_refl _) _) (Nat.le_refl _) _
  have hrV : rowN V w3.heap.size = some (arr .u8 z32) := by rw [← hV]; exact row_new (cs := arr .u8 z32) (by rw [rowN_alloc, if_pos rfl])
  rw [hV]
  have HBV := Lib.hid (HB3.out.trans (hbV.mono HB3.out.size))
  have HRV := Lib.hid hrV
  clear hV hbV hrV
  go_wp2_with fail
  go_ret2
  exact ⟨rfl, HBV.out⟩
set_option maxRecDepth 100000 in
theorem trunc_any (n : Nat) (h1 : 1 ≤ n) (h2 : n ≤ 32) (key : List Nat) (ls : List (List Nat)) (s v : Value) (hl : key.length ≤ 4096) (hL : (catL ls).length ≤ 140737488355264) (hN6 : ls.length ≤ 1000000) (w : World) (hK : KG w) (hB : BytesAt key s w) (hnil : Nil0 s) (hLs : ListAt ls v w) : Calls Tryd.prog 11 #[.int .i64 (n : Nat), s, v] w fun e w' => ∃ s', e = .returned (.tuple #[s', .int .i64 0]) ∧ BytesAt ((macL key (catL ls)).take n) s' w' ∧ Nil0 s' ∧ Below w.heap.size w w' := by
  have HI := Lib.hid (fun W => isLength_yes (n : Nat) (by omega) (by omega) W)
  have HM := Lib.hid (fun W (hb : Below w.heap.size w W) => hmac_any key ls s v hl hL hN6 W (hK.kept hb) (hB.kept hb) hnil (hLs.kept hb))
  have hz32 := z32_lit
  have hzl : z32.length = 32 := rfl
  have sz4 : (arr .u8 z32).size = 32 := by rw [arr_size]; rfl
  have hO32 := macL_len key (catL ls)
  have hO256 := macL_256 key (catL ls)
  obtain ⟨O, hO⟩ : ∃ O, macL key (catL ls) = O := ⟨_, rfl⟩
  rw [hO] at HM hO32 hO256 ⊢
  have sz2 : (arr .u8 O).size = 32 := by rw [arr_size, hO32]
  have HO32 := Lib.hid hO32
  have HO256 := Lib.hid hO256
  have hs27 := fun (W : World) (g : Nat) => run_slice27_hm g n h2 W
  clear hK hB hnil hLs hO hO256
  go_enter Tryd.func11, Tryd.ntmps11
  go_wp2_with fail
  refine (HI.out _).mono ?_
  rintro e w2 ⟨rfl, hb2⟩
  have HB2 := Lib.hid hb2
  clear hb2 HI
  go_wp2_with fail
  refine (HM.out _ HB2.out).mono ?_
  rintro e w3 ⟨rfl, hb3⟩
  have HB3 := Lib.hid (HB2.out.trans (hb3.mono HB2.out.size))
  clear hb3 HM
  go_upto_region 4 with fail
  obtain ⟨V, hV⟩ : ∃ V, (w3.alloc (.cells (arr .u8 z32) 27)).setRow w3.heap.size (arr .u8 O) = V := ⟨_, rfl⟩
  have hbV : Below w3.heap.size w3 V := by rw [← hV]; exact below_setRow' ((Below.refl _ _).alloc (Nat.le_refl _) _) (Nat.le_refl _) _
  have hrV : rowN V w3.heap.size = some (arr .u8 O) := by rw [← hV]; exact row_new (cs := arr .u8 z32) (by rw [rowN_alloc, if_pos rfl])
  rw [hV]
  have HBV := Lib.hid (HB3.out.trans (hbV.mono HB3.out.size))
  have HRV := Lib.hid hrV
  clear hV hbV hrV
  go_wp2_with fail
  go_ret2
  exact ⟨_, rfl, bytes_take_row HO256.out HRV.out n (by rw [HO32.out]; exact h2) (Nat.le_refl _), (fun L c e => by cases e), HBV.out⟩
set_option maxRecDepth 100000 in
theorem check_big (key : List Nat) (s q v : Value) (hl : 4096 < key.length) (w : World) (hB : BytesAt key s w) : Calls Tryd.prog 13 #[s, q, v] w fun e w' => e = .returned (.int .i64 2) ∧ Below w.heap.size w w' := by
  have HM := Lib.hid (fun W (hb : Below w.heap.size w W) => hmac_big key s v hl W (hB.kept hb))
  have hz32 := z32_lit
  have hzl : z32.length = 32 := rfl
  have sz4 : (arr .u8 z32).size = 32 := by rw [arr_size]; rfl
  clear hB
  go_enter Tryd.func13, Tryd.ntmps13
  go_wp2_with fail
  refine (HM.out _ (Below.refl _ _)).mono ?_
  rintro e w3 ⟨rfl, hb3⟩
  have HB3 := Lib.hid hb3
  clear hb3 HM
  go_upto_region 2 with fail
  obtain ⟨V, hV⟩ : ∃ V, (w3.alloc (.cells (arr .u8 z32) 27)).setRow w3.heap.size (arr .u8 z32) = V := ⟨_, rfl⟩
  have hbV : Below w3.heap.size w3 V := by rw [← hV]; exact below_setRow' ((Below.refl _ _).alloc (Nat.le_refl _) _) (Nat.le_refl _) _
  have hrV : rowN V w3.heap.size = some (arr .u8 z32) := by rw [← hV]; exact row_new (cs := arr .u8 z32) (by rw [rowN_alloc, if_pos rfl])
  rw [hV]
  have HBV := Lib.hid (HB3.out.trans (hbV.mono HB3.out.size))
  have HRV := Lib.hid hrV
  clear hV hbV hrV
  go_wp2_with fail
  go_ret
  exact ⟨rfl, HBV.out⟩
set_option maxRecDepth 100000 in
theorem check_len (zq : List Nat) (q : Value) (hq : zq.length < 1 ∨ 32 < zq.length) (key : List Nat) (ls : List (List Nat)) (s v : Value) (hl : key.length ≤ 4096) (hL : (catL ls).length ≤ 140737488355264) (hN6 : ls.length ≤ 1000000) (w : World) (hK : KG w) (hB : BytesAt key s w) (hnil : Nil0 s) (hLs : ListAt ls v w) (hQ : BytesAt zq q w) : Calls Tryd.prog 13 #[s, q, v] w fun e w' => e = .returned (.int .i64 10) ∧ Below w.heap.size w w' := by
  have HM := Lib.hid (fun W (hb : Below w.heap.size w W) => hmac_any key ls s v hl hL hN6 W (hK.kept hb) (hB.kept hb) hnil (hLs.kept hb))
  have hz32 := z32_lit
  have hzl : z32.length = 32 := rfl
  have sz4 : (arr .u8 z32).size = 32 := by rw [arr_size]; rfl
  have hO32 := macL_len key (catL ls)
  obtain ⟨O, hO⟩ : ∃ O, macL key (catL ls) = O := ⟨_, rfl⟩
  rw [hO] at HM hO32
  have sz2 : (arr .u8 O).size = 32 := by rw [arr_size, hO32]
  obtain ⟨_, aq, cq, rfl, _, _⟩ := hQ
  obtain ⟨n, hn⟩ : ∃ n, zq.length = n := ⟨_, rfl⟩
  rw [hn] at hq ⊢
  have HI := Lib.hid (fun W => isLength_no (n : Nat) (by omega) W)
  clear hK hB hnil hLs hO hq hn
  go_enter Tryd.func13, Tryd.ntmps13
  go_wp2_with fail
  refine (HM.out _ (Below.refl _ _)).mono ?_
  rintro e w3 ⟨rfl, hb3⟩
  have HB3 := Lib.hid hb3
  clear hb3 HM
  go_upto_region 2 with fail
  obtain ⟨V, hV⟩ : ∃ V, (w3.alloc (.cells (arr .u8 z32) 27)).setRow w3.heap.size (arr .u8 O) = V := ⟨_, rfl⟩
  have hbV : Below w3.heap.size w3 V := by rw [← hV]; exact below_setRow' ((Below.refl _ _).alloc (Nat.le_refl _) _) (Nat.le_refl _) _
  have hrV : rowN V w3.heap.size = some (arr .u8 O) := by rw [← hV]; exact row_new (cs := arr .u8 z32) (by rw [rowN_alloc, if_pos rfl])
  rw [hV]
  have HBV := Lib.hid (HB3.out.trans (hbV.mono HB3.out.size))
  have HRV := Lib.hid hrV
  clear hV hbV hrV
  go_wp2_with fail
  refine (HI.out _).mono ?_
  rintro e w4 ⟨rfl, hb4⟩
  have HB4 := Lib.hid (HBV.out.trans (hb4.mono HBV.out.size))
  clear hb4 HI
  go_wp2_with fail
  go_ret
  exact ⟨rfl, HB4.out⟩
set_option maxRecDepth 100000 in
set_option maxHeartbeats 1000000 in
theorem check_any (zq : List Nat) (q : Value) (hq1 : 1 ≤ zq.length) (hq2 : zq.length ≤ 32) (key : List Nat) (ls : List (List Nat)) (s v : Value) (hl : key.length ≤ 4096) (hL : (catL ls).length ≤ 140737488355264) (hN6 : ls.length ≤ 1000000) (w : World) (hK : KG w) (hB : BytesAt key s w) (hnil : Nil0 s) (hLs : ListAt ls v w) (hQ : BytesAt zq q w) : Calls Tryd.prog 13 #[s, q, v] w fun e w' => e = .returned (.int .i64 (if zq = (macL key (catL ls)).take zq.length then 0 else 10)) ∧ Below w.heap.size w w' := by
  have HM := Lib.hid (fun W (hb : Below w.heap.size w W) => hmac_any key ls s v hl hL hN6 W (hK.kept hb) (hB.kept hb) hnil (hLs.kept hb))
  have hz32 := z32_lit
  have hzl : z32.length = 32 := rfl
  have sz4 : (arr .u8 z32).size = 32 := by rw [arr_size]; rfl
  have hO32 := macL_len key (catL ls)
  have hO256 := macL_256 key (catL ls)
  obtain ⟨O, hO⟩ : ∃ O, macL key (catL ls) = O := ⟨_, rfl⟩
  rw [hO] at HM hO32 hO256 ⊢
  have sz2 : (arr .u8 O).size = 32 := by rw [arr_size, hO32]
  have HO32 := Lib.hid hO32
  have HO256 := Lib.hid hO256
  have HQ := Lib.hid hQ
  obtain ⟨_, aq, cq, rfl, _, _⟩ := hQ
  have HE := Lib.hid (fun (W : World) (g : Nat) (h1 : BytesAt zq (.slice aq zq.length cq) W) (h2 : rowN W g = some (arr .u8 O)) => equal_any zq (O.take zq.length) (.slice aq zq.length cq) (.slice (some ⟨g, 0, none⟩) zq.length 32) (by omega) W h1 (bytes_take_row hO256 h2 _ (by omega) hq2))
  obtain ⟨n, hn⟩ : ∃ n, zq.length = n := ⟨_, rfl⟩
  rw [hn] at hq1 hq2 HE HQ ⊢
  have HI := Lib.hid (fun W => isLength_yes (n : Nat) (by omega) (by omega) W)
  have hs27 := fun (W : World) (g : Nat) => run_slice27_h g n hq2 W
  clear hK hB hnil hLs hO hn hO256
  go_enter Tryd.func13, Tryd.ntmps13
  go_wp2_with fail
  refine (HM.out _ (Below.refl _ _)).mono ?_
  rintro e w3 ⟨rfl, hb3⟩
  have HB3 := Lib.hid hb3
  clear hb3 HM
  go_upto_region 2 with fail
  obtain ⟨V, hV⟩ : ∃ V, (w3.alloc (.cells (arr .u8 z32) 27)).setRow w3.heap.size (arr .u8 O) = V := ⟨_, rfl⟩
  have hbV : Below w3.heap.size w3 V := by rw [← hV]; exact below_setRow' ((Below.refl _ _).alloc (Nat.le_refl _) _) (Nat.le_refl _) _
  have hrV : rowN V w3.heap.size = some (arr .u8 O) := by rw [← hV]; exact row_new (cs := arr .u8 z32) (by rw [rowN_alloc, if_pos rfl])
  rw [hV]
  have HBV := Lib.hid (HB3.out.trans (hbV.mono HB3.out.size))
  have HRV := Lib.hid hrV
  clear hV hbV hrV
  go_wp2_with fail
  refine (HI.out _).mono ?_
  rintro e w4 ⟨rfl, hb4⟩
  have HB4 := Lib.hid (HBV.out.trans (hb4.mono HBV.out.size))
  have HR4 := Lib.hid (keptW hb4 HRV.out)
  clear hb4 HI HRV
  go_wp2_with fail
  refine (HE.out _ _ (HQ.out.kept HB4.out) HR4.out).mono ?_
  rintro e w5 ⟨rfl, hb5⟩
  have HB5 := Lib.hid (HB4.out.trans (hb5.mono HB4.out.size))
  clear hb5 HE HR4
  by_cases hc : zq = O.take n
  · have HC := Lib.hid hc
    have hd : decide (zq = O.take n) = true := by simpa using hc
    rw [hd]
    clear hc hd
    go_wp2_with fail
    go_ret
    exact ⟨rfl, HB5.out⟩
  · have HC := Lib.hid hc
    have hd : decide (zq = O.take n) = false := by simpa using hc
    rw [hd]
    clear hc hd
    go_wp2_with fail
    go_ret
    exact ⟨rfl, HB5.out⟩
end Go.Proofs.YtmlacbdonkfbdaaDoor
