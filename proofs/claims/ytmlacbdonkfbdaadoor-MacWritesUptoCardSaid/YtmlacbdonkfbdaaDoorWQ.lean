/- MacSums walked. -/
import Derived.Deep.RegionHeld3
import Derived.Test.YtmlacbdonkfbdaaDoorWP
namespace Go.Proofs.YtmlacbdonkfbdaaDoor
open Go.RowKit Go.Shelf

attribute [local go_sem] Oper.semAt_some
theorem cat_len200 (ls : List (List Nat)) (h : ∀ l ∈ ls, l.length ≤ 200) : (catL ls).length ≤ 200 * ls.length := by
  induction ls with
  | nil => simp [catL]
  | cons l ls ih =>
    have h1 := h l (by simp)
    have h2 := ih (fun x hx => h x (by simp [hx]))
    unfold catL at h2 ⊢
    rw [List.flatten_cons, List.length_append, List.length_cons]
    omega
set_option maxRecDepth 100000 in
set_option maxHeartbeats 8000000 in
theorem sums_walk (key : List Nat) (ls : List (List Nat)) (ks v : Value) (n : Int) (w : World) (hKB : BytesAt key ks w) (hKn : Nil0 ks) (hLs : ListAt ls v w) (hN : ls.length ≤ 2000000) (hT : (catL ls).length ≤ 2000000) (h256 : ∀ l ∈ ls, ∀ x ∈ l, x < 256) (hK : KG w) (hG : RG w) :
    Calls Tryd.prog 3 #[ks, v, .int .i64 n] w fun e w' => e = .returned (.bool true) ∧ Below w.heap.size w w' := by
  have HKB := Lib.hid hKB
  have HKN := Lib.hid hKn
  have HLS := Lib.hid hLs
  have HK := Lib.hid hK
  have HG := Lib.hid hG
  have HT := Lib.hid hT
  have HN6 := Lib.hid hN
  have HJ := Lib.hid (joined_any ls v w hLs hN hT h256)
  obtain ⟨ka, kc, rfl, hkcap⟩ : ∃ a c, ks = .slice a key.length c ∧ key.length ≤ c := by obtain ⟨_, a, c, e, hc, _⟩ := hKB; exact ⟨a, c, e, hc⟩
  obtain ⟨K, hkl⟩ : ∃ K, key.length = K := ⟨_, rfl⟩
  have HKL := Lib.hid hkl
  rw [hkl] at HKB HKN hkcap ⊢
  have hz32 := z32_lit
  have hzl : z32.length = 32 := rfl
  have sz4 : (arr .u8 z32).size = 32 := by rw [arr_size]; rfl
  have hs24 := run_slice24_all
  clear hK hG hLs hKB hKn hkl hT hN h256
  go_enter Tryd.func3, Tryd.ntmps3
  go_wp2_with fail
  refine HJ.out.mono ?_
  rintro e w1 ⟨hd, hb1⟩
  have HB1 := Lib.hid hb1
  clear hb1 HJ
  rcases hd with ⟨_, rfl⟩ | ⟨hall, s', rfl, hbs, hns, _⟩
  · go_wp2_with fail
    refine (known_any _ (HK.out.kept HB1.out)).mono ?_
    rintro e w9 ⟨rfl, hb9⟩
    have HB9 := Lib.hid (HB1.out.trans (hb9.mono HB1.out.size))
    clear hb9
    go_wp2_with fail
    go_ret
    exact ⟨rfl, HB9.out⟩
  by_cases h8 : ls.length ≤ 8
  case neg =>
    have hd : decide (ls.length ≤ 8) = false := by simpa using h8
    rw [hd]
    go_wp2_with fail
    refine (known_any _ (HK.out.kept HB1.out)).mono ?_
    rintro e w9 ⟨rfl, hb9⟩
    have HB9 := Lib.hid (HB1.out.trans (hb9.mono HB1.out.size))
    clear hb9
    go_wp2_with fail
    go_ret
    exact ⟨rfl, HB9.out⟩
  have hd : decide (ls.length ≤ 8) = true := by simpa using h8
  rw [hd]
  have HS := Lib.hid hbs
  have HSN := Lib.hid hns
  have HALL := Lib.hid (cat_len200 ls hall)
  clear hbs hns hall hd
  by_cases hk200 : 200 < K
  · have hk200i : (200 : Int) < ((K : Nat) : Int) := by omega
    by_cases hk4 : K ≤ 4096
    · have hk4i : ((K : Nat) : Int) ≤ 4096 := by omega
      go_wp2_with fail
      refine (known_any _ (HK.out.kept HB1.out)).mono ?_
      rintro e w9 ⟨rfl, hb9⟩
      have HB9 := Lib.hid (HB1.out.trans (hb9.mono HB1.out.size))
      clear hb9
      go_wp2_with fail
      go_ret
      exact ⟨rfl, HB9.out⟩
    · have hk4i : ¬ ((K : Nat) : Int) ≤ 4096 := by omega
      have hk4j : (4096 : Int) < ((K : Nat) : Int) := by omega
      have HM := Lib.hid (hmac_big key (.slice ka K kc) v (by rw [HKL.out]; omega) w1 (HKB.out.kept HB1.out))
      have HT2 := Lib.hid (fun (X : World) (hb : Below w.heap.size w X) => show Calls Tryd.prog 11 #[.int .i64 n, .slice ka K kc, v] X (fun e w' => e = .returned (.tuple #[.slice none 0 0, .int .i64 2]) ∧ Below X.heap.size X w') from by
        by_cases hn : 1 ≤ n ∧ n ≤ 32
        · exact trunc_big n hn.1 hn.2 key _ _ (by rw [HKL.out]; omega) X (HKB.out.kept hb)
        · exact trunc_no n (by omega) _ _ X)
      go_wp2_with fail
      refine HM.out.mono ?_
      rintro e w2 ⟨rfl, hb2⟩
      have HB2 := Lib.hid (HB1.out.trans (hb2.mono HB1.out.size))
      clear hb2
      go_upto_region 5 with fail
      obtain ⟨V, hV⟩ : ∃ V, (w2.alloc (.cells (arr .u8 z32) 27)).setRow w2.heap.size (arr .u8 z32) = V := ⟨_, rfl⟩
      have hbV : Below w2.heap.size w2 V := by rw [← hV]; exact below_setRow' ((Below.refl _ _).alloc (Nat.le_refl _) _) (Nat.le_refl _) _
      have hrV : rowN V w2.heap.size = some (arr .u8 z32) := by rw [← hV]; exact row_new (cs := arr .u8 z32) (by rw [rowN_alloc, if_pos rfl])
      rw [hV]
      have HBV := Lib.hid (HB2.out.trans (hbV.mono HB2.out.size))
      have HRV := Lib.hid hrV
      clear hV hbV hrV
      go_wp2_with fail
      refine (HT2.out _ HBV.out).mono ?_
      rintro e w3 ⟨rfl, hb3⟩
      have hr3 := keptW hb3 HRV.out
      have HB3 := Lib.hid (HBV.out.trans (hb3.mono HBV.out.size))
      clear hb3
      go_wp2_with fail
      refine (known_any _ (HK.out.kept HB3.out)).mono ?_
      rintro e w9 ⟨rfl, hb9⟩
      have HB9 := Lib.hid (HB3.out.trans (hb9.mono HB3.out.size))
      clear hb9
      go_wp2_with fail
      go_ret
      exact ⟨rfl, HB9.out⟩
  have hk200i : ¬ (200 : Int) < ((K : Nat) : Int) := by omega
  have hk4j : ¬ (4096 : Int) < ((K : Nat) : Int) := by omega
  have HCAT := Lib.hid (show (catL ls).length ≤ 200 * ls.length from HALL.out)
  have HM := Lib.hid (hmac_any key ls (.slice ka K kc) v (by rw [HKL.out]; omega) (by have := HT.out; omega) (by omega) w1 (HK.out.kept HB1.out) (HKB.out.kept HB1.out) HKN.out (HLS.out.kept HB1.out))
  have HR := Lib.hid (fun (X : World) (hb : Below w.heap.size w X) (hs : BytesAt (catL ls) s' X) => rhmac_any key (catL ls) (.slice ka K kc) s' (by rw [HKL.out]; omega) (by
    have h1 : (catL ls).length ≤ 200 * ls.length := HCAT.out
    omega) X (HG.out.kept hb) (HKB.out.kept hb) HKN.out hs HSN.out)
  have HT3 := Lib.hid (fun (m : Nat) (h1 : 1 ≤ m) (h2 : m ≤ 32) (X : World) (hb : Below w.heap.size w X) => trunc_any m h1 h2 key ls (.slice ka K kc) v (by rw [HKL.out]; omega) (by have := HT.out; omega) (by omega) X (HK.out.kept hb) (HKB.out.kept hb) HKN.out (HLS.out.kept hb))
  have HT2 := Lib.hid (fun (h : n < 1 ∨ 32 < n) (X : World) => trunc_no n h (.slice ka K kc) v X)
  have hO32 := macL_len key (catL ls)
  have hO256 := Lib.hid (macL_256 key (catL ls))
  obtain ⟨O, hO⟩ : ∃ O, macL key (catL ls) = O := ⟨_, rfl⟩
  rw [hO] at HM HR HT3 hO32 hO256
  have HO32 := Lib.hid hO32
  have sz2 : (arr .u8 O).size = 32 := by rw [arr_size, hO32]
  clear hO
  go_wp2_with fail
  refine HM.out.mono ?_
  rintro e w2 ⟨rfl, hb2⟩
  have HB2 := Lib.hid (HB1.out.trans (hb2.mono HB1.out.size))
  have HS2 := Lib.hid (HS.out.kept hb2)
  clear hb2
  go_upto_region 5 with fail
  obtain ⟨V, hV⟩ : ∃ V, (w2.alloc (.cells (arr .u8 z32) 27)).setRow w2.heap.size (arr .u8 O) = V := ⟨_, rfl⟩
  have hbV : Below w2.heap.size w2 V := by rw [← hV]; exact below_setRow' ((Below.refl _ _).alloc (Nat.le_refl _) _) (Nat.le_refl _) _
  have hrV : rowN V w2.heap.size = some (arr .u8 O) := by rw [← hV]; exact row_new (cs := arr .u8 z32) (by rw [rowN_alloc, if_pos rfl])
  rw [hV]
  have HBV := Lib.hid (HB2.out.trans (hbV.mono HB2.out.size))
  have HSV := Lib.hid (HS2.out.kept hbV)
  obtain ⟨g9, hg9⟩ : ∃ g, w2.heap.size = g := ⟨_, rfl⟩
  rw [hg9] at hrV ⊢
  have HRV := Lib.hid hrV
  clear hV hbV hrV hg9
  by_cases hn : 1 ≤ n ∧ n ≤ 32
  · obtain ⟨m, rfl⟩ := Int.eq_ofNat_of_zero_le (show 0 ≤ n by omega)
    have hm1 : 1 ≤ m := by omega
    have hm2 : m ≤ 32 := by omega
    have hn1 : ¬ ((m : Nat) : Int) < 1 := by omega
    have hn2 : ¬ (32 : Int) < ((m : Nat) : Int) := by omega
    have hsh := fun (W : World) (g : Nat) => run_slice22_h (some ⟨g, 0, none⟩) 32 32 m hm2 (fun h => by cases h) W
    go_wp2_with fail
    refine (HT3.out m hm1 hm2 _ HBV.out).mono ?_
    rintro e w3 ⟨s8, rfl, hb8, hn8, hb3⟩
    have HT8N := Lib.hid hn8
    have HT8 := Lib.hid hb8
    clear hb8 hn8
    have hr3 := keptW hb3 HRV.out
    have HR3 := Lib.hid hr3
    have HB3 := Lib.hid (HBV.out.trans (hb3.mono HBV.out.size))
    have HS3 := Lib.hid (HSV.out.kept hb3)
    clear hb3 hr3
    go_wp2_with fail
    refine (HR.out _ HB3.out HS3.out).mono ?_
    rintro e w4 ⟨gw, rfl, hgw, hrw, hb4⟩
    have H9_0 := Lib.hid (show rowN w4.drew g9 = some (arr .u8 O) from keptW hb4 HR3.out)
    have Hw_0 := Lib.hid (show rowN w4.drew gw = some (arr .u8 O) from hrw)
    have HL_0 := Lib.hid (show Below w.heap.size w w4.drew from (HB3.out.trans (hb4.mono HB3.out.size)).drew)
    have Ht_0 := Lib.hid (show BytesAt (O.take m) s8 w4.drew from HT8.out.kept hb4.drew)
    clear hgw hrw hb4
    go_upto_region 9 with fail
    refine wp_region_noPanic ?_
    refine wp_region_held_drew (S := fun W => rowN W g9 = some (arr .u8 O) ∧ rowN W gw = some (arr .u8 O)) (by kernel_rfl) ⟨H9_0.out, Hw_0.out⟩ (fun hHeld0 => ?_)
    obtain ⟨x0, hx0⟩ : ∃ X, w4.drew = X := ⟨_, rfl⟩
    rw [hx0] at H9_0 Hw_0 Ht_0 HL_0 hHeld0 ⊢
    clear hx0
    refine wpAnyH_take (i := 0) (oi := { dst := some 70, op := Op.move (Operand.tmp 10), type := 28, pos := "law.go:46", after := #[], guard := none }) (v := ?tk19) rfl (by kernel_rfl) (by kernel_rfl) (by kernel_rfl) (fun _ _ _ h => h) (Or.inl ⟨by rfl, ?tw19⟩) hHeld0 ?_
    case tw19 => (intro W hW; clear hW; first | (go_simp; done) | (go_simp; with_reducible rfl))
    try simp only [Act.put, List.setIfInBounds_toArray, List.set_cons_zero, List.set_cons_succ]
    refine wpAnyH_take (i := 1) (oi := { dst := some 71, op := Op.binOp BinOp.neq 28 (Operand.tmp 70) (Operand.const (Value.int IntKind.i64 0)) 28, type := 4, pos := "law.go:46", after := #[{ on := 0, ground := Ground.data }], guard := none }) (v := ?tk20) rfl (by kernel_rfl) (by kernel_rfl) (by kernel_rfl) (fun _ _ _ h => h) (Or.inl ⟨by rfl, ?tw20⟩) hHeld0 ?_
    case tw20 => (intro W hW; clear hW; first | (go_simp; done) | (go_simp; with_reducible rfl))
    try simp only [Act.put, List.setIfInBounds_toArray, List.set_cons_zero, List.set_cons_succ]
    refine wpAnyH_take (i := 2) (oi := { dst := some 72, op := Op.move (Operand.tmp 71), type := 4, pos := "law.go:46", after := #[{ on := 1, ground := Ground.data }], guard := none }) (v := ?tk21) rfl (by kernel_rfl) (by kernel_rfl) (by kernel_rfl) (fun _ _ _ h => h) (Or.inl ⟨by rfl, ?tw21⟩) hHeld0 ?_
    case tw21 => (intro W hW; clear hW; first | (go_simp; done) | (go_simp; with_reducible rfl))
    try simp only [Act.put, List.setIfInBounds_toArray, List.set_cons_zero, List.set_cons_succ]
    refine wpAnyH_take (i := 3) (oi := { dst := some 73, op := Op.slice 27 (Operand.tmp 9) none none none, type := 22, pos := "law.go:46", after := #[{ on := 2, ground := Ground.guard }], guard := some (2, false) }) (v := ?tk22) rfl (by kernel_rfl) (by kernel_rfl) (by kernel_rfl) (fun _ _ _ h => h) (Or.inl ⟨by rfl, ?tw22⟩) hHeld0 ?_
    case tw22 => (intro W hW; clear hW; first | (go_simp; done) | (go_simp; with_reducible rfl))
    try simp only [Act.put, List.setIfInBounds_toArray, List.set_cons_zero, List.set_cons_succ]
    refine wpAnyH_take (i := 4) (oi := { dst := some 74, op := Op.convert 22 9 (Operand.tmp 73), type := 9, pos := "law.go:46", after := #[{ on := 3, ground := Ground.data }, { on := 2, ground := Ground.guard }], guard := some (2, false) }) (v := .string (strOf O)) rfl (by kernel_rfl) (by kernel_rfl) (by kernel_rfl) (fun _ _ _ h => h) (Or.inl ⟨by rfl, fun W hW => ?_⟩) hHeld0 ?_
    · (have hst := str_arr hW.1 HO32.out; clear hW; go_simp)
    try simp only [Act.put, List.setIfInBounds_toArray, List.set_cons_zero, List.set_cons_succ]
    refine wpAnyH_take (i := 5) (oi := { dst := some 75, op := Op.move (Operand.tmp 13), type := 22, pos := "law.go:46", after := #[{ on := 2, ground := Ground.guard }], guard := some (2, false) }) (v := ?tk23) rfl (by kernel_rfl) (by kernel_rfl) (by kernel_rfl) (fun _ _ _ h => h) (Or.inl ⟨by rfl, ?tw23⟩) hHeld0 ?_
    case tw23 => (intro W hW; clear hW; first | (go_simp; done) | (go_simp; with_reducible rfl))
    try simp only [Act.put, List.setIfInBounds_toArray, List.set_cons_zero, List.set_cons_succ]
    refine wpAnyH_take (i := 6) (oi := { dst := some 76, op := Op.convert 22 9 (Operand.tmp 75), type := 9, pos := "law.go:46", after := #[{ on := 5, ground := Ground.data }, { on := 2, ground := Ground.guard }], guard := some (2, false) }) (v := .string (strOf O)) rfl (by kernel_rfl) (by kernel_rfl) (by kernel_rfl) (fun _ _ _ h => h) (Or.inl ⟨by rfl, fun W hW => ?_⟩) hHeld0 ?_
    · (have hst := str_arr hW.2 HO32.out; clear hW; go_simp)
    try simp only [Act.put, List.setIfInBounds_toArray, List.set_cons_zero, List.set_cons_succ]
    refine wpAnyH_take (i := 7) (oi := { dst := some 77, op := Op.binOp BinOp.neq 9 (Operand.tmp 74) (Operand.tmp 76) 9, type := 4, pos := "law.go:46", after := #[{ on := 4, ground := Ground.data }, { on := 6, ground := Ground.data }, { on := 2, ground := Ground.guard }], guard := some (2, false) }) (v := ?tk24) rfl (by kernel_rfl) (by kernel_rfl) (by kernel_rfl) (fun _ _ _ h => h) (Or.inl ⟨by rfl, ?tw24⟩) hHeld0 ?_
    case tw24 => (intro W hW; clear hW; first | (go_simp; done) | (go_simp; with_reducible rfl))
    try simp only [Act.put, List.setIfInBounds_toArray, List.set_cons_zero, List.set_cons_succ]
    refine wpAnyH_take (i := 8) (oi := { dst := some 78, op := Op.pick (Operand.tmp 72) (Operand.const (Value.bool true)) (Operand.tmp 77), type := 4, pos := "law.go:46", after := #[{ on := 2, ground := Ground.data }, { on := 7, ground := Ground.data }], guard := none }) (v := ?tk25) rfl (by kernel_rfl) (by kernel_rfl) (by kernel_rfl) (fun _ _ _ h => h) (Or.inl ⟨by rfl, ?tw25⟩) hHeld0 ?_
    case tw25 => (intro W hW; clear hW; first | (go_simp; done) | (go_simp; with_reducible rfl))
    try simp only [Act.put, List.setIfInBounds_toArray, List.set_cons_zero, List.set_cons_succ]
    refine wpAnyH_done (by kernel_rfl) ?_ _
    refine NoPanic.normal ?_
    have HL9 := HL_0
    have Ht_0 := Lib.hid (show BytesAt (O.take m) s8 x0.drew from Ht_0.out)
    have H9_0 := Lib.hid (show rowN x0.drew g9 = some (arr .u8 O) from H9_0.out)
    have Hw_0 := Lib.hid (show rowN x0.drew gw = some (arr .u8 O) from Hw_0.out)
    have HL_0 := Lib.hid (show Below w.heap.size w x0.drew from HL9.out.drew)
    go_upto_region 13 with fail
    refine wp_region_noPanic ?_
    refine wp_region_held_drew (S := fun W => rowN W g9 = some (arr .u8 O) ∧ rowN W gw = some (arr .u8 O) ∧ BytesAt (O.take m) s8 W) (by kernel_rfl) ⟨H9_0.out, Hw_0.out, Ht_0.out⟩ (fun hHeld0 => ?_)
    obtain ⟨x0, hx0⟩ : ∃ X, x0.drew = X := ⟨_, rfl⟩
    rw [hx0] at H9_0 Hw_0 Ht_0 HL_0 hHeld0 ⊢
    clear hx0
    refine wpAnyH_take (i := 0) (oi := { dst := some 95, op := Op.move (Operand.tmp 11), type := 22, pos := "law.go:52", after := #[], guard := none }) (v := ?tk7) rfl (by kernel_rfl) (by kernel_rfl) (by kernel_rfl) (fun _ _ _ h => h) (Or.inl ⟨by rfl, ?tw7⟩) hHeld0 ?_
    case tw7 => (intro W hW; clear hW; first | (go_simp; done) | (go_simp; with_reducible rfl))
    try simp only [Act.put, List.setIfInBounds_toArray, List.set_cons_zero, List.set_cons_succ]
    refine wpAnyH_take (i := 1) (oi := { dst := some 96, op := Op.convert 22 9 (Operand.tmp 95), type := 9, pos := "law.go:52", after := #[{ on := 0, ground := Ground.data }], guard := none }) (v := .string (strOf (O.take m))) rfl (by kernel_rfl) (by kernel_rfl) (by kernel_rfl) (fun _ _ _ h => h) (Or.inl ⟨by rfl, fun W hW => ?_⟩) hHeld0 ?_
    · (have hst := str_bytes hW.2.2 HT8N.out; clear hW; go_simp)
    try simp only [Act.put, List.setIfInBounds_toArray, List.set_cons_zero, List.set_cons_succ]
    refine wpAnyH_take (i := 2) (oi := { dst := some 97, op := Op.move (Operand.tmp 13), type := 22, pos := "law.go:52", after := #[], guard := none }) (v := ?tk8) rfl (by kernel_rfl) (by kernel_rfl) (by kernel_rfl) (fun _ _ _ h => h) (Or.inl ⟨by rfl, ?tw8⟩) hHeld0 ?_
    case tw8 => (intro W hW; clear hW; first | (go_simp; done) | (go_simp; with_reducible rfl))
    try simp only [Act.put, List.setIfInBounds_toArray, List.set_cons_zero, List.set_cons_succ]
    refine wpAnyH_take (i := 3) (oi := { dst := some 98, op := Op.move (Operand.tmp 2), type := 3, pos := "law.go:52", after := #[], guard := none }) (v := ?tk9) rfl (by kernel_rfl) (by kernel_rfl) (by kernel_rfl) (fun _ _ _ h => h) (Or.inl ⟨by rfl, ?tw9⟩) hHeld0 ?_
    case tw9 => (intro W hW; clear hW; first | (go_simp; done) | (go_simp; with_reducible rfl))
    try simp only [Act.put, List.setIfInBounds_toArray, List.set_cons_zero, List.set_cons_succ]
    refine wpAnyH_take (i := 4) (oi := { dst := some 99, op := Op.slice 22 (Operand.tmp 97) none (some (Operand.tmp 98)) none, type := 22, pos := "law.go:52", after := #[{ on := 2, ground := Ground.data }, { on := 3, ground := Ground.data }], guard := none }) (v := ?tk10) rfl (by kernel_rfl) (by kernel_rfl) (by kernel_rfl) (fun _ _ _ h => h) (Or.inl ⟨by rfl, ?tw10⟩) hHeld0 ?_
    case tw10 => (intro W hW; clear hW; first | (go_simp; done) | (go_simp; with_reducible rfl))
    try simp only [Act.put, List.setIfInBounds_toArray, List.set_cons_zero, List.set_cons_succ]
    refine wpAnyH_take (i := 5) (oi := { dst := some 100, op := Op.convert 22 9 (Operand.tmp 99), type := 9, pos := "law.go:52", after := #[{ on := 4, ground := Ground.data }], guard := none }) (v := .string (strOf (O.take m))) rfl (by kernel_rfl) (by kernel_rfl) (by kernel_rfl) (fun _ _ _ h => h) (Or.inl ⟨by rfl, fun W hW => ?_⟩) hHeld0 ?_
    · (have hst := str_bytes (bytes_take_row hO256.out hW.2.1 m (by rw [HO32.out]; omega) (show m ≤ 32 by omega)) (nil0_some _ _ _); clear hW; go_simp)
    try simp only [Act.put, List.setIfInBounds_toArray, List.set_cons_zero, List.set_cons_succ]
    refine wpAnyH_take (i := 6) (oi := { dst := some 101, op := Op.binOp BinOp.eql 9 (Operand.tmp 96) (Operand.tmp 100) 9, type := 4, pos := "law.go:52", after := #[{ on := 1, ground := Ground.data }, { on := 5, ground := Ground.data }], guard := none }) (v := ?tk11) rfl (by kernel_rfl) (by kernel_rfl) (by kernel_rfl) (fun _ _ _ h => h) (Or.inl ⟨by rfl, ?tw11⟩) hHeld0 ?_
    case tw11 => (intro W hW; clear hW; first | (go_simp; done) | (go_simp; with_reducible rfl))
    try simp only [Act.put, List.setIfInBounds_toArray, List.set_cons_zero, List.set_cons_succ]
    refine wpAnyH_take (i := 7) (oi := { dst := some 102, op := Op.move (Operand.tmp 101), type := 4, pos := "law.go:52", after := #[{ on := 6, ground := Ground.data }], guard := none }) (v := ?tk12) rfl (by kernel_rfl) (by kernel_rfl) (by kernel_rfl) (fun _ _ _ h => h) (Or.inl ⟨by rfl, ?tw12⟩) hHeld0 ?_
    case tw12 => (intro W hW; clear hW; first | (go_simp; done) | (go_simp; with_reducible rfl))
    try simp only [Act.put, List.setIfInBounds_toArray, List.set_cons_zero, List.set_cons_succ]
    refine wpAnyH_take (i := 8) (oi := { dst := some 103, op := Op.move (Operand.tmp 12), type := 28, pos := "law.go:52", after := #[{ on := 7, ground := Ground.guard }], guard := some (7, true) }) (v := ?tk13) rfl (by kernel_rfl) (by kernel_rfl) (by kernel_rfl) (fun _ _ _ h => h) (Or.inl ⟨by rfl, ?tw13⟩) hHeld0 ?_
    case tw13 => (intro W hW; clear hW; first | (go_simp; done) | (go_simp; with_reducible rfl))
    try simp only [Act.put, List.setIfInBounds_toArray, List.set_cons_zero, List.set_cons_succ]
    refine wpAnyH_take (i := 9) (oi := { dst := some 104, op := Op.binOp BinOp.eql 28 (Operand.tmp 103) (Operand.const (Value.int IntKind.i64 0)) 28, type := 4, pos := "law.go:52", after := #[{ on := 8, ground := Ground.data }, { on := 7, ground := Ground.guard }], guard := some (7, true) }) (v := ?tk14) rfl (by kernel_rfl) (by kernel_rfl) (by kernel_rfl) (fun _ _ _ h => h) (Or.inl ⟨by rfl, ?tw14⟩) hHeld0 ?_
    case tw14 => (intro W hW; clear hW; first | (go_simp; done) | (go_simp; with_reducible rfl))
    try simp only [Act.put, List.setIfInBounds_toArray, List.set_cons_zero, List.set_cons_succ]
    refine wpAnyH_take (i := 10) (oi := { dst := some 105, op := Op.pick (Operand.tmp 102) (Operand.tmp 104) (Operand.const (Value.bool false)), type := 4, pos := "law.go:52", after := #[{ on := 7, ground := Ground.data }, { on := 9, ground := Ground.data }], guard := none }) (v := ?tk15) rfl (by kernel_rfl) (by kernel_rfl) (by kernel_rfl) (fun _ _ _ h => h) (Or.inl ⟨by rfl, ?tw15⟩) hHeld0 ?_
    case tw15 => (intro W hW; clear hW; first | (go_simp; done) | (go_simp; with_reducible rfl))
    try simp only [Act.put, List.setIfInBounds_toArray, List.set_cons_zero, List.set_cons_succ]
    refine wpAnyH_take (i := 11) (oi := { dst := some 106, op := Op.move (Operand.tmp 105), type := 4, pos := "law.go:52", after := #[{ on := 10, ground := Ground.data }, { on := 7, ground := Ground.chain }], guard := none }) (v := ?tk16) rfl (by kernel_rfl) (by kernel_rfl) (by kernel_rfl) (fun _ _ _ h => h) (Or.inl ⟨by rfl, ?tw16⟩) hHeld0 ?_
    case tw16 => (intro W hW; clear hW; first | (go_simp; done) | (go_simp; with_reducible rfl))
    try simp only [Act.put, List.setIfInBounds_toArray, List.set_cons_zero, List.set_cons_succ]
    refine wpAnyH_ready (rs := [12]) (by kernel_rfl) (by simp) ?_
    refine AllReadyH.cons (o := { dst := some 107, op := Op.call { callee := Callee.value (Operand.func 9), args := #[], argTypes := #[] }, type := 4, pos := "law.go:52", after := #[{ on := 11, ground := Ground.chain }, { on := 11, ground := Ground.guard }], guard := some (11, true) }) rfl (fun K' hK => ?_) AllReadyH.nil
    go_simp
    refine ((known_any _ (HK.out.kept HL_0.out))).mono ?_
    rintro e x1 ⟨rfl, hb⟩
    have H9_1 := Lib.hid (keptW hb H9_0.out)
    have Hw_1 := Lib.hid (keptW hb Hw_0.out)
    have Ht_1 := Lib.hid (Ht_0.out.kept hb)
    have HL_1 := Lib.hid (HL_0.out.trans (hb.mono HL_0.out.size))
    clear hb
    refine hK.out _ _ ⟨H9_1.out, Hw_1.out, Ht_1.out⟩ (fun hHeld1 => ?_)
    clear hK K'
    try simp only [Act.put, List.setIfInBounds_toArray, List.set_cons_zero, List.set_cons_succ]
    refine wpAnyH_take (i := 13) (oi := { dst := some 108, op := Op.pick (Operand.tmp 106) (Operand.tmp 107) (Operand.const (Value.bool false)), type := 4, pos := "law.go:52", after := #[{ on := 11, ground := Ground.data }, { on := 12, ground := Ground.data }], guard := none }) (v := ?tk17) rfl (by kernel_rfl) (by kernel_rfl) (by kernel_rfl) (fun _ _ _ h => h) (Or.inl ⟨by rfl, ?tw17⟩) hHeld1 ?_
    case tw17 => (intro W hW; clear hW; first | (go_simp; done) | (go_simp; with_reducible rfl))
    try simp only [Act.put, List.setIfInBounds_toArray, List.set_cons_zero, List.set_cons_succ]
    refine wpAnyH_take (i := 14) (oi := { dst := some 6, op := Op.assign (Operand.tmp 108), type := 4, pos := "law.go:52", after := #[{ on := 13, ground := Ground.data }, { on := 12, ground := Ground.chain }, { on := 0, ground := Ground.phase }, { on := 1, ground := Ground.phase }, { on := 2, ground := Ground.phase }, { on := 3, ground := Ground.phase }, { on := 4, ground := Ground.phase }, { on := 5, ground := Ground.phase }, { on := 6, ground := Ground.phase }, { on := 7, ground := Ground.phase }, { on := 8, ground := Ground.phase }, { on := 9, ground := Ground.phase }, { on := 10, ground := Ground.phase }, { on := 11, ground := Ground.phase }, { on := 12, ground := Ground.phase }, { on := 13, ground := Ground.phase }], guard := none }) (v := ?tk18) rfl (by kernel_rfl) (by kernel_rfl) (by kernel_rfl) (fun _ _ _ h => h) (Or.inl ⟨by rfl, ?tw18⟩) hHeld1 ?_
    case tw18 => (intro W hW; clear hW; first | (go_simp; done) | (go_simp; with_reducible rfl))
    try simp only [Act.put, List.setIfInBounds_toArray, List.set_cons_zero, List.set_cons_succ]
    refine wpAnyH_done (by kernel_rfl) ?_ _
    refine NoPanic.normal ?_
    go_wp2_with fail
    go_ret
    exact ⟨rfl, HL_1.out⟩
  · have hn1 : n < 1 ∨ 32 < n := by omega
    go_wp2_with fail
    refine (HT2.out hn1 _).mono ?_
    rintro e w3 ⟨rfl, hb3⟩
    by_cases hnl : n < 1
    · skip
      have hr3 := keptW hb3 HRV.out
      have HR3 := Lib.hid hr3
      have HB3 := Lib.hid (HBV.out.trans (hb3.mono HBV.out.size))
      have HS3 := Lib.hid (HSV.out.kept hb3)
      clear hb3 hr3
      go_wp2_with fail
      refine (HR.out _ HB3.out HS3.out).mono ?_
      rintro e w4 ⟨gw, rfl, hgw, hrw, hb4⟩
      have H9_0 := Lib.hid (show rowN w4.drew g9 = some (arr .u8 O) from keptW hb4 HR3.out)
      have Hw_0 := Lib.hid (show rowN w4.drew gw = some (arr .u8 O) from hrw)
      have HL_0 := Lib.hid (show Below w.heap.size w w4.drew from (HB3.out.trans (hb4.mono HB3.out.size)).drew)
      clear hgw hrw hb4
      go_upto_region 9 with fail
      refine wp_region_noPanic ?_
      refine wp_region_held_drew (S := fun W => rowN W g9 = some (arr .u8 O) ∧ rowN W gw = some (arr .u8 O)) (by kernel_rfl) ⟨H9_0.out, Hw_0.out⟩ (fun hHeld0 => ?_)
      obtain ⟨x0, hx0⟩ : ∃ X, w4.drew = X := ⟨_, rfl⟩
      rw [hx0] at H9_0 Hw_0 HL_0 hHeld0 ⊢
      clear hx0
      refine wpAnyH_take (i := 0) (oi := { dst := some 70, op := Op.move (Operand.tmp 10), type := 28, pos := "law.go:46", after := #[], guard := none }) (v := ?tk0) rfl (by kernel_rfl) (by kernel_rfl) (by kernel_rfl) (fun _ _ _ h => h) (Or.inl ⟨by rfl, ?tw0⟩) hHeld0 ?_
      case tw0 => (intro W hW; clear hW; first | (go_simp; done) | (go_simp; with_reducible rfl))
      try simp only [Act.put, List.setIfInBounds_toArray, List.set_cons_zero, List.set_cons_succ]
      refine wpAnyH_take (i := 1) (oi := { dst := some 71, op := Op.binOp BinOp.neq 28 (Operand.tmp 70) (Operand.const (Value.int IntKind.i64 0)) 28, type := 4, pos := "law.go:46", after := #[{ on := 0, ground := Ground.data }], guard := none }) (v := ?tk1) rfl (by kernel_rfl) (by kernel_rfl) (by kernel_rfl) (fun _ _ _ h => h) (Or.inl ⟨by rfl, ?tw1⟩) hHeld0 ?_
      case tw1 => (intro W hW; clear hW; first | (go_simp; done) | (go_simp; with_reducible rfl))
      try simp only [Act.put, List.setIfInBounds_toArray, List.set_cons_zero, List.set_cons_succ]
      refine wpAnyH_take (i := 2) (oi := { dst := some 72, op := Op.move (Operand.tmp 71), type := 4, pos := "law.go:46", after := #[{ on := 1, ground := Ground.data }], guard := none }) (v := ?tk2) rfl (by kernel_rfl) (by kernel_rfl) (by kernel_rfl) (fun _ _ _ h => h) (Or.inl ⟨by rfl, ?tw2⟩) hHeld0 ?_
      case tw2 => (intro W hW; clear hW; first | (go_simp; done) | (go_simp; with_reducible rfl))
      try simp only [Act.put, List.setIfInBounds_toArray, List.set_cons_zero, List.set_cons_succ]
      refine wpAnyH_take (i := 3) (oi := { dst := some 73, op := Op.slice 27 (Operand.tmp 9) none none none, type := 22, pos := "law.go:46", after := #[{ on := 2, ground := Ground.guard }], guard := some (2, false) }) (v := ?tk3) rfl (by kernel_rfl) (by kernel_rfl) (by kernel_rfl) (fun _ _ _ h => h) (Or.inl ⟨by rfl, ?tw3⟩) hHeld0 ?_
      case tw3 => (intro W hW; clear hW; first | (go_simp; done) | (go_simp; with_reducible rfl))
      try simp only [Act.put, List.setIfInBounds_toArray, List.set_cons_zero, List.set_cons_succ]
      refine wpAnyH_take (i := 4) (oi := { dst := some 74, op := Op.convert 22 9 (Operand.tmp 73), type := 9, pos := "law.go:46", after := #[{ on := 3, ground := Ground.data }, { on := 2, ground := Ground.guard }], guard := some (2, false) }) (v := .string (strOf O)) rfl (by kernel_rfl) (by kernel_rfl) (by kernel_rfl) (fun _ _ _ h => h) (Or.inl ⟨by rfl, fun W hW => ?_⟩) hHeld0 ?_
      · (have hst := str_arr hW.1 HO32.out; clear hW; go_simp)
      try simp only [Act.put, List.setIfInBounds_toArray, List.set_cons_zero, List.set_cons_succ]
      refine wpAnyH_take (i := 5) (oi := { dst := some 75, op := Op.move (Operand.tmp 13), type := 22, pos := "law.go:46", after := #[{ on := 2, ground := Ground.guard }], guard := some (2, false) }) (v := ?tk4) rfl (by kernel_rfl) (by kernel_rfl) (by kernel_rfl) (fun _ _ _ h => h) (Or.inl ⟨by rfl, ?tw4⟩) hHeld0 ?_
      case tw4 => (intro W hW; clear hW; first | (go_simp; done) | (go_simp; with_reducible rfl))
      try simp only [Act.put, List.setIfInBounds_toArray, List.set_cons_zero, List.set_cons_succ]
      refine wpAnyH_take (i := 6) (oi := { dst := some 76, op := Op.convert 22 9 (Operand.tmp 75), type := 9, pos := "law.go:46", after := #[{ on := 5, ground := Ground.data }, { on := 2, ground := Ground.guard }], guard := some (2, false) }) (v := .string (strOf O)) rfl (by kernel_rfl) (by kernel_rfl) (by kernel_rfl) (fun _ _ _ h => h) (Or.inl ⟨by rfl, fun W hW => ?_⟩) hHeld0 ?_
      · (have hst := str_arr hW.2 HO32.out; clear hW; go_simp)
      try simp only [Act.put, List.setIfInBounds_toArray, List.set_cons_zero, List.set_cons_succ]
      refine wpAnyH_take (i := 7) (oi := { dst := some 77, op := Op.binOp BinOp.neq 9 (Operand.tmp 74) (Operand.tmp 76) 9, type := 4, pos := "law.go:46", after := #[{ on := 4, ground := Ground.data }, { on := 6, ground := Ground.data }, { on := 2, ground := Ground.guard }], guard := some (2, false) }) (v := ?tk5) rfl (by kernel_rfl) (by kernel_rfl) (by kernel_rfl) (fun _ _ _ h => h) (Or.inl ⟨by rfl, ?tw5⟩) hHeld0 ?_
      case tw5 => (intro W hW; clear hW; first | (go_simp; done) | (go_simp; with_reducible rfl))
      try simp only [Act.put, List.setIfInBounds_toArray, List.set_cons_zero, List.set_cons_succ]
      refine wpAnyH_take (i := 8) (oi := { dst := some 78, op := Op.pick (Operand.tmp 72) (Operand.const (Value.bool true)) (Operand.tmp 77), type := 4, pos := "law.go:46", after := #[{ on := 2, ground := Ground.data }, { on := 7, ground := Ground.data }], guard := none }) (v := ?tk6) rfl (by kernel_rfl) (by kernel_rfl) (by kernel_rfl) (fun _ _ _ h => h) (Or.inl ⟨by rfl, ?tw6⟩) hHeld0 ?_
      case tw6 => (intro W hW; clear hW; first | (go_simp; done) | (go_simp; with_reducible rfl))
      try simp only [Act.put, List.setIfInBounds_toArray, List.set_cons_zero, List.set_cons_succ]
      refine wpAnyH_done (by kernel_rfl) ?_ _
      refine NoPanic.normal ?_
      go_wp2_with fail
      refine (known_any _ (HK.out.kept HL_0.out)).mono ?_
      rintro e w9 ⟨rfl, hb9⟩
      have HB9 := Lib.hid (HL_0.out.trans (hb9.mono HL_0.out.size))
      clear hb9
      go_wp2_with fail
      go_ret
      exact ⟨rfl, HB9.out⟩
    · have hn32 : 32 < n := by omega
      have hr3 := keptW hb3 HRV.out
      have HR3 := Lib.hid hr3
      have HB3 := Lib.hid (HBV.out.trans (hb3.mono HBV.out.size))
      have HS3 := Lib.hid (HSV.out.kept hb3)
      clear hb3 hr3
      go_wp2_with fail
      refine (HR.out _ HB3.out HS3.out).mono ?_
      rintro e w4 ⟨gw, rfl, hgw, hrw, hb4⟩
      have H9_0 := Lib.hid (show rowN w4.drew g9 = some (arr .u8 O) from keptW hb4 HR3.out)
      have Hw_0 := Lib.hid (show rowN w4.drew gw = some (arr .u8 O) from hrw)
      have HL_0 := Lib.hid (show Below w.heap.size w w4.drew from (HB3.out.trans (hb4.mono HB3.out.size)).drew)
      clear hgw hrw hb4
      go_upto_region 9 with fail
      refine wp_region_noPanic ?_
      refine wp_region_held_drew (S := fun W => rowN W g9 = some (arr .u8 O) ∧ rowN W gw = some (arr .u8 O)) (by kernel_rfl) ⟨H9_0.out, Hw_0.out⟩ (fun hHeld0 => ?_)
      obtain ⟨x0, hx0⟩ : ∃ X, w4.drew = X := ⟨_, rfl⟩
      rw [hx0] at H9_0 Hw_0 HL_0 hHeld0 ⊢
      clear hx0
      refine wpAnyH_take (i := 0) (oi := { dst := some 70, op := Op.move (Operand.tmp 10), type := 28, pos := "law.go:46", after := #[], guard := none }) (v := ?tk7000) rfl (by kernel_rfl) (by kernel_rfl) (by kernel_rfl) (fun _ _ _ h => h) (Or.inl ⟨by rfl, ?tw7000⟩) hHeld0 ?_
      case tw7000 => (intro W hW; clear hW; first | (go_simp; done) | (go_simp; with_reducible rfl))
      try simp only [Act.put, List.setIfInBounds_toArray, List.set_cons_zero, List.set_cons_succ]
      refine wpAnyH_take (i := 1) (oi := { dst := some 71, op := Op.binOp BinOp.neq 28 (Operand.tmp 70) (Operand.const (Value.int IntKind.i64 0)) 28, type := 4, pos := "law.go:46", after := #[{ on := 0, ground := Ground.data }], guard := none }) (v := ?tk7001) rfl (by kernel_rfl) (by kernel_rfl) (by kernel_rfl) (fun _ _ _ h => h) (Or.inl ⟨by rfl, ?tw7001⟩) hHeld0 ?_
      case tw7001 => (intro W hW; clear hW; first | (go_simp; done) | (go_simp; with_reducible rfl))
      try simp only [Act.put, List.setIfInBounds_toArray, List.set_cons_zero, List.set_cons_succ]
      refine wpAnyH_take (i := 2) (oi := { dst := some 72, op := Op.move (Operand.tmp 71), type := 4, pos := "law.go:46", after := #[{ on := 1, ground := Ground.data }], guard := none }) (v := ?tk7002) rfl (by kernel_rfl) (by kernel_rfl) (by kernel_rfl) (fun _ _ _ h => h) (Or.inl ⟨by rfl, ?tw7002⟩) hHeld0 ?_
      case tw7002 => (intro W hW; clear hW; first | (go_simp; done) | (go_simp; with_reducible rfl))
      try simp only [Act.put, List.setIfInBounds_toArray, List.set_cons_zero, List.set_cons_succ]
      refine wpAnyH_take (i := 3) (oi := { dst := some 73, op := Op.slice 27 (Operand.tmp 9) none none none, type := 22, pos := "law.go:46", after := #[{ on := 2, ground := Ground.guard }], guard := some (2, false) }) (v := ?tk7003) rfl (by kernel_rfl) (by kernel_rfl) (by kernel_rfl) (fun _ _ _ h => h) (Or.inl ⟨by rfl, ?tw7003⟩) hHeld0 ?_
      case tw7003 => (intro W hW; clear hW; first | (go_simp; done) | (go_simp; with_reducible rfl))
      try simp only [Act.put, List.setIfInBounds_toArray, List.set_cons_zero, List.set_cons_succ]
      refine wpAnyH_take (i := 4) (oi := { dst := some 74, op := Op.convert 22 9 (Operand.tmp 73), type := 9, pos := "law.go:46", after := #[{ on := 3, ground := Ground.data }, { on := 2, ground := Ground.guard }], guard := some (2, false) }) (v := .string (strOf O)) rfl (by kernel_rfl) (by kernel_rfl) (by kernel_rfl) (fun _ _ _ h => h) (Or.inl ⟨by rfl, fun W hW => ?_⟩) hHeld0 ?_
      · (have hst := str_arr hW.1 HO32.out; clear hW; go_simp)
      try simp only [Act.put, List.setIfInBounds_toArray, List.set_cons_zero, List.set_cons_succ]
      refine wpAnyH_take (i := 5) (oi := { dst := some 75, op := Op.move (Operand.tmp 13), type := 22, pos := "law.go:46", after := #[{ on := 2, ground := Ground.guard }], guard := some (2, false) }) (v := ?tk7004) rfl (by kernel_rfl) (by kernel_rfl) (by kernel_rfl) (fun _ _ _ h => h) (Or.inl ⟨by rfl, ?tw7004⟩) hHeld0 ?_
      case tw7004 => (intro W hW; clear hW; first | (go_simp; done) | (go_simp; with_reducible rfl))
      try simp only [Act.put, List.setIfInBounds_toArray, List.set_cons_zero, List.set_cons_succ]
      refine wpAnyH_take (i := 6) (oi := { dst := some 76, op := Op.convert 22 9 (Operand.tmp 75), type := 9, pos := "law.go:46", after := #[{ on := 5, ground := Ground.data }, { on := 2, ground := Ground.guard }], guard := some (2, false) }) (v := .string (strOf O)) rfl (by kernel_rfl) (by kernel_rfl) (by kernel_rfl) (fun _ _ _ h => h) (Or.inl ⟨by rfl, fun W hW => ?_⟩) hHeld0 ?_
      · (have hst := str_arr hW.2 HO32.out; clear hW; go_simp)
      try simp only [Act.put, List.setIfInBounds_toArray, List.set_cons_zero, List.set_cons_succ]
      refine wpAnyH_take (i := 7) (oi := { dst := some 77, op := Op.binOp BinOp.neq 9 (Operand.tmp 74) (Operand.tmp 76) 9, type := 4, pos := "law.go:46", after := #[{ on := 4, ground := Ground.data }, { on := 6, ground := Ground.data }, { on := 2, ground := Ground.guard }], guard := some (2, false) }) (v := ?tk7005) rfl (by kernel_rfl) (by kernel_rfl) (by kernel_rfl) (fun _ _ _ h => h) (Or.inl ⟨by rfl, ?tw7005⟩) hHeld0 ?_
      case tw7005 => (intro W hW; clear hW; first | (go_simp; done) | (go_simp; with_reducible rfl))
      try simp only [Act.put, List.setIfInBounds_toArray, List.set_cons_zero, List.set_cons_succ]
      refine wpAnyH_take (i := 8) (oi := { dst := some 78, op := Op.pick (Operand.tmp 72) (Operand.const (Value.bool true)) (Operand.tmp 77), type := 4, pos := "law.go:46", after := #[{ on := 2, ground := Ground.data }, { on := 7, ground := Ground.data }], guard := none }) (v := ?tk7006) rfl (by kernel_rfl) (by kernel_rfl) (by kernel_rfl) (fun _ _ _ h => h) (Or.inl ⟨by rfl, ?tw7006⟩) hHeld0 ?_
      case tw7006 => (intro W hW; clear hW; first | (go_simp; done) | (go_simp; with_reducible rfl))
      try simp only [Act.put, List.setIfInBounds_toArray, List.set_cons_zero, List.set_cons_succ]
      refine wpAnyH_done (by kernel_rfl) ?_ _
      refine NoPanic.normal ?_
      go_wp2_with fail
      refine (known_any _ (HK.out.kept HL_0.out)).mono ?_
      rintro e w9 ⟨rfl, hb9⟩
      have HB9 := Lib.hid (HL_0.out.trans (hb9.mono HL_0.out.size))
      clear hb9
      go_wp2_with fail
      go_ret
      exact ⟨rfl, HB9.out⟩
end Go.Proofs.YtmlacbdonkfbdaaDoor
