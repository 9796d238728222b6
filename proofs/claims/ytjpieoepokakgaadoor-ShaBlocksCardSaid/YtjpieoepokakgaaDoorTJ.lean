/- ShaDivides walked. -/
import Derived.Deep.RegionHeld3
import Derived.Test.YtjpieoepokakgaaDoorTH
namespace Go.Proofs.YtjpieoepokakgaaDoor
open Go.RowKit Go.Shelf

theorem bytes_take {bs : List Nat} {a : Option Addr} {L c : Nat} {W : World} (h : BytesAt bs (.slice a L c) W) (m : Nat) (hm : m ≤ L) : BytesAt (bs.take m) (.slice a m c) W := by
  obtain ⟨h1, a0, c0, e, hc, h2⟩ := h
  cases e
  have hl : (bs.take m).length = m := by rw [List.length_take]; omega
  refine ⟨fun x hx => h1 x (List.mem_of_mem_take hx), a, c, by rw [hl], by omega, ?_⟩
  rw [hl]
  rcases h2 with h2 | ⟨b, off, ea, hb, hj⟩
  · exact .inl (by omega)
  · refine .inr ⟨b, off, ea, hb, fun j hjl => ?_⟩
    rw [hj j (by omega)]
    simp [List.getD, hjl]
theorem run_slice22_h (a : Option Addr) (L c n : Nat) (hn : n ≤ c) (ha : a = none → c = 0) (W : World) : (Instr.sliceAt 22 (.slice a L c) none (some (.int .i64 (n : Nat))) none).run Tryd.prog W = .ok (.slice a n c) W := by
  have e1 : ((n : Nat) : Int).toNat = n := Int.toNat_natCast n
  have e7 : (0 : Int) ≤ (n : Int) := by omega
  have e6 : ((n : Nat) : Int) ≤ (c : Int) := by omega
  cases a with
  | none =>
    obtain rfl := ha rfl
    obtain rfl : n = 0 := by omega
    go_simp
  | some ad => go_simp
/-- A slice from place m on. -/
def lowS (a : Option Addr) (L c m : Nat) : Value := .slice (a.map fun x => if c = m then x else x.add m) (L - m) (c - m)
theorem run_slice22_low (a : Option Addr) (L c m : Nat) (hm : m ≤ L) (hc : L ≤ c) (ha : a = none → c = 0) (W : World) : (Instr.sliceAt 22 (.slice a L c) (some (.int .i64 (m : Nat))) none none).run Tryd.prog W = .ok (lowS a L c m) W := by
  have e2 : ((m : Nat) : Int).toNat = m := Int.toNat_natCast m
  have e8 : (0 : Int) ≤ (m : Int) := by omega
  have e9 : ((m : Nat) : Int) ≤ (L : Int) := by omega
  have e10 : ((L : Nat) : Int) ≤ (c : Int) := by omega
  unfold lowS
  cases a with
  | none =>
    obtain rfl := ha rfl
    obtain rfl : L = 0 := by omega
    obtain rfl : m = 0 := by omega
    go_simp
  | some ad =>
    by_cases h : c = m
    · subst h
      obtain rfl : L = c := by omega
      simp only [Option.map_some, if_true]
      go_simp
    · simp only [Option.map_some, if_neg h]
      go_simp
theorem bytes_low {bs : List Nat} {a : Option Addr} {L c : Nat} {W : World} (h : BytesAt bs (.slice a L c) W) (m : Nat) (hm : m ≤ L) : BytesAt (bs.drop m) (lowS a L c m) W := by
  obtain ⟨h1, a2, c2, e, hc, h2⟩ := h
  cases e
  unfold lowS
  refine ⟨fun x hx => h1 x (List.mem_of_mem_drop hx), _, c - m, by rw [List.length_drop], by rw [List.length_drop]; omega, ?_⟩
  rw [List.length_drop]
  rcases h2 with h2 | ⟨b', off', ea, hb, hj⟩
  · exact .inl (by omega)
  · subst ea
    by_cases h : bs.length = m
    · exact .inl (by omega)
    · refine .inr ⟨b', off' + m, ?_, hb, fun j hjl => ?_⟩
      · rw [Option.map_some, if_neg (by omega)]
        simp [Addr.add]
      · rw [Nat.add_assoc, hj (m + j) (by omega)]
        simp [List.getD, List.getElem?_drop]
theorem nil0_low {a : Option Addr} {L c m : Nat} (h : Nil0 (.slice a L c)) : Nil0 (lowS a L c m) := by
  intro L' c' e
  unfold lowS at e
  cases a with
  | none => have := h _ _ rfl; injection e with e1 e2 e3; omega
  | some ad => injection e with e1; cases e1
theorem inS_low {a : Option Addr} {L c m j : Nat} (h : InS (lowS a L c m) j) : InS (.slice a L c) j := by
  obtain ⟨off, sp, L', c', e⟩ := h
  unfold lowS at e
  cases a with
  | none => injection e with e1; cases e1
  | some ad =>
    injection e with e1
    rw [Option.map_some] at e1
    have e2 := Option.some.inj e1
    obtain ⟨b, o, s⟩ := ad
    split at e2
    · cases e2; exact ⟨_, _, _, _, rfl⟩
    · unfold Addr.add at e2
      split at e2 <;> (cases e2; exact ⟨_, _, _, _, rfl⟩)
theorem inS_take {a : Option Addr} {L c n j : Nat} (h : InS (.slice a n c) j) : InS (.slice a L c) j := by
  obtain ⟨off, sp, L', c', e⟩ := h
  cases e; exact ⟨_, _, _, _, rfl⟩

set_option maxRecDepth 100000 in
set_option maxHeartbeats 2000000 in
theorem divides_walk (zs : List Nat) (s : Value) (t : Nat) (w : World) (ht : t < 65536) (hB : BytesAt zs s w) (hnil : Nil0 s) (hK : KG w) :
    Calls Tryd.prog 6 #[s, .int .u16 (t : Nat)] w fun e w' => e = .returned (.bool true) ∧ Below w.heap.size w w' := by
  have HB := Lib.hid hB
  have HN := Lib.hid hnil
  have HK := Lib.hid hK
  obtain ⟨a, c, rfl, hcap⟩ : ∃ a c, s = .slice a zs.length c ∧ zs.length ≤ c := by obtain ⟨_, a, c, e, hc, _⟩ := hB; exact ⟨a, c, e, hc⟩
  have hlz := hB.lt
  obtain ⟨L, hl⟩ : ∃ L, zs.length = L := ⟨_, rfl⟩
  have HL := Lib.hid hl
  rw [hl] at HB HN hcap hlz ⊢
  have HLT := Lib.hid hlz
  clear hB hnil hK hl hlz
  by_cases hbig : 600 < L
  · have hb : (600 : Int) < ((L : Nat) : Int) := by omega
    go_enter Tryd.func6, Tryd.ntmps6
    go_wp2_with fail
    refine (known_any _ HK.out).mono ?_
    rintro e w1 ⟨rfl, hb1⟩
    have HB1 := Lib.hid hb1
    clear hb1
    go_wp2_with fail
    go_ret
    exact ⟨rfl, HB1.out⟩
  · have hb : ¬ (600 : Int) < ((L : Nat) : Int) := by omega
    obtain ⟨n, hn⟩ : ∃ n, t % (L + 1) = n := ⟨_, rfl⟩
    have hnL : n ≤ L := by have := Nat.mod_lt t (show 0 < L + 1 by omega); omega
    have hmod : ((t : Nat) : Int) % (((L : Nat) : Int) + 1) = ((n : Nat) : Int) := by rw [← hn, Int.natCast_emod]; simp
    have e0 : IntKind.i64.wrap ((t : Nat) : Int) = ((t : Nat) : Int) := IntWalk.i64_in _ (by omega)
    have e1 : IntKind.i64.wrap (((L : Nat) : Int) + 1) = ((L : Nat) : Int) + 1 := IntWalk.i64_in _ (by omega)
    have e2 : ¬ (((L : Nat) : Int) + 1 = 0) := by omega
    have hsh := fun W => run_slice22_h a L c n (by omega) (fun h => HN.out _ _ (by rw [h])) W
    have hsl := fun W => run_slice22_low a L c n hnL hcap (fun h => HN.out _ _ (by rw [h])) W
    have HNT := Lib.hid (show Nil0 (.slice a n c) from fun L' c' e => by injection e with h1 h2 h3; subst h1; rw [← h3]; exact HN.out _ _ rfl)
    have HW1 := Lib.hid (fun g W (h1 : HashAt [] g W) (hk : KG W) (hg : g ≠ 1) (hge : w.heap.size ≤ g) (hb : BytesAt zs (.slice a L c) W) => write_at g [] (zs.take n) (.slice a n c) W h1 (by rw [List.length_take]; simp; omega) hk hg (bytes_take hb n hnL) (fun j h0 hj e => by
      have := HLT.out (by rw [List.length_take] at h0; omega) (inS_take (L := L) hj); omega))
    have HW2 := Lib.hid (fun g W (h1 : HashAt (zs.take n) g W) (hk : KG W) (hg : g ≠ 1) (hge : w.heap.size ≤ g) (hb : BytesAt zs (.slice a L c) W) => write_at g (zs.take n) (zs.drop n) (lowS a L c n) W h1 (by rw [List.length_take, List.length_drop, HL.out]; omega) hk hg (bytes_low hb n hnL) (fun j h0 hj e => by
      have := HLT.out (by rw [List.length_drop, HL.out] at h0; omega) (inS_low hj); omega))
    have HS1 := Lib.hid (fun W (h1 : KG W) (hb : BytesAt zs (.slice a L c) W) => sum_any (zs.take n) (.slice a n c) (by rw [List.length_take, HL.out]; omega) W h1 (bytes_take hb n hnL) HNT.out)
    have HS2 := Lib.hid (fun W (h1 : KG W) (hb : BytesAt zs (.slice a L c) W) => sum_any zs (.slice a L c) (by rw [HL.out]; omega) W h1 hb HN.out)
    have HM1 := Lib.hid (fun g W (h1 : HashAt (zs.take n) g W) (hk : KG W) => hsum_at g (zs.take n) W h1 (by rw [List.length_take, HL.out]; omega) hk)
    have HM2 := Lib.hid (fun g W (h1 : HashAt zs g W) (hk : KG W) => hsum_at g zs W h1 (by rw [HL.out]; omega) hk)
    have HLN := Lib.hid (fun g W (h1 : HashAt zs g W) => show Calls Tryd.prog 16 #[.pointer (some ⟨g, 0, none⟩)] W (fun e w' => e = .returned (.int .i64 (L : Nat)) ∧ Below W.heap.size W w') from (len_at g zs W h1).mono (fun e w' h => ⟨by rw [h.1, HL.out], h.2 ▸ Below.refl _ _⟩))
    have hO1 : (shaL (zs.take n)).length = 32 := outB_len (absB_len rfl _ _)
    have hO2 : (shaL zs).length = 32 := outB_len (absB_len rfl _ _)
    obtain ⟨O1, hOe1⟩ : ∃ O, shaL (zs.take n) = O := ⟨_, rfl⟩
    obtain ⟨O2, hOe2⟩ : ∃ O, shaL zs = O := ⟨_, rfl⟩
    rw [hOe1] at HS1 HM1 hO1
    rw [hOe2] at HS2 HM2 hO2
    have hz32 := z32_lit
    have szo : (arr .u8 O1).size = 32 := by rw [arr_size, hO1]
    have szz : (arr .u8 z32).size = 32 := by rw [arr_size]; rfl
    obtain ⟨ls, hls⟩ : ∃ v, lowS a L c n = v := ⟨_, rfl⟩
    rw [hls] at hsl HW2
    have HW12 := Lib.hid (show 1 < w.heap.size from HK.out.1)
    obtain ⟨W0, hW0⟩ : ∃ W, (w.alloc (.cells (hashA zero8 z64 0) 38)).alloc (.cells (hashA zero8 z64 0) 38) = W := ⟨_, rfl⟩
    have HBA := Lib.hid (show Below w.heap.size w W0 by rw [← hW0]; exact ((Below.refl _ w).alloc (Nat.le_refl _) _).alloc (by simp) _)
    have HH1 := Lib.hid (show HashAt [] w.heap.size W0 from HashAt.zero (by rw [← hW0, rowN_alloc, if_neg (by simp), rowN_alloc, if_pos rfl]))
    have HH2 := Lib.hid (show HashAt [] (w.heap.size + 1) W0 from HashAt.zero (by rw [← hW0, rowN_alloc, if_pos (by simp)]))
    have HZ0 := Lib.hid (HB.out.kept HBA.out)
    clear hn hOe1 hOe2 hls
    go_enter Tryd.func6, Tryd.ntmps6
    go_upto_region 5 with fail
    try rw [hW0]
    clear hW0
    go_wp2_with fail
    refine (HW1.out _ _ HH1.out (HK.out.kept HBA.out) (by have := HW12.out; omega) (Nat.le_refl _) HZ0.out).mono ?_
    rintro e W1 ⟨rfl, h1, hg⟩
    have HH1_1 := Lib.hid h1
    have HH2_1 := Lib.hid (HH2.out.keeps (Keeps.of_grownBy (M := fun j => j = w.heap.size) hg (fun r e => by cases e; rfl)) (by omega))
    have HBA_1 := Lib.hid (HBA.out.grown hg HBA.out.size (fun r e => by cases e; exact Nat.le_refl _))
    clear h1 hg HH1 HH2 HBA HZ0
    go_wp2_with fail
    refine (HW1.out _ _ HH2_1.out (HK.out.kept HBA_1.out) (by have := HW12.out; omega) (by omega) (HB.out.kept HBA_1.out)).mono ?_
    rintro e W2 ⟨rfl, h1, hg⟩
    have HH2_2 := Lib.hid h1
    have HH1_2 := Lib.hid (HH1_1.out.keeps (Keeps.of_grownBy (M := fun j => j = w.heap.size + 1) hg (fun r e => by cases e; rfl)) (by omega))
    have HBA_2 := Lib.hid (HBA_1.out.grown hg HBA_1.out.size (fun r e => by cases e; exact Nat.le_succ _))
    clear h1 hg HH1_1 HH2_1 HBA_1
    go_wp2_with fail
    refine (HM1.out _ _ HH1_2.out (HK.out.kept HBA_2.out)).mono ?_
    rintro e W3 ⟨rfl, hb3⟩
    have HH1_3 := Lib.hid (HH1_2.out.kept hb3)
    have HH2_3 := Lib.hid (HH2_2.out.kept hb3)
    have HBA_3 := Lib.hid (HBA_2.out.trans (hb3.mono HBA_2.out.size))
    clear hb3 HH1_2 HH2_2 HBA_2
    go_upto_region 8 with fail
    obtain ⟨V, hV⟩ : ∃ V, (W3.alloc (.cells (arr .u8 z32) 24)).setRow W3.heap.size (arr .u8 O1) = V := ⟨_, rfl⟩
    have hbV : Below W3.heap.size W3 V := by rw [← hV]; exact below_setRow' ((Below.refl _ _).alloc (Nat.le_refl _) _) (Nat.le_refl _) _
    have hrV : rowN V W3.heap.size = some (arr .u8 O1) := by rw [← hV]; exact row_new (cs := arr .u8 z32) (by rw [rowN_alloc, if_pos rfl])
    rw [hV]
    have HH1_4 := Lib.hid (HH1_3.out.kept hbV)
    have HH2_4 := Lib.hid (HH2_3.out.kept hbV)
    have HBA_4 := Lib.hid (HBA_3.out.trans (hbV.mono HBA_3.out.size))
    have h12 : w.heap.size + 1 < W3.heap.size := HH2_3.out.lt
    obtain ⟨g8, hg8⟩ : ∃ g, W3.heap.size = g := ⟨_, rfl⟩
    rw [hg8] at hrV h12 ⊢
    have HR8 := Lib.hid hrV
    clear hV hbV hrV hg8 HH1_3 HH2_3 HBA_3
    go_wp2_with fail
    refine (HW2.out _ _ HH1_4.out (HK.out.kept HBA_4.out) (by have := HW12.out; omega) (Nat.le_refl _) (HB.out.kept HBA_4.out)).mono ?_
    rintro e W5 ⟨rfl, h1, hg⟩
    rw [List.take_append_drop] at h1
    have HH1_5 := Lib.hid h1
    have HH2_5 := Lib.hid (HH2_4.out.keeps (Keeps.of_grownBy (M := fun j => j = w.heap.size) hg (fun r e => by cases e; rfl)) (by omega))
    have HBA_5 := Lib.hid (HBA_4.out.grown hg HBA_4.out.size (fun r e => by cases e; exact Nat.le_refl _))
    have HR8_5 := Lib.hid ((Keeps.of_grownBy (M := fun j => j = w.heap.size) hg (fun r e => by cases e; rfl)).row HR8.out (by omega))
    clear h1 hg HH1_4 HH2_4 HBA_4 HR8
    go_wp2_with fail
    refine (HW2.out _ _ HH2_5.out (HK.out.kept HBA_5.out) (by have := HW12.out; omega) (by omega) (HB.out.kept HBA_5.out)).mono ?_
    rintro e W6 ⟨rfl, h1, hg⟩
    rw [List.take_append_drop] at h1
    have Hq_0 := Lib.hid (show HashAt zs (w.heap.size + 1) W6.drew from h1)
    have Hp_0 := Lib.hid (show HashAt zs w.heap.size W6.drew from HH1_5.out.keeps (Keeps.of_grownBy (M := fun j => j = w.heap.size + 1) (grown_drew hg) (fun r e => by cases e; rfl)) (by omega))
    have hbz := HBA_5.out.grown hg HBA_5.out.size (fun r e => by cases e; exact Nat.le_succ _)
    have HL_0 := Lib.hid (show Below w.heap.size w W6.drew from hbz.drew)
    have H8_0 := Lib.hid (show rowN W6.drew g8 = some (arr .u8 O1) from (Keeps.of_grownBy (M := fun j => j = w.heap.size + 1) (grown_drew hg) (fun r e => by cases e; rfl)).row HR8_5.out (by omega))
    have Hz_0 := Lib.hid (show BytesAt zs (.slice a L c) W6.drew from HB.out.kept hbz.drew)
    clear h1 hg hbz HH1_5 HH2_5 HBA_5 HR8_5
    go_upto_region 10 with fail
    refine wp_region_noPanic ?_
    refine wp_region_held_drew (S := fun W => rowN W g8 = some (arr .u8 O1)) (by kernel_rfl) H8_0.out (fun hHeld0 => ?_)
    obtain ⟨x0, hx0⟩ : ∃ X, W6.drew = X := ⟨_, rfl⟩
    rw [hx0] at H8_0 Hp_0 Hq_0 Hz_0 HL_0 hHeld0 ⊢
    clear hx0
    refine wpAnyH_take (i := 0) (oi := { dst := some 44, op := Op.load 24 (Operand.tmp 8), type := 24, pos := "law.go:123", after := #[], guard := none }) (v := .agg (arr .u8 O1)) rfl (by kernel_rfl) (by kernel_rfl) (by kernel_rfl) (fun _ _ _ h => h) (Or.inl ⟨by rfl, fun W hW => ?_⟩) hHeld0 ?_
    · (have hW1 := hW; clear hW; go_simp)
    try simp only [Act.put, List.setIfInBounds_toArray, List.set_cons_zero, List.set_cons_succ]
    refine wpAnyH_take (i := 1) (oi := { dst := some 45, op := Op.move (Operand.tmp 0), type := 22, pos := "law.go:123", after := #[], guard := none }) (v := ?tk0) rfl (by kernel_rfl) (by kernel_rfl) (by kernel_rfl) (fun _ _ _ h => h) (Or.inl ⟨by rfl, ?tw0⟩) hHeld0 ?_
    case tw0 => (intro W hW; clear hW; first | (go_simp; done) | (go_simp; with_reducible rfl))
    try simp only [Act.put, List.setIfInBounds_toArray, List.set_cons_zero, List.set_cons_succ]
    refine wpAnyH_take (i := 2) (oi := { dst := some 46, op := Op.move (Operand.tmp 5), type := 3, pos := "law.go:123", after := #[], guard := none }) (v := ?tk1) rfl (by kernel_rfl) (by kernel_rfl) (by kernel_rfl) (fun _ _ _ h => h) (Or.inl ⟨by rfl, ?tw1⟩) hHeld0 ?_
    case tw1 => (intro W hW; clear hW; first | (go_simp; done) | (go_simp; with_reducible rfl))
    try simp only [Act.put, List.setIfInBounds_toArray, List.set_cons_zero, List.set_cons_succ]
    refine wpAnyH_take (i := 3) (oi := { dst := some 47, op := Op.slice 22 (Operand.tmp 45) none (some (Operand.tmp 46)) none, type := 22, pos := "law.go:123", after := #[{ on := 1, ground := Ground.data }, { on := 2, ground := Ground.data }], guard := none }) (v := ?tk2) rfl (by kernel_rfl) (by kernel_rfl) (by kernel_rfl) (fun _ _ _ h => h) (Or.inl ⟨by rfl, ?tw2⟩) hHeld0 ?_
    case tw2 => (intro W hW; clear hW; first | (go_simp; done) | (go_simp; with_reducible rfl))
    try simp only [Act.put, List.setIfInBounds_toArray, List.set_cons_zero, List.set_cons_succ]
    refine wpAnyH_ready (rs := [4]) (by kernel_rfl) (by simp) ?_
    refine AllReadyH.cons (o := { dst := some 48, op := Op.call { callee := Callee.value (Operand.func 9), args := #[Operand.tmp 47], argTypes := #[22] }, type := 24, pos := "law.go:123", after := #[{ on := 3, ground := Ground.data }], guard := none }) rfl (fun K' hK => ?_) AllReadyH.nil
    go_simp
    refine ((HS1.out _ (HK.out.kept HL_0.out) Hz_0.out)).mono ?_
    rintro e x1 ⟨rfl, hb⟩
    have H8_1 := Lib.hid (keptW hb H8_0.out)
    have Hp_1 := Lib.hid (Hp_0.out.kept hb)
    have Hq_1 := Lib.hid (Hq_0.out.kept hb)
    have Hz_1 := Lib.hid (Hz_0.out.kept hb)
    have HL_1 := Lib.hid (HL_0.out.trans (hb.mono HL_0.out.size))
    clear hb
    refine hK.out _ _ H8_1.out (fun hHeld1 => ?_)
    clear hK K'
    try simp only [Act.put, List.setIfInBounds_toArray, List.set_cons_zero, List.set_cons_succ]
    refine wpAnyH_take (i := 5) (oi := { dst := some 49, op := Op.binOp BinOp.eql 24 (Operand.tmp 44) (Operand.tmp 48) 24, type := 4, pos := "law.go:123", after := #[{ on := 0, ground := Ground.data }, { on := 4, ground := Ground.data }], guard := none }) (v := ?tk3) rfl (by kernel_rfl) (by kernel_rfl) (by kernel_rfl) (fun _ _ _ h => h) (Or.inl ⟨by rfl, ?tw3⟩) hHeld1 ?_
    case tw3 => (intro W hW; clear hW; first | (go_simp; done) | (go_simp; with_reducible rfl))
    try simp only [Act.put, List.setIfInBounds_toArray, List.set_cons_zero, List.set_cons_succ]
    refine wpAnyH_take (i := 6) (oi := { dst := some 50, op := Op.move (Operand.tmp 49), type := 4, pos := "law.go:123", after := #[{ on := 5, ground := Ground.data }, { on := 4, ground := Ground.chain }], guard := none }) (v := ?tk4) rfl (by kernel_rfl) (by kernel_rfl) (by kernel_rfl) (fun _ _ _ h => h) (Or.inl ⟨by rfl, ?tw4⟩) hHeld1 ?_
    case tw4 => (intro W hW; clear hW; first | (go_simp; done) | (go_simp; with_reducible rfl))
    try simp only [Act.put, List.setIfInBounds_toArray, List.set_cons_zero, List.set_cons_succ]
    refine wpAnyH_ready (rs := [7]) (by kernel_rfl) (by simp) ?_
    refine AllReadyH.cons (o := { dst := some 51, op := Op.call { callee := Callee.value (Operand.func 15), args := #[Operand.tmp 6], argTypes := #[38] }, type := 24, pos := "law.go:123", after := #[{ on := 6, ground := Ground.chain }, { on := 6, ground := Ground.guard }], guard := some (6, true) }) rfl (fun K' hK => ?_) AllReadyH.nil
    go_simp
    refine ((HM2.out _ _ Hp_1.out (HK.out.kept HL_1.out))).mono ?_
    rintro e x2 ⟨rfl, hb⟩
    have H8_2 := Lib.hid (keptW hb H8_1.out)
    have Hp_2 := Lib.hid (Hp_1.out.kept hb)
    have Hq_2 := Lib.hid (Hq_1.out.kept hb)
    have Hz_2 := Lib.hid (Hz_1.out.kept hb)
    have HL_2 := Lib.hid (HL_1.out.trans (hb.mono HL_1.out.size))
    clear hb
    refine hK.out _ _ H8_2.out (fun hHeld2 => ?_)
    clear hK K'
    try simp only [Act.put, List.setIfInBounds_toArray, List.set_cons_zero, List.set_cons_succ]
    refine wpAnyH_ready (rs := [8]) (by kernel_rfl) (by simp) ?_
    refine AllReadyH.cons (o := { dst := some 52, op := Op.call { callee := Callee.value (Operand.func 15), args := #[Operand.tmp 7], argTypes := #[38] }, type := 24, pos := "law.go:123", after := #[{ on := 7, ground := Ground.chain }, { on := 6, ground := Ground.guard }], guard := some (6, true) }) rfl (fun K' hK => ?_) AllReadyH.nil
    go_simp
    refine ((HM2.out _ _ Hq_2.out (HK.out.kept HL_2.out))).mono ?_
    rintro e x3 ⟨rfl, hb⟩
    have H8_3 := Lib.hid (keptW hb H8_2.out)
    have Hp_3 := Lib.hid (Hp_2.out.kept hb)
    have Hq_3 := Lib.hid (Hq_2.out.kept hb)
    have Hz_3 := Lib.hid (Hz_2.out.kept hb)
    have HL_3 := Lib.hid (HL_2.out.trans (hb.mono HL_2.out.size))
    clear hb
    refine hK.out _ _ H8_3.out (fun hHeld3 => ?_)
    clear hK K'
    try simp only [Act.put, List.setIfInBounds_toArray, List.set_cons_zero, List.set_cons_succ]
    refine wpAnyH_take (i := 9) (oi := { dst := some 53, op := Op.binOp BinOp.eql 24 (Operand.tmp 51) (Operand.tmp 52) 24, type := 4, pos := "law.go:123", after := #[{ on := 7, ground := Ground.data }, { on := 8, ground := Ground.data }, { on := 6, ground := Ground.guard }], guard := some (6, true) }) (v := ?tk5) rfl (by kernel_rfl) (by kernel_rfl) (by kernel_rfl) (fun _ _ _ h => h) (Or.inl ⟨by rfl, ?tw5⟩) hHeld3 ?_
    case tw5 => (intro W hW; clear hW; first | (go_simp; done) | (go_simp; with_reducible rfl))
    try simp only [Act.put, List.setIfInBounds_toArray, List.set_cons_zero, List.set_cons_succ]
    refine wpAnyH_take (i := 10) (oi := { dst := some 54, op := Op.pick (Operand.tmp 50) (Operand.tmp 53) (Operand.const (Value.bool false)), type := 4, pos := "law.go:123", after := #[{ on := 6, ground := Ground.data }, { on := 9, ground := Ground.data }], guard := none }) (v := ?tk6) rfl (by kernel_rfl) (by kernel_rfl) (by kernel_rfl) (fun _ _ _ h => h) (Or.inl ⟨by rfl, ?tw6⟩) hHeld3 ?_
    case tw6 => (intro W hW; clear hW; first | (go_simp; done) | (go_simp; with_reducible rfl))
    try simp only [Act.put, List.setIfInBounds_toArray, List.set_cons_zero, List.set_cons_succ]
    refine wpAnyH_take (i := 11) (oi := { dst := some 55, op := Op.move (Operand.tmp 54), type := 4, pos := "law.go:123", after := #[{ on := 10, ground := Ground.data }, { on := 8, ground := Ground.chain }], guard := none }) (v := ?tk7) rfl (by kernel_rfl) (by kernel_rfl) (by kernel_rfl) (fun _ _ _ h => h) (Or.inl ⟨by rfl, ?tw7⟩) hHeld3 ?_
    case tw7 => (intro W hW; clear hW; first | (go_simp; done) | (go_simp; with_reducible rfl))
    try simp only [Act.put, List.setIfInBounds_toArray, List.set_cons_zero, List.set_cons_succ]
    refine wpAnyH_take (i := 13) (oi := { dst := some 57, op := Op.move (Operand.tmp 0), type := 22, pos := "law.go:123", after := #[{ on := 11, ground := Ground.guard }], guard := some (11, true) }) (v := ?tk8) rfl (by kernel_rfl) (by kernel_rfl) (by kernel_rfl) (fun _ _ _ h => h) (Or.inl ⟨by rfl, ?tw8⟩) hHeld3 ?_
    case tw8 => (intro W hW; clear hW; first | (go_simp; done) | (go_simp; with_reducible rfl))
    try simp only [Act.put, List.setIfInBounds_toArray, List.set_cons_zero, List.set_cons_succ]
    refine wpAnyH_ready (rs := [12]) (by kernel_rfl) (by simp) ?_
    refine AllReadyH.cons (o := { dst := some 56, op := Op.call { callee := Callee.value (Operand.func 15), args := #[Operand.tmp 6], argTypes := #[38] }, type := 24, pos := "law.go:123", after := #[{ on := 11, ground := Ground.chain }, { on := 11, ground := Ground.guard }], guard := some (11, true) }) rfl (fun K' hK => ?_) AllReadyH.nil
    go_simp
    refine ((HM2.out _ _ Hp_3.out (HK.out.kept HL_3.out))).mono ?_
    rintro e x4 ⟨rfl, hb⟩
    have H8_4 := Lib.hid (keptW hb H8_3.out)
    have Hp_4 := Lib.hid (Hp_3.out.kept hb)
    have Hq_4 := Lib.hid (Hq_3.out.kept hb)
    have Hz_4 := Lib.hid (Hz_3.out.kept hb)
    have HL_4 := Lib.hid (HL_3.out.trans (hb.mono HL_3.out.size))
    clear hb
    refine hK.out _ _ H8_4.out (fun hHeld4 => ?_)
    clear hK K'
    try simp only [Act.put, List.setIfInBounds_toArray, List.set_cons_zero, List.set_cons_succ]
    refine wpAnyH_ready (rs := [14]) (by kernel_rfl) (by simp) ?_
    refine AllReadyH.cons (o := { dst := some 58, op := Op.call { callee := Callee.value (Operand.func 9), args := #[Operand.tmp 57], argTypes := #[22] }, type := 24, pos := "law.go:123", after := #[{ on := 13, ground := Ground.data }, { on := 12, ground := Ground.chain }, { on := 11, ground := Ground.guard }], guard := some (11, true) }) rfl (fun K' hK => ?_) AllReadyH.nil
    go_simp
    refine ((HS2.out _ (HK.out.kept HL_4.out) Hz_4.out)).mono ?_
    rintro e x5 ⟨rfl, hb⟩
    have H8_5 := Lib.hid (keptW hb H8_4.out)
    have Hp_5 := Lib.hid (Hp_4.out.kept hb)
    have Hq_5 := Lib.hid (Hq_4.out.kept hb)
    have Hz_5 := Lib.hid (Hz_4.out.kept hb)
    have HL_5 := Lib.hid (HL_4.out.trans (hb.mono HL_4.out.size))
    clear hb
    refine hK.out _ _ H8_5.out (fun hHeld5 => ?_)
    clear hK K'
    try simp only [Act.put, List.setIfInBounds_toArray, List.set_cons_zero, List.set_cons_succ]
    refine wpAnyH_take (i := 15) (oi := { dst := some 59, op := Op.binOp BinOp.eql 24 (Operand.tmp 56) (Operand.tmp 58) 24, type := 4, pos := "law.go:123", after := #[{ on := 12, ground := Ground.data }, { on := 14, ground := Ground.data }, { on := 11, ground := Ground.guard }], guard := some (11, true) }) (v := ?tk9) rfl (by kernel_rfl) (by kernel_rfl) (by kernel_rfl) (fun _ _ _ h => h) (Or.inl ⟨by rfl, ?tw9⟩) hHeld5 ?_
    case tw9 => (intro W hW; clear hW; first | (go_simp; done) | (go_simp; with_reducible rfl))
    try simp only [Act.put, List.setIfInBounds_toArray, List.set_cons_zero, List.set_cons_succ]
    refine wpAnyH_take (i := 16) (oi := { dst := some 60, op := Op.pick (Operand.tmp 55) (Operand.tmp 59) (Operand.const (Value.bool false)), type := 4, pos := "law.go:123", after := #[{ on := 11, ground := Ground.data }, { on := 15, ground := Ground.data }], guard := none }) (v := ?tk10) rfl (by kernel_rfl) (by kernel_rfl) (by kernel_rfl) (fun _ _ _ h => h) (Or.inl ⟨by rfl, ?tw10⟩) hHeld5 ?_
    case tw10 => (intro W hW; clear hW; first | (go_simp; done) | (go_simp; with_reducible rfl))
    try simp only [Act.put, List.setIfInBounds_toArray, List.set_cons_zero, List.set_cons_succ]
    refine wpAnyH_take (i := 17) (oi := { dst := some 61, op := Op.move (Operand.tmp 60), type := 4, pos := "law.go:123", after := #[{ on := 16, ground := Ground.data }, { on := 14, ground := Ground.chain }], guard := none }) (v := ?tk11) rfl (by kernel_rfl) (by kernel_rfl) (by kernel_rfl) (fun _ _ _ h => h) (Or.inl ⟨by rfl, ?tw11⟩) hHeld5 ?_
    case tw11 => (intro W hW; clear hW; first | (go_simp; done) | (go_simp; with_reducible rfl))
    try simp only [Act.put, List.setIfInBounds_toArray, List.set_cons_zero, List.set_cons_succ]
    refine wpAnyH_take (i := 19) (oi := { dst := some 63, op := Op.move (Operand.tmp 0), type := 22, pos := "law.go:123", after := #[{ on := 17, ground := Ground.guard }], guard := some (17, true) }) (v := ?tk12) rfl (by kernel_rfl) (by kernel_rfl) (by kernel_rfl) (fun _ _ _ h => h) (Or.inl ⟨by rfl, ?tw12⟩) hHeld5 ?_
    case tw12 => (intro W hW; clear hW; first | (go_simp; done) | (go_simp; with_reducible rfl))
    try simp only [Act.put, List.setIfInBounds_toArray, List.set_cons_zero, List.set_cons_succ]
    refine wpAnyH_take (i := 20) (oi := { dst := some 64, op := Op.call { callee := Callee.builtin Builtin.len, args := #[Operand.tmp 63], argTypes := #[22] }, type := 3, pos := "law.go:123", after := #[{ on := 19, ground := Ground.data }, { on := 17, ground := Ground.guard }], guard := some (17, true) }) (v := ?tk13) rfl (by kernel_rfl) (by kernel_rfl) (by kernel_rfl) (fun _ _ _ h => h) (Or.inl ⟨by rfl, ?tw13⟩) hHeld5 ?_
    case tw13 => (intro W hW; clear hW; first | (go_simp; done) | (go_simp; with_reducible rfl))
    try simp only [Act.put, List.setIfInBounds_toArray, List.set_cons_zero, List.set_cons_succ]
    refine wpAnyH_ready (rs := [18]) (by kernel_rfl) (by simp) ?_
    refine AllReadyH.cons (o := { dst := some 62, op := Op.call { callee := Callee.value (Operand.func 16), args := #[Operand.tmp 6], argTypes := #[38] }, type := 3, pos := "law.go:123", after := #[{ on := 17, ground := Ground.chain }, { on := 17, ground := Ground.guard }], guard := some (17, true) }) rfl (fun K' hK => ?_) AllReadyH.nil
    go_simp
    refine ((HLN.out _ _ Hp_5.out)).mono ?_
    rintro e x6 ⟨rfl, hb⟩
    have H8_6 := Lib.hid (keptW hb H8_5.out)
    have Hp_6 := Lib.hid (Hp_5.out.kept hb)
    have Hq_6 := Lib.hid (Hq_5.out.kept hb)
    have Hz_6 := Lib.hid (Hz_5.out.kept hb)
    have HL_6 := Lib.hid (HL_5.out.trans (hb.mono HL_5.out.size))
    clear hb
    refine hK.out _ _ H8_6.out (fun hHeld6 => ?_)
    clear hK K'
    try simp only [Act.put, List.setIfInBounds_toArray, List.set_cons_zero, List.set_cons_succ]
    refine wpAnyH_take (i := 21) (oi := { dst := some 65, op := Op.binOp BinOp.eql 3 (Operand.tmp 62) (Operand.tmp 64) 3, type := 4, pos := "law.go:123", after := #[{ on := 18, ground := Ground.data }, { on := 20, ground := Ground.data }, { on := 17, ground := Ground.guard }], guard := some (17, true) }) (v := ?tk14) rfl (by kernel_rfl) (by kernel_rfl) (by kernel_rfl) (fun _ _ _ h => h) (Or.inl ⟨by rfl, ?tw14⟩) hHeld6 ?_
    case tw14 => (intro W hW; clear hW; first | (go_simp; done) | (go_simp; with_reducible rfl))
    try simp only [Act.put, List.setIfInBounds_toArray, List.set_cons_zero, List.set_cons_succ]
    refine wpAnyH_take (i := 22) (oi := { dst := some 66, op := Op.pick (Operand.tmp 61) (Operand.tmp 65) (Operand.const (Value.bool false)), type := 4, pos := "law.go:123", after := #[{ on := 17, ground := Ground.data }, { on := 21, ground := Ground.data }], guard := none }) (v := ?tk15) rfl (by kernel_rfl) (by kernel_rfl) (by kernel_rfl) (fun _ _ _ h => h) (Or.inl ⟨by rfl, ?tw15⟩) hHeld6 ?_
    case tw15 => (intro W hW; clear hW; first | (go_simp; done) | (go_simp; with_reducible rfl))
    try simp only [Act.put, List.setIfInBounds_toArray, List.set_cons_zero, List.set_cons_succ]
    refine wpAnyH_take (i := 23) (oi := { dst := some 67, op := Op.move (Operand.tmp 66), type := 4, pos := "law.go:123", after := #[{ on := 22, ground := Ground.data }, { on := 18, ground := Ground.chain }], guard := none }) (v := ?tk16) rfl (by kernel_rfl) (by kernel_rfl) (by kernel_rfl) (fun _ _ _ h => h) (Or.inl ⟨by rfl, ?tw16⟩) hHeld6 ?_
    case tw16 => (intro W hW; clear hW; first | (go_simp; done) | (go_simp; with_reducible rfl))
    try simp only [Act.put, List.setIfInBounds_toArray, List.set_cons_zero, List.set_cons_succ]
    refine wpAnyH_ready (rs := [24]) (by kernel_rfl) (by simp) ?_
    refine AllReadyH.cons (o := { dst := some 68, op := Op.call { callee := Callee.value (Operand.func 8), args := #[], argTypes := #[] }, type := 4, pos := "law.go:123", after := #[{ on := 23, ground := Ground.chain }, { on := 23, ground := Ground.guard }], guard := some (23, true) }) rfl (fun K' hK => ?_) AllReadyH.nil
    go_simp
    refine ((known_any _ (HK.out.kept HL_6.out))).mono ?_
    rintro e x7 ⟨rfl, hb⟩
    have H8_7 := Lib.hid (keptW hb H8_6.out)
    have Hp_7 := Lib.hid (Hp_6.out.kept hb)
    have Hq_7 := Lib.hid (Hq_6.out.kept hb)
    have Hz_7 := Lib.hid (Hz_6.out.kept hb)
    have HL_7 := Lib.hid (HL_6.out.trans (hb.mono HL_6.out.size))
    clear hb
    refine hK.out _ _ H8_7.out (fun hHeld7 => ?_)
    clear hK K'
    try simp only [Act.put, List.setIfInBounds_toArray, List.set_cons_zero, List.set_cons_succ]
    refine wpAnyH_take (i := 25) (oi := { dst := some 69, op := Op.pick (Operand.tmp 67) (Operand.tmp 68) (Operand.const (Value.bool false)), type := 4, pos := "law.go:123", after := #[{ on := 23, ground := Ground.data }, { on := 24, ground := Ground.data }], guard := none }) (v := ?tk17) rfl (by kernel_rfl) (by kernel_rfl) (by kernel_rfl) (fun _ _ _ h => h) (Or.inl ⟨by rfl, ?tw17⟩) hHeld7 ?_
    case tw17 => (intro W hW; clear hW; first | (go_simp; done) | (go_simp; with_reducible rfl))
    try simp only [Act.put, List.setIfInBounds_toArray, List.set_cons_zero, List.set_cons_succ]
    refine wpAnyH_take (i := 26) (oi := { dst := some 4, op := Op.assign (Operand.tmp 69), type := 4, pos := "law.go:123", after := #[{ on := 25, ground := Ground.data }, { on := 24, ground := Ground.chain }, { on := 0, ground := Ground.phase }, { on := 1, ground := Ground.phase }, { on := 2, ground := Ground.phase }, { on := 3, ground := Ground.phase }, { on := 4, ground := Ground.phase }, { on := 5, ground := Ground.phase }, { on := 6, ground := Ground.phase }, { on := 7, ground := Ground.phase }, { on := 8, ground := Ground.phase }, { on := 9, ground := Ground.phase }, { on := 10, ground := Ground.phase }, { on := 11, ground := Ground.phase }, { on := 12, ground := Ground.phase }, { on := 13, ground := Ground.phase }, { on := 14, ground := Ground.phase }, { on := 15, ground := Ground.phase }, { on := 16, ground := Ground.phase }, { on := 17, ground := Ground.phase }, { on := 18, ground := Ground.phase }, { on := 19, ground := Ground.phase }, { on := 20, ground := Ground.phase }, { on := 21, ground := Ground.phase }, { on := 22, ground := Ground.phase }, { on := 23, ground := Ground.phase }, { on := 24, ground := Ground.phase }, { on := 25, ground := Ground.phase }], guard := none }) (v := ?tk18) rfl (by kernel_rfl) (by kernel_rfl) (by kernel_rfl) (fun _ _ _ h => h) (Or.inl ⟨by rfl, ?tw18⟩) hHeld7 ?_
    case tw18 => (intro W hW; clear hW; first | (go_simp; done) | (go_simp; with_reducible rfl))
    try simp only [Act.put, List.setIfInBounds_toArray, List.set_cons_zero, List.set_cons_succ]
    refine wpAnyH_done (by kernel_rfl) ?_ _
    refine NoPanic.normal ?_
    go_wp2_with fail
    go_ret
    exact ⟨rfl, HL_7.out⟩
end Go.Proofs.YtjpieoepokakgaaDoor
