/- MacDivides walked. -/
import Derived.Deep.RegionHeld3
import Derived.Test.YtmlacbdonkfbdaaDoorWL
namespace Go.Proofs.YtmlacbdonkfbdaaDoor
open Go.RowKit Go.Shelf

theorem bytes_take {bs : List Nat} {a : Option Addr} {L c : Nat} {W : World} (h : BytesAt bs (.slice a L c) W) (m : Nat) (hm : m ≤ L) : BytesAt (bs.take m) (.slice a m c) W := by
  obtain ⟨h1, a0, c0, e, hc, h2⟩ := h
  cases e
  have hl : (bs.take m).length = m := by rw [List.length_take]; omega
  refine ⟨fun x hx => h1 x (List.mem_of_mem_take hx), a, c, by rw [hl], by omega, ?_⟩
  rw [hl]
  rcases h2 with h2 | ⟨b, off, ea, hb, hj⟩
  · exact .inl (by omega)
  · refine .inr ⟨b, off, ea, hb, fun j hjl => ?_⟩
    rw [hj j (by omega)]
    simp [List.getD, hjl]
theorem run_slice22_h (a : Option Addr) (L c n : Nat) (hn : n ≤ c) (ha : a = none → c = 0) (W : World) : (Instr.sliceAt 22 (.slice a L c) none (some (.int .i64 (n : Nat))) none).run Tryd.prog W = .ok (.slice a n c) W := by
  have e1 : ((n : Nat) : Int).toNat = n := Int.toNat_natCast n
  have e7 : (0 : Int) ≤ (n : Int) := by omega
  have e6 : ((n : Nat) : Int) ≤ (c : Int) := by omega
  cases a with
  | none =>
    obtain rfl := ha rfl
    obtain rfl : n = 0 := by omega
    go_simp
  | some ad => go_simp
/-- A slice from place m on. -/
def lowS (a : Option Addr) (L c m : Nat) : Value := .slice (a.map fun x => if c = m then x else x.add m) (L - m) (c - m)
theorem run_slice22_low (a : Option Addr) (L c m : Nat) (hm : m ≤ L) (hc : L ≤ c) (ha : a = none → c = 0) (W : World) : (Instr.sliceAt 22 (.slice a L c) (some (.int .i64 (m : Nat))) none none).run Tryd.prog W = .ok (lowS a L c m) W := by
  have e2 : ((m : Nat) : Int).toNat = m := Int.toNat_natCast m
  have e8 : (0 : Int) ≤ (m : Int) := by omega
  have e9 : ((m : Nat) : Int) ≤ (L : Int) := by omega
  have e10 : ((L : Nat) : Int) ≤ (c : Int) := by omega
  unfold lowS
  cases a with
  | none =>
    obtain rfl := ha rfl
    obtain rfl : L = 0 := by omega
    obtain rfl : m = 0 := by omega
    go_simp
  | some ad =>
    by_cases h : c = m
    · subst h
      obtain rfl : L = c := by omega
      simp only [Option.map_some, if_true]
      go_simp
    · simp only [Option.map_some, if_neg h]
      go_simp
theorem bytes_low {bs : List Nat} {a : Option Addr} {L c : Nat} {W : World} (h : BytesAt bs (.slice a L c) W) (m : Nat) (hm : m ≤ L) : BytesAt (bs.drop m) (lowS a L c m) W := by
  obtain ⟨h1, a2, c2, e, hc, h2⟩ := h
  cases e
  unfold lowS
  refine ⟨fun x hx => h1 x (List.mem_of_mem_drop hx), _, c - m, by rw [List.length_drop], by rw [List.length_drop]; omega, ?_⟩
  rw [List.length_drop]
  rcases h2 with h2 | ⟨b', off', ea, hb, hj⟩
  · exact .inl (by omega)
  · subst ea
    by_cases h : bs.length = m
    · exact .inl (by omega)
    · refine .inr ⟨b', off' + m, ?_, hb, fun j hjl => ?_⟩
      · rw [Option.map_some, if_neg (by omega)]
        simp [Addr.add]
      · rw [Nat.add_assoc, hj (m + j) (by omega)]
        simp [List.getD, List.getElem?_drop]
theorem nil0_low {a : Option Addr} {L c m : Nat} (h : Nil0 (.slice a L c)) : Nil0 (lowS a L c m) := by
  intro L' c' e
  unfold lowS at e
  cases a with
  | none => have := h _ _ rfl; injection e with e1 e2 e3; omega
  | some ad => injection e with e1; cases e1
theorem inS_low {a : Option Addr} {L c m j : Nat} (h : InS (lowS a L c m) j) : InS (.slice a L c) j := by
  obtain ⟨off, sp, L', c', e⟩ := h
  unfold lowS at e
  cases a with
  | none => injection e with e1; cases e1
  | some ad =>
    injection e with e1
    rw [Option.map_some] at e1
    have e2 := Option.some.inj e1
    obtain ⟨b, o, s⟩ := ad
    split at e2
    · cases e2; exact ⟨_, _, _, _, rfl⟩
    · unfold Addr.add at e2
      split at e2 <;> (cases e2; exact ⟨_, _, _, _, rfl⟩)
theorem inS_take {a : Option Addr} {L c n j : Nat} (h : InS (.slice a n c) j) : InS (.slice a L c) j := by
  obtain ⟨off, sp, L', c', e⟩ := h
  cases e; exact ⟨_, _, _, _, rfl⟩


theorem owns_nil0 {base k : Nat} {w : World} {s : Value} {xs : List Value} (h : w.ownsRow base 5 1 s k xs) : Nil0 s := by
  rintro L c rfl
  rcases h.2 with ⟨e, _⟩ | ⟨g, cap, cur, e, _⟩
  · cases e; rfl
  · cases e
theorem mac_pad {key : List Nat} (h : key.length ≤ 64) (zs : List Nat) : macL (key ++ zl (64 - key.length)) zs = macL key zs := by
  have hl : (key ++ zl (64 - key.length)).length = 64 := by rw [List.length_append, zl_len]; omega
  have e1 : keyL (key ++ zl (64 - key.length)) = key ++ zl (64 - key.length) := if_neg (by omega)
  have e2 : keyL key = key := if_neg (by omega)
  have e3 : kbL (key ++ zl (64 - key.length)) = kbL key := by
    unfold kbL splice
    rw [hl, List.take_zero, List.nil_append, List.nil_append, Nat.zero_add, Nat.zero_add, z64_eq, List.drop_replicate, List.drop_replicate, Nat.sub_self, zl_eq]
    simp
  unfold macL blkL
  rw [e1, e2, e3]
theorem cat3 (zs : List Nat) (n : Nat) : catL [zs.take n, [], zs.drop n] = zs := by simp [catL]
theorem cat1 (zs : List Nat) : catL [zs] = zs := by simp [catL]
theorem listAt_three {S S' S3 : Value} {l l' l3 : List Nat} {g : Nat} {W : World} (hr : rowN W g = some #[S, S', S3]) (hB : BytesAt l S W) (hn : Nil0 S) (hB' : BytesAt l' S' W) (hn' : Nil0 S') (hB3 : BytesAt l3 S3 W) (hn3 : Nil0 S3) : ListAt [l, l', l3] (.slice (some ⟨g, 0, none⟩) 3 3) W :=
  ⟨_, 3, rfl, .inr ⟨g, 0, rfl, rowN_lt hr, fun i hi => by
    have hi2 : i < 3 := hi
    rcases (by omega : i = 0 ∨ i = 1 ∨ i = 2) with rfl | rfl | rfl
    · exact ⟨S, (rowN_cell hr).1 0, hB, hn⟩
    · exact ⟨S', (rowN_cell hr).1 1, hB', hn'⟩
    · exact ⟨S3, (rowN_cell hr).1 2, hB3, hn3⟩⟩⟩
theorem take_len_eq (O : List Nat) (k : Nat) (h : k ≤ O.length) : O.take k = O.take (O.take k).length := by rw [List.length_take, Nat.min_eq_left h]
set_option maxRecDepth 100000 in
set_option maxHeartbeats 8000000 in
theorem divides_walk (key zs : List Nat) (ks s : Value) (t : Nat) (w : World) (ht : t < 65536) (hKB : BytesAt key ks w) (hKn : Nil0 ks) (hB : BytesAt zs s w) (hnil : Nil0 s) (hK : KG w) :
    Calls Tryd.prog 6 #[ks, s, .int .u16 (t : Nat)] w fun e w' => e = .returned (.bool true) ∧ Below w.heap.size w w' := by
  have HKB := Lib.hid hKB
  have HKN := Lib.hid hKn
  have HB := Lib.hid hB
  have HN := Lib.hid hnil
  have HK := Lib.hid hK
  obtain ⟨a, c, rfl, hcap⟩ : ∃ a c, s = .slice a zs.length c ∧ zs.length ≤ c := by obtain ⟨_, a, c, e, hc, _⟩ := hB; exact ⟨a, c, e, hc⟩
  obtain ⟨ka, kc, rfl, hkcap⟩ : ∃ a c, ks = .slice a key.length c ∧ key.length ≤ c := by obtain ⟨_, a, c, e, hc, _⟩ := hKB; exact ⟨a, c, e, hc⟩
  obtain ⟨L, hl⟩ : ∃ L, zs.length = L := ⟨_, rfl⟩
  obtain ⟨K, hkl⟩ : ∃ K, key.length = K := ⟨_, rfl⟩
  have HL := Lib.hid hl
  have HKL := Lib.hid hkl
  rw [hl] at HB HN hcap ⊢
  rw [hkl] at HKB HKN hkcap ⊢
  clear hB hnil hK hl hKB hKn hkl
  by_cases hbigk : 64 < K
  · have hb : (64 : Int) < ((K : Nat) : Int) := by omega
    go_enter Tryd.func6, Tryd.ntmps6
    go_wp2_with fail
    refine (known_any _ HK.out).mono ?_
    rintro e w1 ⟨rfl, hb1⟩
    have HB1 := Lib.hid hb1
    clear hb1
    go_wp2_with fail
    go_ret
    exact ⟨rfl, HB1.out⟩
  have hbk : ¬ (64 : Int) < ((K : Nat) : Int) := by omega
  by_cases hbig : 300 < L
  · have hb : (300 : Int) < ((L : Nat) : Int) := by omega
    go_enter Tryd.func6, Tryd.ntmps6
    go_wp2_with fail
    refine (known_any _ HK.out).mono ?_
    rintro e w1 ⟨rfl, hb1⟩
    have HB1 := Lib.hid hb1
    clear hb1
    go_wp2_with fail
    go_ret
    exact ⟨rfl, HB1.out⟩
  have hb : ¬ (300 : Int) < ((L : Nat) : Int) := by omega
  obtain ⟨n, hn⟩ : ∃ n, t % (L + 1) = n := ⟨_, rfl⟩
  have hnL : n ≤ L := by have := Nat.mod_lt t (show 0 < L + 1 by omega); omega
  have hmod : ((t : Nat) : Int) % (((L : Nat) : Int) + 1) = ((n : Nat) : Int) := by rw [← hn, Int.natCast_emod]; simp
  have e0 : IntKind.i64.wrap ((t : Nat) : Int) = ((t : Nat) : Int) := IntWalk.i64_in _ (by omega)
  have e1 : IntKind.i64.wrap (((L : Nat) : Int) + 1) = ((L : Nat) : Int) + 1 := IntWalk.i64_in _ (by omega)
  have e2 : ¬ (((L : Nat) : Int) + 1 = 0) := by omega
  obtain ⟨m, hm⟩ : ∃ m, 64 - K = m := ⟨_, rfl⟩
  have e64 : IntKind.i64.wrap (64 - ((K : Nat) : Int)) = ((m : Nat) : Int) := (IntWalk.i64_in _ (by omega)).trans (by omega)
  have hm64 : m ≤ 64 := by omega
  obtain ⟨q, hq⟩ : ∃ q, n % 32 = q := ⟨_, rfl⟩
  have hq32 : q < 32 := by omega
  have e32 : ((n : Nat) : Int) % 32 = ((q : Nat) : Int) := by omega
  have et : ((n : Nat) : Int).tmod 32 = ((q : Nat) : Int) := by rw [Int.tmod_eq_emod_of_nonneg (by omega)]; omega
  have e33 : IntKind.i64.wrap (1 + ((q : Nat) : Int)) = ((q + 1 : Nat) : Int) := (IntWalk.i64_in _ (by omega)).trans (by omega)
  have HE33 := Lib.hid e33
  have hsh := fun W => run_slice22_h a L c n (by omega) (fun h => HN.out _ _ (by rw [h])) W
  have hsl := fun W => run_slice22_low a L c n hnL hcap (fun h => HN.out _ _ (by rw [h])) W
  have HNT := Lib.hid (show Nil0 (.slice a n c) from fun L' c' e => by injection e with h1 h2 h3; subst h1; rw [← h3]; exact HN.out _ _ rfl)
  have HNL := Lib.hid (show Nil0 (lowS a L c n) from nil0_low HN.out)
  have HBT := Lib.hid (fun (W : World) (h : BytesAt zs (.slice a L c) W) => show BytesAt (zs.take n) (.slice a n c) W from bytes_take h n hnL)
  have HBD := Lib.hid (fun (W : World) (h : BytesAt zs (.slice a L c) W) => show BytesAt (zs.drop n) (lowS a L c n) W by rw [← HL.out] at h ⊢; exact bytes_low h n (by rw [HL.out]; exact hnL))
  obtain ⟨al, ll, cz, hsl0⟩ : ∃ x y z, lowS a L c n = .slice x y z := ⟨_, _, _, rfl⟩
  rw [hsl0] at hsl HNL HBD
  have hO32 := macL_len key zs
  have hO256 := Lib.hid (macL_256 key zs)
  obtain ⟨O, hO⟩ : ∃ O, macL key zs = O := ⟨_, rfl⟩
  have HOE := Lib.hid hO
  have HLONG := Lib.hid (show macL (key ++ zl m) zs = O by rw [← hm, ← HKL.out, mac_pad (by rw [HKL.out]; omega), hO])
  rw [hO] at hO32 hO256
  have HO32 := Lib.hid hO32
  have HONE := Lib.hid (fun (X : World) (hb : Below w.heap.size w X) => show Below X.heap.size X (X.alloc (.cells #[.slice a L c] 22)) ∧ KG (X.alloc (.cells #[.slice a L c] 22)) ∧ BytesAt key (.slice ka K kc) (X.alloc (.cells #[.slice a L c] 22)) ∧ ListAt [zs] (.slice (some ⟨X.heap.size, 0, none⟩) 1 1) (X.alloc (.cells #[.slice a L c] 22)) from by
    have h1 : Below X.heap.size X (X.alloc (.cells #[.slice a L c] 22)) := (Below.refl _ _).alloc (Nat.le_refl _) _
    exact ⟨h1, (HK.out.kept hb).kept h1, (HKB.out.kept hb).kept h1, listAt_one (by rw [rowN_alloc, if_pos rfl]) ((HB.out.kept hb).kept h1) HN.out⟩)
  have HC1 := Lib.hid (show (catL [zs]).length ≤ 140737488355264 by rw [cat1, HL.out]; omega)
  have HK4096 := Lib.hid (show key.length ≤ 4096 by rw [HKL.out]; omega)
  have HM1 := Lib.hid (fun (X : World) (hb : Below w.heap.size w X) => show Calls Tryd.prog 10 #[.slice ka K kc, .slice (some ⟨X.heap.size, 0, none⟩) 1 1] (X.alloc (.cells #[.slice a L c] 22)) (fun e w' => e = .returned (.tuple #[.agg (arr .u8 O), .int .i64 0]) ∧ Below X.heap.size X w') from by
    obtain ⟨h1, h2, h3, h4⟩ := HONE.out X hb
    have h := hmac_any key [zs] _ _ HK4096.out HC1.out (by simp) _ h2 h3 HKN.out h4
    rw [cat1, HOE.out] at h
    refine h.mono ?_
    rintro e w' ⟨e1, e4⟩
    exact ⟨e1, h1.trans (e4.mono h1.size)⟩)
  have HM2 := Lib.hid (fun (g : Nat) (X : World) (hb : Below w.heap.size w X) (hr : rowN X g = some #[.slice a n c, .slice none 0 0, .slice al ll cz]) => show Calls Tryd.prog 10 #[.slice ka K kc, .slice (some ⟨g, 0, none⟩) 3 3] X (fun e w' => e = .returned (.tuple #[.agg (arr .u8 O), .int .i64 0]) ∧ Below X.heap.size X w') from by
    have h := hmac_any key [zs.take n, [], zs.drop n] _ _ HK4096.out (by rw [cat3, HL.out]; omega) (by simp) X (HK.out.kept hb) (HKB.out.kept hb) HKN.out (listAt_three hr (HBT.out _ (HB.out.kept hb)) HNT.out ⟨fun x hx => (by cases hx), none, 0, rfl, by decide, .inl rfl⟩ (fun L c e => by injection e with e1 e2 e3; exact e3.symm) (HBD.out _ (HB.out.kept hb)) HNL.out)
    rw [cat3, HOE.out] at h
    exact h)
  have HM3 := Lib.hid (fun (v : Value) (X : World) (hb : Below w.heap.size w X) (hv : BytesAt (key ++ zl m) v X) (hvn : Nil0 v) => show Calls Tryd.prog 10 #[v, .slice (some ⟨X.heap.size, 0, none⟩) 1 1] (X.alloc (.cells #[.slice a L c] 22)) (fun e w' => e = .returned (.tuple #[.agg (arr .u8 O), .int .i64 0]) ∧ Below X.heap.size X w') from by
    obtain ⟨h1, h2, h3, h4⟩ := HONE.out X hb
    have h := hmac_any (key ++ zl m) [zs] _ _ (by rw [List.length_append, zl_len, HKL.out]; omega) HC1.out (by simp) _ h2 (hv.kept h1) hvn h4
    rw [cat1, HLONG.out] at h
    refine h.mono ?_
    rintro e w' ⟨e1, e4⟩
    exact ⟨e1, h1.trans (e4.mono h1.size)⟩)
  have HT := Lib.hid (fun (X : World) (hb : Below w.heap.size w X) => show Calls Tryd.prog 11 #[.int .i64 32, .slice ka K kc, .slice (some ⟨X.heap.size, 0, none⟩) 1 1] (X.alloc (.cells #[.slice a L c] 22)) (fun e w' => ∃ s', e = .returned (.tuple #[s', .int .i64 0]) ∧ BytesAt O s' w' ∧ Nil0 s' ∧ Below X.heap.size X w') from by
    obtain ⟨h1, h2, h3, h4⟩ := HONE.out X hb
    have h := trunc_any 32 (by omega) (by omega) key [zs] _ _ HK4096.out HC1.out (by simp) _ h2 h3 HKN.out h4
    rw [cat1, HOE.out, List.take_of_length_le (by rw [HO32.out]; omega)] at h
    refine h.mono ?_
    rintro e w' ⟨s', e1, e2, e3, e4⟩
    exact ⟨s', e1, e2, e3, h1.trans (e4.mono h1.size)⟩)
  have HCK := Lib.hid (fun (g g2 : Nat) (X : World) (hb : Below w.heap.size w X) (hr : rowN X g = some (arr .u8 O)) (hr2 : rowN X g2 = some #[.slice a L c]) => show Calls Tryd.prog 13 #[.slice ka K kc, .slice (some ⟨g, 0, none⟩) (q + 1) 32, .slice (some ⟨g2, 0, none⟩) 1 1] X (fun e w' => e = .returned (.int .i64 0) ∧ Below X.heap.size X w') from by
    have hzl : (O.take (q + 1)).length = q + 1 := by rw [List.length_take, HO32.out]; omega
    have h := check_any (O.take (q + 1)) (.slice (some ⟨g, 0, none⟩) (q + 1) 32) (by omega) (by omega) key [zs] _ _ HK4096.out HC1.out (by simp) X (HK.out.kept hb) (HKB.out.kept hb) HKN.out (listAt_one hr2 (HB.out.kept hb) HN.out) (bytes_take_row hO256.out hr (q + 1) (by rw [HO32.out]; omega) (by omega))
    rw [cat1, HOE.out, hzl, if_pos rfl] at h
    exact h)
  have hz32 := z32_lit
  have hzl : z32.length = 32 := rfl
  have sz2 : (arr .u8 O).size = 32 := by rw [arr_size, hO32]
  have sz4 : (arr .u8 z32).size = 32 := by rw [arr_size]; rfl
  have hs24 := run_slice24_all
  have hown2 : (w.alloc (.cells #[] 5)).ownsRow w.heap.size 5 1 (.slice (some ⟨w.heap.size, 0, none⟩) 0 0) ([] : List Nat).length (cl []) := World.ownsRow_lit w #[] 0 (Nat.le_refl _) (by unfold maxLen; omega) rfl
  have hbel2 : Below w.heap.size w (w.alloc (.cells #[] 5)) := (Below.refl _ w).alloc (Nat.le_refl _) _
  clear hn hm hsl0 hO hq
  go_enter Tryd.func6, Tryd.ntmps6
  go_wp2_with (first
    | (at_builtin; refine wpList_app rfl _ _ rfl w.heap.size rfl rfl hown2 (HKB.out.kept hbel2) HKN.out (by rw [HKL.out]; simp; omega) hbel2.size ?_; intro v3 w3 hown3 hgrow3; rw [List.nil_append] at hown3; have hb3 := below_owned hbel2 hown2 hgrow3 hbel2.size)
    | (at_builtin; refine wpList_app0 (n := m) rfl _ _ rfl w.heap.size rfl rfl hown3 (by rw [HKL.out]; omega) hb3.size ?_; intro v4 w4 hown4 hgrow4; have hb4 := below_owned hb3 hown3 hgrow4 hb3.size))
  have hy := owns_both (l := key ++ zl m) (fun x hx => by
    rcases List.mem_append.1 hx with hx | hx
    · exact HKB.out.1 x hx
    · rw [zl_eq] at hx; have := List.eq_of_mem_replicate hx; omega) hown4
  have hyn := owns_nil0 hown4
  have HY := Lib.hid hy.1
  have HYN := Lib.hid hyn
  have HB4 := Lib.hid hb4
  clear hown2 hbel2 hown3 hgrow3 hb3 hown4 hgrow4 hb4 hy hyn e64
  refine (HM1.out _ HB4.out).mono ?_
  rintro e w5 ⟨rfl, hb5⟩
  have HY5 := Lib.hid (HY.out.kept hb5)
  have HB5 := Lib.hid (HB4.out.trans (hb5.mono HB4.out.size))
  clear hb5 HY HB4
  go_upto_region 6 with fail
  obtain ⟨V, hV⟩ : ∃ V, (w5.alloc (.cells (arr .u8 z32) 27)).setRow w5.heap.size (arr .u8 O) = V := ⟨_, rfl⟩
  have hbV : Below w5.heap.size w5 V := by rw [← hV]; exact below_setRow' ((Below.refl _ _).alloc (Nat.le_refl _) _) (Nat.le_refl _) _
  have hrV : rowN V w5.heap.size = some (arr .u8 O) := by rw [← hV]; exact row_new (cs := arr .u8 z32) (by rw [rowN_alloc, if_pos rfl])
  rw [hV]
  have HBV := Lib.hid (HB5.out.trans (hbV.mono HB5.out.size))
  have HYV := Lib.hid (HY5.out.kept hbV)
  obtain ⟨g9, hg9⟩ : ∃ g, w5.heap.size = g := ⟨_, rfl⟩
  rw [hg9] at hrV ⊢
  have HR9 := Lib.hid hrV
  have HL_0 := Lib.hid (show Below V.heap.size V V.drew from (Below.refl _ V).drew)
  clear hV hbV hrV hg9 HB5 HY5
  refine wp_region_noPanic ?_
  refine wp_region_held_drew (S := fun W => True) (by kernel_rfl) trivial (fun hHeld0 => ?_)
  obtain ⟨x0, hx0⟩ : ∃ X, V.drew = X := ⟨_, rfl⟩
  rw [hx0] at  HL_0 ⊢
  clear hx0
  refine wpAnyH_take (i := 0) (oi := { dst := some 47, op := Op.move (Operand.tmp 0), type := 22, pos := "law.go:135", after := #[], guard := none }) (v := ?tk36) rfl (by kernel_rfl) (by kernel_rfl) (by kernel_rfl) (fun _ _ _ h => h) (Or.inl ⟨by rfl, ?tw36⟩) hHeld0 ?_
  case tw36 => (intro W hW; clear hW; first | (go_simp; done) | (go_simp; with_reducible rfl))
  try simp only [Act.put, List.setIfInBounds_toArray, List.set_cons_zero, List.set_cons_succ]
  refine wpAnyH_take (i := 1) (oi := { dst := some 48, op := Op.move (Operand.tmp 1), type := 22, pos := "law.go:135", after := #[], guard := none }) (v := ?tk37) rfl (by kernel_rfl) (by kernel_rfl) (by kernel_rfl) (fun _ _ _ h => h) (Or.inl ⟨by rfl, ?tw37⟩) hHeld0 ?_
  case tw37 => (intro W hW; clear hW; first | (go_simp; done) | (go_simp; with_reducible rfl))
  try simp only [Act.put, List.setIfInBounds_toArray, List.set_cons_zero, List.set_cons_succ]
  refine wpAnyH_take (i := 2) (oi := { dst := some 49, op := Op.move (Operand.tmp 7), type := 3, pos := "law.go:135", after := #[], guard := none }) (v := ?tk38) rfl (by kernel_rfl) (by kernel_rfl) (by kernel_rfl) (fun _ _ _ h => h) (Or.inl ⟨by rfl, ?tw38⟩) hHeld0 ?_
  case tw38 => (intro W hW; clear hW; first | (go_simp; done) | (go_simp; with_reducible rfl))
  try simp only [Act.put, List.setIfInBounds_toArray, List.set_cons_zero, List.set_cons_succ]
  refine wpAnyH_take (i := 3) (oi := { dst := some 50, op := Op.slice 22 (Operand.tmp 48) none (some (Operand.tmp 49)) none, type := 22, pos := "law.go:135", after := #[{ on := 1, ground := Ground.data }, { on := 2, ground := Ground.data }], guard := none }) (v := ?tk39) rfl (by kernel_rfl) (by kernel_rfl) (by kernel_rfl) (fun _ _ _ h => h) (Or.inl ⟨by rfl, ?tw39⟩) hHeld0 ?_
  case tw39 => (intro W hW; clear hW; first | (go_simp; done) | (go_simp; with_reducible rfl))
  try simp only [Act.put, List.setIfInBounds_toArray, List.set_cons_zero, List.set_cons_succ]
  refine wpAnyH_take (i := 4) (oi := { dst := some 51, op := Op.move (Operand.tmp 1), type := 22, pos := "law.go:135", after := #[], guard := none }) (v := ?tk40) rfl (by kernel_rfl) (by kernel_rfl) (by kernel_rfl) (fun _ _ _ h => h) (Or.inl ⟨by rfl, ?tw40⟩) hHeld0 ?_
  case tw40 => (intro W hW; clear hW; first | (go_simp; done) | (go_simp; with_reducible rfl))
  try simp only [Act.put, List.setIfInBounds_toArray, List.set_cons_zero, List.set_cons_succ]
  refine wpAnyH_take (i := 5) (oi := { dst := some 52, op := Op.move (Operand.tmp 7), type := 3, pos := "law.go:135", after := #[], guard := none }) (v := ?tk41) rfl (by kernel_rfl) (by kernel_rfl) (by kernel_rfl) (fun _ _ _ h => h) (Or.inl ⟨by rfl, ?tw41⟩) hHeld0 ?_
  case tw41 => (intro W hW; clear hW; first | (go_simp; done) | (go_simp; with_reducible rfl))
  try simp only [Act.put, List.setIfInBounds_toArray, List.set_cons_zero, List.set_cons_succ]
  refine wpAnyH_take (i := 6) (oi := { dst := some 53, op := Op.slice 22 (Operand.tmp 51) (some (Operand.tmp 52)) none none, type := 22, pos := "law.go:135", after := #[{ on := 4, ground := Ground.data }, { on := 5, ground := Ground.data }], guard := none }) (v := ?tk42) rfl (by kernel_rfl) (by kernel_rfl) (by kernel_rfl) (fun _ _ _ h => h) (Or.inl ⟨by rfl, ?tw42⟩) hHeld0 ?_
  case tw42 => (intro W hW; clear hW; first | (go_simp; done) | (go_simp; with_reducible rfl))
  try simp only [Act.put, List.setIfInBounds_toArray, List.set_cons_zero, List.set_cons_succ]
  refine wpAnyH_ready (rs := [7, 12]) (by kernel_rfl) (by simp) ?_
  refine AllReadyH.cons (o := { dst := some 54, op := Op.buildSlice 23 3 #[(0, Operand.tmp 50), (1, Operand.const (Value.slice none 0 0)), (2, Operand.tmp 53)], type := 23, pos := "law.go:135", after := #[{ on := 3, ground := Ground.data }, { on := 6, ground := Ground.data }], guard := none }) rfl (fun K' hK => ?_) ?_
  · go_simp
    obtain ⟨x1, hx1⟩ : ∃ X, x0.alloc (.cells #[.slice a n c, .slice none 0 0, .slice al ll cz] 22) = X := ⟨_, rfl⟩
    have hb : Below x0.heap.size x0 x1 := by rw [← hx1]; exact (Below.refl _ _).alloc (Nat.le_refl _) _
    have HL_1 := Lib.hid (HL_0.out.trans (hb.mono HL_0.out.size))
    have hnew : rowN x1 x0.heap.size = some #[.slice a n c, .slice none 0 0, .slice al ll cz] := by rw [← hx1, rowN_alloc, if_pos rfl]
    have hgel : V.heap.size ≤ x0.heap.size := HL_0.out.size
    rw [hx1]
    obtain ⟨gl, hgl⟩ : ∃ g, x0.heap.size = g := ⟨_, rfl⟩
    rw [hgl] at hnew hgel ⊢
    have Hl_1 := Lib.hid hnew
    clear hb hnew hgl hx1
    refine hK.out _ _ trivial (fun hHeld1 => ?_)
    clear hK K'
    try simp only [Act.put, List.setIfInBounds_toArray, List.set_cons_zero, List.set_cons_succ]
    refine wpAnyH_ready (rs := [8, 12]) (by kernel_rfl) (by simp) ?_
    refine AllReadyH.cons (o := { dst := some 55, op := Op.call { callee := Callee.value (Operand.func 10), args := #[Operand.tmp 47, Operand.tmp 54], argTypes := #[22, 23] }, type := 29, pos := "law.go:135", after := #[{ on := 0, ground := Ground.data }, { on := 7, ground := Ground.data }], guard := none }) rfl (fun K' hK => ?_) ?_
    · go_simp
      refine ((HM2.out _ _ (HBV.out.trans (HL_1.out.mono HBV.out.size)) Hl_1.out)).mono ?_
      rintro e x2 ⟨rfl, hb⟩
      have Hl_2 := Lib.hid (keptW hb Hl_1.out)
      have HL_2 := Lib.hid (HL_1.out.trans (hb.mono HL_1.out.size))
      clear hb
      refine hK.out _ _ trivial (fun hHeld2 => ?_)
      clear hK K'
      try simp only [Act.put, List.setIfInBounds_toArray, List.set_cons_zero, List.set_cons_succ]
      refine wpAnyH_take (i := 9) (oi := { dst := some 46, op := Op.move (Operand.tmp 55), type := 29, pos := "law.go:135", after := #[{ on := 8, ground := Ground.data }], guard := none }) (v := ?tk43) rfl (by kernel_rfl) (by kernel_rfl) (by kernel_rfl) (fun _ _ _ h => h) (Or.inl ⟨by rfl, ?tw43⟩) hHeld2 ?_
      case tw43 => (intro W hW; clear hW; first | (go_simp; done) | (go_simp; with_reducible rfl))
      try simp only [Act.put, List.setIfInBounds_toArray, List.set_cons_zero, List.set_cons_succ]
      refine wpAnyH_take (i := 10) (oi := { dst := some 56, op := Op.extract (Operand.tmp 46) 0, type := 27, pos := "law.go:135", after := #[{ on := 9, ground := Ground.data }], guard := none }) (v := ?tk44) rfl (by kernel_rfl) (by kernel_rfl) (by kernel_rfl) (fun _ _ _ h => h) (Or.inl ⟨by rfl, ?tw44⟩) hHeld2 ?_
      case tw44 => (intro W hW; clear hW; first | (go_simp; done) | (go_simp; with_reducible rfl))
      try simp only [Act.put, List.setIfInBounds_toArray, List.set_cons_zero, List.set_cons_succ]
      refine wpAnyH_take (i := 11) (oi := { dst := some 57, op := Op.extract (Operand.tmp 46) 1, type := 28, pos := "law.go:135", after := #[{ on := 9, ground := Ground.data }, { on := 13, ground := Ground.gcOnly Departure.lateStores }], guard := none }) (v := ?tk45) rfl (by kernel_rfl) (by kernel_rfl) (by kernel_rfl) (fun _ _ _ h => h) (Or.inl ⟨by rfl, ?tw45⟩) hHeld2 ?_
      case tw45 => (intro W hW; clear hW; first | (go_simp; done) | (go_simp; with_reducible rfl))
      try simp only [Act.put, List.setIfInBounds_toArray, List.set_cons_zero, List.set_cons_succ]
      refine wpAnyH_ready (rs := [12]) (by kernel_rfl) (by simp) ?_
      refine AllReadyH.cons (o := { dst := some 11, op := Op.alloc 27, type := 0, pos := "law.go:135", after := #[], guard := none }) rfl (fun K' hK => ?_) AllReadyH.nil
      go_simp
      obtain ⟨x3, hx3⟩ : ∃ X, x2.alloc (.cells (arr .u8 z32) 27) = X := ⟨_, rfl⟩
      have hb : Below x2.heap.size x2 x3 := by rw [← hx3]; exact (Below.refl _ _).alloc (Nat.le_refl _) _
      have Hl_3 := Lib.hid (keptW hb Hl_2.out)
      have HL_3 := Lib.hid (HL_2.out.trans (hb.mono HL_2.out.size))
      have hnew : rowN x3 x2.heap.size = some (arr .u8 z32) := by rw [← hx3, rowN_alloc, if_pos rfl]
      have hgeh : V.heap.size ≤ x2.heap.size := HL_2.out.size
      have hll_h := rowN_lt Hl_2.out
      rw [hx3]
      obtain ⟨gh, hgh⟩ : ∃ g, x2.heap.size = g := ⟨_, rfl⟩
      rw [hgh] at hnew hgeh hll_h ⊢
      have Hh_3 := Lib.hid hnew
      clear hb hnew hgh hx3
      refine hK.out _ _ trivial (fun hHeld3 => ?_)
      clear hK K'
      try simp only [Act.put, List.setIfInBounds_toArray, List.set_cons_zero, List.set_cons_succ]
      refine wpAnyH_ready (rs := [13]) (by kernel_rfl) (by simp) ?_
      refine AllReadyH.cons (o := { dst := none, op := Op.store 27 (Operand.tmp 11) (Operand.tmp 56), type := 0, pos := "law.go:135", after := #[{ on := 12, ground := Ground.data }, { on := 10, ground := Ground.data }, { on := 8, ground := Ground.chain }, { on := 0, ground := Ground.phase }, { on := 1, ground := Ground.phase }, { on := 2, ground := Ground.phase }, { on := 3, ground := Ground.phase }, { on := 4, ground := Ground.phase }, { on := 5, ground := Ground.phase }, { on := 6, ground := Ground.phase }, { on := 7, ground := Ground.phase }, { on := 8, ground := Ground.phase }, { on := 9, ground := Ground.phase }, { on := 10, ground := Ground.phase }, { on := 11, ground := Ground.textOnly Departure.lateStores }, { on := 12, ground := Ground.phase }], guard := none }) rfl (fun K' hK => ?_) AllReadyH.nil
      have hrow := Hh_3.out
      go_simp
      obtain ⟨x4, hx4⟩ : ∃ X, x3.setRow gh (arr .u8 O) = X := ⟨_, rfl⟩
      rw [hx4]
      have Hl_4 := Lib.hid (show rowN x4 gl = some #[.slice a n c, .slice none 0 0, .slice al ll cz] by rw [← hx4, rowN_setRow, if_neg (by omega)]; exact Hl_3.out)
      have Hh_4 := Lib.hid (show rowN x4 gh = some (arr .u8 O) by rw [← hx4, rowN_setRow, if_pos rfl, hrow]; rfl)
      have hbl : Below V.heap.size V x4 := by rw [← hx4]; exact below_setRow' HL_3.out (by omega) _
      have HL_4 := Lib.hid hbl
      clear hrow hbl hx4
      refine hK.out _ _ trivial (fun hHeld4 => ?_)
      clear hK K'
      try simp only [Act.put, List.setIfInBounds_toArray, List.set_cons_zero, List.set_cons_succ]
      refine wpAnyH_take (i := 14) (oi := { dst := some 12, op := Op.assign (Operand.tmp 57), type := 28, pos := "law.go:135", after := #[{ on := 11, ground := Ground.data }, { on := 13, ground := Ground.chain }, { on := 0, ground := Ground.phase }, { on := 1, ground := Ground.phase }, { on := 2, ground := Ground.phase }, { on := 3, ground := Ground.phase }, { on := 4, ground := Ground.phase }, { on := 5, ground := Ground.phase }, { on := 6, ground := Ground.phase }, { on := 7, ground := Ground.phase }, { on := 8, ground := Ground.phase }, { on := 9, ground := Ground.phase }, { on := 10, ground := Ground.phase }, { on := 11, ground := Ground.phase }, { on := 12, ground := Ground.phase }, { on := 13, ground := Ground.phase }], guard := none }) (v := ?tk46) rfl (by kernel_rfl) (by kernel_rfl) (by kernel_rfl) (fun _ _ _ h => h) (Or.inl ⟨by rfl, ?tw46⟩) hHeld4 ?_
      case tw46 => (intro W hW; clear hW; first | (go_simp; done) | (go_simp; with_reducible rfl))
      try simp only [Act.put, List.setIfInBounds_toArray, List.set_cons_zero, List.set_cons_succ]
      refine wpAnyH_done (by kernel_rfl) ?_ _
      refine NoPanic.normal ?_
      have HR9x := Lib.hid (keptW HL_4.out HR9.out)
      have HHx := Lib.hid Hh_4.out
      have HYx := Lib.hid (HYV.out.kept HL_4.out)
      have HBx := Lib.hid HL_4.out
      go_wp2_with fail
      refine (HM3.out _ _ (HBV.out.trans (HBx.out.mono HBV.out.size)) HYx.out HYN.out).mono ?_
      rintro e w7 ⟨rfl, hb7⟩
      have HR97 := Lib.hid (keptW hb7 HR9x.out)
      have HH7 := Lib.hid (keptW hb7 HHx.out)
      have HB7 := Lib.hid (HBx.out.trans (hb7.mono HBx.out.size))
      clear hb7
      go_upto_region 8 with fail
      obtain ⟨U, hU⟩ : ∃ U, (w7.alloc (.cells (arr .u8 z32) 27)).setRow w7.heap.size (arr .u8 O) = U := ⟨_, rfl⟩
      have hbU : Below w7.heap.size w7 U := by rw [← hU]; exact below_setRow' ((Below.refl _ _).alloc (Nat.le_refl _) _) (Nat.le_refl _) _
      have hrU : rowN U w7.heap.size = some (arr .u8 O) := by rw [← hU]; exact row_new (cs := arr .u8 z32) (by rw [rowN_alloc, if_pos rfl])
      rw [hU]
      have HR9U := Lib.hid (keptW hbU HR97.out)
      have HHU := Lib.hid (keptW hbU HH7.out)
      have HBU := Lib.hid (HB7.out.trans (hbU.mono HB7.out.size))
      obtain ⟨g13, hg13⟩ : ∃ g, w7.heap.size = g := ⟨_, rfl⟩
      rw [hg13] at hrU ⊢
      have HR13 := Lib.hid hrU
      clear hU hbU hrU hg13 HR97 HH7 HB7
      go_wp2_with fail
      refine (HT.out _ (HBV.out.trans (HBU.out.mono HBV.out.size))).mono ?_
      rintro e w8 ⟨s8, rfl, hb8b, hn8, hb8⟩
      have HN8 := Lib.hid hn8
      have Ht_0 := Lib.hid (show BytesAt O s8 w8.drew from hb8b)
      have H9_0 := Lib.hid (show rowN w8.drew g9 = some (arr .u8 O) from keptW hb8 HR9U.out)
      have Hh_0 := Lib.hid (show rowN w8.drew gh = some (arr .u8 O) from keptW hb8 HHU.out)
      have Hb_0 := Lib.hid (show rowN w8.drew g13 = some (arr .u8 O) from keptW hb8 HR13.out)
      have HL_0 := Lib.hid (show Below V.heap.size V w8.drew from (HBU.out.trans (hb8.mono HBU.out.size)).drew)
      clear hb8b hn8 hb8
      go_upto_region 9 with fail
      refine wp_region_noPanic ?_
      refine wp_region_held_drew (S := fun W => rowN W g9 = some (arr .u8 O) ∧ rowN W gh = some (arr .u8 O) ∧ rowN W g13 = some (arr .u8 O) ∧ BytesAt O s8 W) (by kernel_rfl) ⟨H9_0.out, Hh_0.out, Hb_0.out, Ht_0.out⟩ (fun hHeld0 => ?_)
      obtain ⟨x0, hx0⟩ : ∃ X, w8.drew = X := ⟨_, rfl⟩
      rw [hx0] at H9_0 Hh_0 Hb_0 Ht_0 HL_0 hHeld0 ⊢
      clear hx0
      refine wpAnyH_take (i := 0) (oi := { dst := some 72, op := Op.move (Operand.tmp 10), type := 28, pos := "law.go:138", after := #[], guard := none }) (v := ?tk5000) rfl (by kernel_rfl) (by kernel_rfl) (by kernel_rfl) (fun _ _ _ h => h) (Or.inl ⟨by rfl, ?tw5000⟩) hHeld0 ?_
      case tw5000 => (intro W hW; clear hW; first | (go_simp; done) | (go_simp; with_reducible rfl))
      try simp only [Act.put, List.setIfInBounds_toArray, List.set_cons_zero, List.set_cons_succ]
      refine wpAnyH_take (i := 1) (oi := { dst := some 73, op := Op.binOp BinOp.eql 28 (Operand.tmp 72) (Operand.const (Value.int IntKind.i64 0)) 28, type := 4, pos := "law.go:138", after := #[{ on := 0, ground := Ground.data }], guard := none }) (v := ?tk5001) rfl (by kernel_rfl) (by kernel_rfl) (by kernel_rfl) (fun _ _ _ h => h) (Or.inl ⟨by rfl, ?tw5001⟩) hHeld0 ?_
      case tw5001 => (intro W hW; clear hW; first | (go_simp; done) | (go_simp; with_reducible rfl))
      try simp only [Act.put, List.setIfInBounds_toArray, List.set_cons_zero, List.set_cons_succ]
      refine wpAnyH_take (i := 2) (oi := { dst := some 74, op := Op.move (Operand.tmp 73), type := 4, pos := "law.go:138", after := #[{ on := 1, ground := Ground.data }], guard := none }) (v := ?tk5002) rfl (by kernel_rfl) (by kernel_rfl) (by kernel_rfl) (fun _ _ _ h => h) (Or.inl ⟨by rfl, ?tw5002⟩) hHeld0 ?_
      case tw5002 => (intro W hW; clear hW; first | (go_simp; done) | (go_simp; with_reducible rfl))
      try simp only [Act.put, List.setIfInBounds_toArray, List.set_cons_zero, List.set_cons_succ]
      refine wpAnyH_take (i := 3) (oi := { dst := some 75, op := Op.move (Operand.tmp 12), type := 28, pos := "law.go:138", after := #[{ on := 2, ground := Ground.guard }], guard := some (2, true) }) (v := ?tk5003) rfl (by kernel_rfl) (by kernel_rfl) (by kernel_rfl) (fun _ _ _ h => h) (Or.inl ⟨by rfl, ?tw5003⟩) hHeld0 ?_
      case tw5003 => (intro W hW; clear hW; first | (go_simp; done) | (go_simp; with_reducible rfl))
      try simp only [Act.put, List.setIfInBounds_toArray, List.set_cons_zero, List.set_cons_succ]
      refine wpAnyH_take (i := 4) (oi := { dst := some 76, op := Op.binOp BinOp.eql 28 (Operand.tmp 75) (Operand.const (Value.int IntKind.i64 0)) 28, type := 4, pos := "law.go:138", after := #[{ on := 3, ground := Ground.data }, { on := 2, ground := Ground.guard }], guard := some (2, true) }) (v := ?tk5004) rfl (by kernel_rfl) (by kernel_rfl) (by kernel_rfl) (fun _ _ _ h => h) (Or.inl ⟨by rfl, ?tw5004⟩) hHeld0 ?_
      case tw5004 => (intro W hW; clear hW; first | (go_simp; done) | (go_simp; with_reducible rfl))
      try simp only [Act.put, List.setIfInBounds_toArray, List.set_cons_zero, List.set_cons_succ]
      refine wpAnyH_take (i := 5) (oi := { dst := some 77, op := Op.pick (Operand.tmp 74) (Operand.tmp 76) (Operand.const (Value.bool false)), type := 4, pos := "law.go:138", after := #[{ on := 2, ground := Ground.data }, { on := 4, ground := Ground.data }], guard := none }) (v := ?tk5005) rfl (by kernel_rfl) (by kernel_rfl) (by kernel_rfl) (fun _ _ _ h => h) (Or.inl ⟨by rfl, ?tw5005⟩) hHeld0 ?_
      case tw5005 => (intro W hW; clear hW; first | (go_simp; done) | (go_simp; with_reducible rfl))
      try simp only [Act.put, List.setIfInBounds_toArray, List.set_cons_zero, List.set_cons_succ]
      refine wpAnyH_take (i := 6) (oi := { dst := some 78, op := Op.move (Operand.tmp 77), type := 4, pos := "law.go:138", after := #[{ on := 5, ground := Ground.data }, { on := 2, ground := Ground.chain }], guard := none }) (v := ?tk5006) rfl (by kernel_rfl) (by kernel_rfl) (by kernel_rfl) (fun _ _ _ h => h) (Or.inl ⟨by rfl, ?tw5006⟩) hHeld0 ?_
      case tw5006 => (intro W hW; clear hW; first | (go_simp; done) | (go_simp; with_reducible rfl))
      try simp only [Act.put, List.setIfInBounds_toArray, List.set_cons_zero, List.set_cons_succ]
      refine wpAnyH_take (i := 7) (oi := { dst := some 79, op := Op.move (Operand.tmp 14), type := 28, pos := "law.go:138", after := #[{ on := 6, ground := Ground.guard }], guard := some (6, true) }) (v := ?tk5007) rfl (by kernel_rfl) (by kernel_rfl) (by kernel_rfl) (fun _ _ _ h => h) (Or.inl ⟨by rfl, ?tw5007⟩) hHeld0 ?_
      case tw5007 => (intro W hW; clear hW; first | (go_simp; done) | (go_simp; with_reducible rfl))
      try simp only [Act.put, List.setIfInBounds_toArray, List.set_cons_zero, List.set_cons_succ]
      refine wpAnyH_take (i := 8) (oi := { dst := some 80, op := Op.binOp BinOp.eql 28 (Operand.tmp 79) (Operand.const (Value.int IntKind.i64 0)) 28, type := 4, pos := "law.go:138", after := #[{ on := 7, ground := Ground.data }, { on := 6, ground := Ground.guard }], guard := some (6, true) }) (v := ?tk5008) rfl (by kernel_rfl) (by kernel_rfl) (by kernel_rfl) (fun _ _ _ h => h) (Or.inl ⟨by rfl, ?tw5008⟩) hHeld0 ?_
      case tw5008 => (intro W hW; clear hW; first | (go_simp; done) | (go_simp; with_reducible rfl))
      try simp only [Act.put, List.setIfInBounds_toArray, List.set_cons_zero, List.set_cons_succ]
      refine wpAnyH_take (i := 9) (oi := { dst := some 81, op := Op.pick (Operand.tmp 78) (Operand.tmp 80) (Operand.const (Value.bool false)), type := 4, pos := "law.go:138", after := #[{ on := 6, ground := Ground.data }, { on := 8, ground := Ground.data }], guard := none }) (v := ?tk5009) rfl (by kernel_rfl) (by kernel_rfl) (by kernel_rfl) (fun _ _ _ h => h) (Or.inl ⟨by rfl, ?tw5009⟩) hHeld0 ?_
      case tw5009 => (intro W hW; clear hW; first | (go_simp; done) | (go_simp; with_reducible rfl))
      try simp only [Act.put, List.setIfInBounds_toArray, List.set_cons_zero, List.set_cons_succ]
      refine wpAnyH_take (i := 10) (oi := { dst := some 82, op := Op.move (Operand.tmp 81), type := 4, pos := "law.go:138", after := #[{ on := 9, ground := Ground.data }, { on := 6, ground := Ground.chain }], guard := none }) (v := ?tk5010) rfl (by kernel_rfl) (by kernel_rfl) (by kernel_rfl) (fun _ _ _ h => h) (Or.inl ⟨by rfl, ?tw5010⟩) hHeld0 ?_
      case tw5010 => (intro W hW; clear hW; first | (go_simp; done) | (go_simp; with_reducible rfl))
      try simp only [Act.put, List.setIfInBounds_toArray, List.set_cons_zero, List.set_cons_succ]
      refine wpAnyH_take (i := 11) (oi := { dst := some 83, op := Op.move (Operand.tmp 16), type := 28, pos := "law.go:138", after := #[{ on := 10, ground := Ground.guard }], guard := some (10, true) }) (v := ?tk5011) rfl (by kernel_rfl) (by kernel_rfl) (by kernel_rfl) (fun _ _ _ h => h) (Or.inl ⟨by rfl, ?tw5011⟩) hHeld0 ?_
      case tw5011 => (intro W hW; clear hW; first | (go_simp; done) | (go_simp; with_reducible rfl))
      try simp only [Act.put, List.setIfInBounds_toArray, List.set_cons_zero, List.set_cons_succ]
      refine wpAnyH_take (i := 12) (oi := { dst := some 84, op := Op.binOp BinOp.eql 28 (Operand.tmp 83) (Operand.const (Value.int IntKind.i64 0)) 28, type := 4, pos := "law.go:138", after := #[{ on := 11, ground := Ground.data }, { on := 10, ground := Ground.guard }], guard := some (10, true) }) (v := ?tk5012) rfl (by kernel_rfl) (by kernel_rfl) (by kernel_rfl) (fun _ _ _ h => h) (Or.inl ⟨by rfl, ?tw5012⟩) hHeld0 ?_
      case tw5012 => (intro W hW; clear hW; first | (go_simp; done) | (go_simp; with_reducible rfl))
      try simp only [Act.put, List.setIfInBounds_toArray, List.set_cons_zero, List.set_cons_succ]
      refine wpAnyH_take (i := 13) (oi := { dst := some 85, op := Op.pick (Operand.tmp 82) (Operand.tmp 84) (Operand.const (Value.bool false)), type := 4, pos := "law.go:138", after := #[{ on := 10, ground := Ground.data }, { on := 12, ground := Ground.data }], guard := none }) (v := ?tk5013) rfl (by kernel_rfl) (by kernel_rfl) (by kernel_rfl) (fun _ _ _ h => h) (Or.inl ⟨by rfl, ?tw5013⟩) hHeld0 ?_
      case tw5013 => (intro W hW; clear hW; first | (go_simp; done) | (go_simp; with_reducible rfl))
      try simp only [Act.put, List.setIfInBounds_toArray, List.set_cons_zero, List.set_cons_succ]
      refine wpAnyH_take (i := 14) (oi := { dst := some 86, op := Op.move (Operand.tmp 85), type := 4, pos := "law.go:138", after := #[{ on := 13, ground := Ground.data }, { on := 10, ground := Ground.chain }], guard := none }) (v := ?tk5014) rfl (by kernel_rfl) (by kernel_rfl) (by kernel_rfl) (fun _ _ _ h => h) (Or.inl ⟨by rfl, ?tw5014⟩) hHeld0 ?_
      case tw5014 => (intro W hW; clear hW; first | (go_simp; done) | (go_simp; with_reducible rfl))
      try simp only [Act.put, List.setIfInBounds_toArray, List.set_cons_zero, List.set_cons_succ]
      refine wpAnyH_take (i := 15) (oi := { dst := some 87, op := Op.load 27 (Operand.tmp 9), type := 27, pos := "law.go:138", after := #[{ on := 14, ground := Ground.guard }], guard := some (14, true) }) (v := .agg (arr .u8 O)) rfl (by kernel_rfl) (by kernel_rfl) (by kernel_rfl) (fun _ _ _ h => h) (Or.inl ⟨by rfl, fun W hW => ?_⟩) hHeld0 ?_
      · (have hW1 := hW.1; clear hW; go_simp)
      try simp only [Act.put, List.setIfInBounds_toArray, List.set_cons_zero, List.set_cons_succ]
      refine wpAnyH_take (i := 16) (oi := { dst := some 88, op := Op.load 27 (Operand.tmp 11), type := 27, pos := "law.go:138", after := #[{ on := 14, ground := Ground.guard }], guard := some (14, true) }) (v := .agg (arr .u8 O)) rfl (by kernel_rfl) (by kernel_rfl) (by kernel_rfl) (fun _ _ _ h => h) (Or.inl ⟨by rfl, fun W hW => ?_⟩) hHeld0 ?_
      · (have hW1 := hW.2.1; clear hW; go_simp)
      try simp only [Act.put, List.setIfInBounds_toArray, List.set_cons_zero, List.set_cons_succ]
      refine wpAnyH_take (i := 17) (oi := { dst := some 89, op := Op.binOp BinOp.eql 27 (Operand.tmp 87) (Operand.tmp 88) 27, type := 4, pos := "law.go:138", after := #[{ on := 15, ground := Ground.data }, { on := 16, ground := Ground.data }, { on := 14, ground := Ground.guard }], guard := some (14, true) }) (v := ?tk5015) rfl (by kernel_rfl) (by kernel_rfl) (by kernel_rfl) (fun _ _ _ h => h) (Or.inl ⟨by rfl, ?tw5015⟩) hHeld0 ?_
      case tw5015 => (intro W hW; clear hW; first | (go_simp; done) | (go_simp; with_reducible rfl))
      try simp only [Act.put, List.setIfInBounds_toArray, List.set_cons_zero, List.set_cons_succ]
      refine wpAnyH_take (i := 18) (oi := { dst := some 90, op := Op.pick (Operand.tmp 86) (Operand.tmp 89) (Operand.const (Value.bool false)), type := 4, pos := "law.go:138", after := #[{ on := 14, ground := Ground.data }, { on := 17, ground := Ground.data }], guard := none }) (v := ?tk5016) rfl (by kernel_rfl) (by kernel_rfl) (by kernel_rfl) (fun _ _ _ h => h) (Or.inl ⟨by rfl, ?tw5016⟩) hHeld0 ?_
      case tw5016 => (intro W hW; clear hW; first | (go_simp; done) | (go_simp; with_reducible rfl))
      try simp only [Act.put, List.setIfInBounds_toArray, List.set_cons_zero, List.set_cons_succ]
      refine wpAnyH_take (i := 19) (oi := { dst := some 91, op := Op.move (Operand.tmp 90), type := 4, pos := "law.go:138", after := #[{ on := 18, ground := Ground.data }, { on := 14, ground := Ground.chain }], guard := none }) (v := ?tk5017) rfl (by kernel_rfl) (by kernel_rfl) (by kernel_rfl) (fun _ _ _ h => h) (Or.inl ⟨by rfl, ?tw5017⟩) hHeld0 ?_
      case tw5017 => (intro W hW; clear hW; first | (go_simp; done) | (go_simp; with_reducible rfl))
      try simp only [Act.put, List.setIfInBounds_toArray, List.set_cons_zero, List.set_cons_succ]
      refine wpAnyH_take (i := 20) (oi := { dst := some 92, op := Op.load 27 (Operand.tmp 9), type := 27, pos := "law.go:138", after := #[{ on := 19, ground := Ground.guard }], guard := some (19, true) }) (v := .agg (arr .u8 O)) rfl (by kernel_rfl) (by kernel_rfl) (by kernel_rfl) (fun _ _ _ h => h) (Or.inl ⟨by rfl, fun W hW => ?_⟩) hHeld0 ?_
      · (have hW1 := hW.1; clear hW; go_simp)
      try simp only [Act.put, List.setIfInBounds_toArray, List.set_cons_zero, List.set_cons_succ]
      refine wpAnyH_take (i := 21) (oi := { dst := some 93, op := Op.load 27 (Operand.tmp 13), type := 27, pos := "law.go:138", after := #[{ on := 19, ground := Ground.guard }], guard := some (19, true) }) (v := .agg (arr .u8 O)) rfl (by kernel_rfl) (by kernel_rfl) (by kernel_rfl) (fun _ _ _ h => h) (Or.inl ⟨by rfl, fun W hW => ?_⟩) hHeld0 ?_
      · (have hW1 := hW.2.2; clear hW; go_simp)
      try simp only [Act.put, List.setIfInBounds_toArray, List.set_cons_zero, List.set_cons_succ]
      refine wpAnyH_take (i := 22) (oi := { dst := some 94, op := Op.binOp BinOp.eql 27 (Operand.tmp 92) (Operand.tmp 93) 27, type := 4, pos := "law.go:138", after := #[{ on := 20, ground := Ground.data }, { on := 21, ground := Ground.data }, { on := 19, ground := Ground.guard }], guard := some (19, true) }) (v := ?tk5018) rfl (by kernel_rfl) (by kernel_rfl) (by kernel_rfl) (fun _ _ _ h => h) (Or.inl ⟨by rfl, ?tw5018⟩) hHeld0 ?_
      case tw5018 => (intro W hW; clear hW; first | (go_simp; done) | (go_simp; with_reducible rfl))
      try simp only [Act.put, List.setIfInBounds_toArray, List.set_cons_zero, List.set_cons_succ]
      refine wpAnyH_take (i := 23) (oi := { dst := some 95, op := Op.pick (Operand.tmp 91) (Operand.tmp 94) (Operand.const (Value.bool false)), type := 4, pos := "law.go:138", after := #[{ on := 19, ground := Ground.data }, { on := 22, ground := Ground.data }], guard := none }) (v := ?tk5019) rfl (by kernel_rfl) (by kernel_rfl) (by kernel_rfl) (fun _ _ _ h => h) (Or.inl ⟨by rfl, ?tw5019⟩) hHeld0 ?_
      case tw5019 => (intro W hW; clear hW; first | (go_simp; done) | (go_simp; with_reducible rfl))
      try simp only [Act.put, List.setIfInBounds_toArray, List.set_cons_zero, List.set_cons_succ]
      refine wpAnyH_take (i := 24) (oi := { dst := some 96, op := Op.move (Operand.tmp 95), type := 4, pos := "law.go:138", after := #[{ on := 23, ground := Ground.data }, { on := 19, ground := Ground.chain }], guard := none }) (v := ?tk5020) rfl (by kernel_rfl) (by kernel_rfl) (by kernel_rfl) (fun _ _ _ h => h) (Or.inl ⟨by rfl, ?tw5020⟩) hHeld0 ?_
      case tw5020 => (intro W hW; clear hW; first | (go_simp; done) | (go_simp; with_reducible rfl))
      try simp only [Act.put, List.setIfInBounds_toArray, List.set_cons_zero, List.set_cons_succ]
      refine wpAnyH_take (i := 25) (oi := { dst := some 97, op := Op.move (Operand.tmp 15), type := 22, pos := "law.go:138", after := #[{ on := 24, ground := Ground.guard }], guard := some (24, true) }) (v := ?tk5021) rfl (by kernel_rfl) (by kernel_rfl) (by kernel_rfl) (fun _ _ _ h => h) (Or.inl ⟨by rfl, ?tw5021⟩) hHeld0 ?_
      case tw5021 => (intro W hW; clear hW; first | (go_simp; done) | (go_simp; with_reducible rfl))
      try simp only [Act.put, List.setIfInBounds_toArray, List.set_cons_zero, List.set_cons_succ]
      refine wpAnyH_take (i := 26) (oi := { dst := some 98, op := Op.convert 22 9 (Operand.tmp 97), type := 9, pos := "law.go:138", after := #[{ on := 25, ground := Ground.data }, { on := 24, ground := Ground.guard }], guard := some (24, true) }) (v := .string (strOf O)) rfl (by kernel_rfl) (by kernel_rfl) (by kernel_rfl) (fun _ _ _ h => h) (Or.inl ⟨by rfl, fun W hW => ?_⟩) hHeld0 ?_
      · (have hst := str_bytes hW.2.2.2 HN8.out; clear hW; go_simp)
      try simp only [Act.put, List.setIfInBounds_toArray, List.set_cons_zero, List.set_cons_succ]
      refine wpAnyH_take (i := 27) (oi := { dst := some 99, op := Op.slice 27 (Operand.tmp 9) none none none, type := 22, pos := "law.go:138", after := #[{ on := 24, ground := Ground.guard }], guard := some (24, true) }) (v := ?tk5022) rfl (by kernel_rfl) (by kernel_rfl) (by kernel_rfl) (fun _ _ _ h => h) (Or.inl ⟨by rfl, ?tw5022⟩) hHeld0 ?_
      case tw5022 => (intro W hW; clear hW; first | (go_simp; done) | (go_simp; with_reducible rfl))
      try simp only [Act.put, List.setIfInBounds_toArray, List.set_cons_zero, List.set_cons_succ]
      refine wpAnyH_take (i := 28) (oi := { dst := some 100, op := Op.convert 22 9 (Operand.tmp 99), type := 9, pos := "law.go:138", after := #[{ on := 27, ground := Ground.data }, { on := 24, ground := Ground.guard }], guard := some (24, true) }) (v := .string (strOf O)) rfl (by kernel_rfl) (by kernel_rfl) (by kernel_rfl) (fun _ _ _ h => h) (Or.inl ⟨by rfl, fun W hW => ?_⟩) hHeld0 ?_
      · (have hst := str_arr hW.1 HO32.out; clear hW; go_simp)
      try simp only [Act.put, List.setIfInBounds_toArray, List.set_cons_zero, List.set_cons_succ]
      refine wpAnyH_take (i := 29) (oi := { dst := some 101, op := Op.binOp BinOp.eql 9 (Operand.tmp 98) (Operand.tmp 100) 9, type := 4, pos := "law.go:138", after := #[{ on := 26, ground := Ground.data }, { on := 28, ground := Ground.data }, { on := 24, ground := Ground.guard }], guard := some (24, true) }) (v := ?tk5023) rfl (by kernel_rfl) (by kernel_rfl) (by kernel_rfl) (fun _ _ _ h => h) (Or.inl ⟨by rfl, ?tw5023⟩) hHeld0 ?_
      case tw5023 => (intro W hW; clear hW; first | (go_simp; done) | (go_simp; with_reducible rfl))
      try simp only [Act.put, List.setIfInBounds_toArray, List.set_cons_zero, List.set_cons_succ]
      refine wpAnyH_take (i := 30) (oi := { dst := some 102, op := Op.pick (Operand.tmp 96) (Operand.tmp 101) (Operand.const (Value.bool false)), type := 4, pos := "law.go:138", after := #[{ on := 24, ground := Ground.data }, { on := 29, ground := Ground.data }], guard := none }) (v := ?tk5024) rfl (by kernel_rfl) (by kernel_rfl) (by kernel_rfl) (fun _ _ _ h => h) (Or.inl ⟨by rfl, ?tw5024⟩) hHeld0 ?_
      case tw5024 => (intro W hW; clear hW; first | (go_simp; done) | (go_simp; with_reducible rfl))
      try simp only [Act.put, List.setIfInBounds_toArray, List.set_cons_zero, List.set_cons_succ]
      refine wpAnyH_take (i := 31) (oi := { dst := some 103, op := Op.move (Operand.tmp 102), type := 4, pos := "law.go:138", after := #[{ on := 30, ground := Ground.data }, { on := 24, ground := Ground.chain }], guard := none }) (v := ?tk5025) rfl (by kernel_rfl) (by kernel_rfl) (by kernel_rfl) (fun _ _ _ h => h) (Or.inl ⟨by rfl, ?tw5025⟩) hHeld0 ?_
      case tw5025 => (intro W hW; clear hW; first | (go_simp; done) | (go_simp; with_reducible rfl))
      try simp only [Act.put, List.setIfInBounds_toArray, List.set_cons_zero, List.set_cons_succ]
      refine wpAnyH_take (i := 32) (oi := { dst := some 104, op := Op.move (Operand.tmp 0), type := 22, pos := "law.go:138", after := #[{ on := 31, ground := Ground.guard }], guard := some (31, true) }) (v := ?tk5026) rfl (by kernel_rfl) (by kernel_rfl) (by kernel_rfl) (fun _ _ _ h => h) (Or.inl ⟨by rfl, ?tw5026⟩) hHeld0 ?_
      case tw5026 => (intro W hW; clear hW; first | (go_simp; done) | (go_simp; with_reducible rfl))
      try simp only [Act.put, List.setIfInBounds_toArray, List.set_cons_zero, List.set_cons_succ]
      refine wpAnyH_take (i := 33) (oi := { dst := some 105, op := Op.move (Operand.tmp 7), type := 3, pos := "law.go:138", after := #[{ on := 31, ground := Ground.guard }], guard := some (31, true) }) (v := ?tk5027) rfl (by kernel_rfl) (by kernel_rfl) (by kernel_rfl) (fun _ _ _ h => h) (Or.inl ⟨by rfl, ?tw5027⟩) hHeld0 ?_
      case tw5027 => (intro W hW; clear hW; first | (go_simp; done) | (go_simp; with_reducible rfl))
      try simp only [Act.put, List.setIfInBounds_toArray, List.set_cons_zero, List.set_cons_succ]
      refine wpAnyH_take (i := 34) (oi := { dst := some 106, op := Op.binOp BinOp.rem 3 (Operand.tmp 105) (Operand.const (Value.int IntKind.i64 32)) 3, type := 3, pos := "law.go:138", after := #[{ on := 33, ground := Ground.data }, { on := 31, ground := Ground.guard }], guard := some (31, true) }) (v := ?tk5028) rfl (by kernel_rfl) (by kernel_rfl) (by kernel_rfl) (fun _ _ _ h => h) (Or.inl ⟨by rfl, ?tw5028⟩) hHeld0 ?_
      case tw5028 => (intro W hW; clear hW; first | (go_simp; done) | (go_simp; with_reducible rfl))
      try simp only [Act.put, List.setIfInBounds_toArray, List.set_cons_zero, List.set_cons_succ]
      refine wpAnyH_take (i := 35) (oi := { dst := some 107, op := Op.binOp BinOp.add 3 (Operand.const (Value.int IntKind.i64 1)) (Operand.tmp 106) 3, type := 3, pos := "law.go:138", after := #[{ on := 34, ground := Ground.data }, { on := 31, ground := Ground.guard }], guard := some (31, true) }) (v := ?tk5029) rfl (by kernel_rfl) (by kernel_rfl) (by kernel_rfl) (fun _ _ _ h => h) (Or.inl ⟨by rfl, ?tw5029⟩) hHeld0 ?_
      case tw5029 => (intro W hW; clear hW; first | (go_simp; done) | (go_simp; with_reducible rfl))
      try simp only [Act.put, List.setIfInBounds_toArray, List.set_cons_zero, List.set_cons_succ]
      refine wpAnyH_take (i := 36) (oi := { dst := some 108, op := Op.slice 27 (Operand.tmp 9) none (some (Operand.tmp 107)) none, type := 22, pos := "law.go:138", after := #[{ on := 35, ground := Ground.data }, { on := 31, ground := Ground.guard }], guard := some (31, true) }) (v := .slice (some ⟨g9, 0, none⟩) (q + 1) 32) rfl (by kernel_rfl) (by kernel_rfl) (by kernel_rfl) (fun _ _ _ h => h) (Or.inl ⟨by rfl, fun W hW => ?_⟩) hHeld0 ?_
      · (have hsv := run_slice27_h g9 (q + 1) (by omega) W; rw [show ((q + 1 : Nat) : Int) = (q : Int) + 1 by omega] at hsv; clear hW; go_simp)
      try simp only [Act.put, List.setIfInBounds_toArray, List.set_cons_zero, List.set_cons_succ]
      refine wpAnyH_take (i := 37) (oi := { dst := some 109, op := Op.move (Operand.tmp 1), type := 22, pos := "law.go:138", after := #[{ on := 31, ground := Ground.guard }], guard := some (31, true) }) (v := ?tk5030) rfl (by kernel_rfl) (by kernel_rfl) (by kernel_rfl) (fun _ _ _ h => h) (Or.inl ⟨by rfl, ?tw5030⟩) hHeld0 ?_
      case tw5030 => (intro W hW; clear hW; first | (go_simp; done) | (go_simp; with_reducible rfl))
      try simp only [Act.put, List.setIfInBounds_toArray, List.set_cons_zero, List.set_cons_succ]
      refine wpAnyH_ready (rs := [38]) (by kernel_rfl) (by simp) ?_
      refine AllReadyH.cons (o := { dst := some 110, op := Op.buildSlice 23 1 #[(0, Operand.tmp 109)], type := 23, pos := "law.go:138", after := #[{ on := 37, ground := Ground.data }, { on := 31, ground := Ground.guard }], guard := some (31, true) }) rfl (fun K' hK => ?_) AllReadyH.nil
      go_simp
      obtain ⟨x1, hx1⟩ : ∃ X, x0.alloc (.cells #[.slice a L c] 22) = X := ⟨_, rfl⟩
      have hb : Below x0.heap.size x0 x1 := by rw [← hx1]; exact (Below.refl _ _).alloc (Nat.le_refl _) _
      have H9_1 := Lib.hid (keptW hb H9_0.out)
      have Hh_1 := Lib.hid (keptW hb Hh_0.out)
      have Hb_1 := Lib.hid (keptW hb Hb_0.out)
      have Ht_1 := Lib.hid (Ht_0.out.kept hb)
      have HL_1 := Lib.hid (HL_0.out.trans (hb.mono HL_0.out.size))
      have hnew : rowN x1 x0.heap.size = some #[.slice a L c] := by rw [← hx1, rowN_alloc, if_pos rfl]
      have hgel : V.heap.size ≤ x0.heap.size := HL_0.out.size
      have hl9_l := rowN_lt H9_0.out
      have hlh_l := rowN_lt Hh_0.out
      have hlb_l := rowN_lt Hb_0.out
      rw [hx1]
      obtain ⟨gl, hgl⟩ : ∃ g, x0.heap.size = g := ⟨_, rfl⟩
      rw [hgl] at hnew hgel hl9_l hlh_l hlb_l ⊢
      have Hl_1 := Lib.hid hnew
      clear hb hnew hgl hx1
      refine hK.out _ _ ⟨H9_1.out, Hh_1.out, Hb_1.out, Ht_1.out⟩ (fun hHeld1 => ?_)
      clear hK K'
      try simp only [Act.put, List.setIfInBounds_toArray, List.set_cons_zero, List.set_cons_succ]
      refine wpAnyH_ready (rs := [39]) (by kernel_rfl) (by simp) ?_
      refine AllReadyH.cons (o := { dst := some 111, op := Op.call { callee := Callee.value (Operand.func 13), args := #[Operand.tmp 104, Operand.tmp 108, Operand.tmp 110], argTypes := #[22, 22, 23] }, type := 28, pos := "law.go:138", after := #[{ on := 32, ground := Ground.data }, { on := 36, ground := Ground.data }, { on := 38, ground := Ground.data }, { on := 31, ground := Ground.chain }, { on := 31, ground := Ground.guard }], guard := some (31, true) }) rfl (fun K' hK => ?_) AllReadyH.nil
      go_simp
      refine ((HCK.out _ _ _ (HBV.out.trans (HL_1.out.mono HBV.out.size)) H9_1.out Hl_1.out)).mono ?_
      rintro e x2 ⟨rfl, hb⟩
      have H9_2 := Lib.hid (keptW hb H9_1.out)
      have Hh_2 := Lib.hid (keptW hb Hh_1.out)
      have Hb_2 := Lib.hid (keptW hb Hb_1.out)
      have Hl_2 := Lib.hid (keptW hb Hl_1.out)
      have Ht_2 := Lib.hid (Ht_1.out.kept hb)
      have HL_2 := Lib.hid (HL_1.out.trans (hb.mono HL_1.out.size))
      clear hb
      refine hK.out _ _ ⟨H9_2.out, Hh_2.out, Hb_2.out, Ht_2.out⟩ (fun hHeld2 => ?_)
      clear hK K'
      try simp only [Act.put, List.setIfInBounds_toArray, List.set_cons_zero, List.set_cons_succ]
      refine wpAnyH_take (i := 40) (oi := { dst := some 112, op := Op.binOp BinOp.eql 28 (Operand.tmp 111) (Operand.const (Value.int IntKind.i64 0)) 28, type := 4, pos := "law.go:138", after := #[{ on := 39, ground := Ground.data }, { on := 31, ground := Ground.guard }], guard := some (31, true) }) (v := ?tk5031) rfl (by kernel_rfl) (by kernel_rfl) (by kernel_rfl) (fun _ _ _ h => h) (Or.inl ⟨by rfl, ?tw5031⟩) hHeld2 ?_
      case tw5031 => (intro W hW; clear hW; first | (go_simp; done) | (go_simp; with_reducible rfl))
      try simp only [Act.put, List.setIfInBounds_toArray, List.set_cons_zero, List.set_cons_succ]
      refine wpAnyH_take (i := 41) (oi := { dst := some 113, op := Op.pick (Operand.tmp 103) (Operand.tmp 112) (Operand.const (Value.bool false)), type := 4, pos := "law.go:138", after := #[{ on := 31, ground := Ground.data }, { on := 40, ground := Ground.data }], guard := none }) (v := ?tk5032) rfl (by kernel_rfl) (by kernel_rfl) (by kernel_rfl) (fun _ _ _ h => h) (Or.inl ⟨by rfl, ?tw5032⟩) hHeld2 ?_
      case tw5032 => (intro W hW; clear hW; first | (go_simp; done) | (go_simp; with_reducible rfl))
      try simp only [Act.put, List.setIfInBounds_toArray, List.set_cons_zero, List.set_cons_succ]
      refine wpAnyH_take (i := 42) (oi := { dst := some 114, op := Op.move (Operand.tmp 113), type := 4, pos := "law.go:138", after := #[{ on := 41, ground := Ground.data }, { on := 39, ground := Ground.chain }], guard := none }) (v := ?tk5033) rfl (by kernel_rfl) (by kernel_rfl) (by kernel_rfl) (fun _ _ _ h => h) (Or.inl ⟨by rfl, ?tw5033⟩) hHeld2 ?_
      case tw5033 => (intro W hW; clear hW; first | (go_simp; done) | (go_simp; with_reducible rfl))
      try simp only [Act.put, List.setIfInBounds_toArray, List.set_cons_zero, List.set_cons_succ]
      refine wpAnyH_ready (rs := [43]) (by kernel_rfl) (by simp) ?_
      refine AllReadyH.cons (o := { dst := some 115, op := Op.call { callee := Callee.value (Operand.func 9), args := #[], argTypes := #[] }, type := 4, pos := "law.go:138", after := #[{ on := 42, ground := Ground.chain }, { on := 42, ground := Ground.guard }], guard := some (42, true) }) rfl (fun K' hK => ?_) AllReadyH.nil
      go_simp
      refine ((known_any _ (HK.out.kept (HBV.out.trans (HL_2.out.mono HBV.out.size))))).mono ?_
      rintro e x3 ⟨rfl, hb⟩
      have H9_3 := Lib.hid (keptW hb H9_2.out)
      have Hh_3 := Lib.hid (keptW hb Hh_2.out)
      have Hb_3 := Lib.hid (keptW hb Hb_2.out)
      have Hl_3 := Lib.hid (keptW hb Hl_2.out)
      have Ht_3 := Lib.hid (Ht_2.out.kept hb)
      have HL_3 := Lib.hid (HL_2.out.trans (hb.mono HL_2.out.size))
      clear hb
      refine hK.out _ _ ⟨H9_3.out, Hh_3.out, Hb_3.out, Ht_3.out⟩ (fun hHeld3 => ?_)
      clear hK K'
      try simp only [Act.put, List.setIfInBounds_toArray, List.set_cons_zero, List.set_cons_succ]
      refine wpAnyH_take (i := 44) (oi := { dst := some 116, op := Op.pick (Operand.tmp 114) (Operand.tmp 115) (Operand.const (Value.bool false)), type := 4, pos := "law.go:138", after := #[{ on := 42, ground := Ground.data }, { on := 43, ground := Ground.data }], guard := none }) (v := ?tk5034) rfl (by kernel_rfl) (by kernel_rfl) (by kernel_rfl) (fun _ _ _ h => h) (Or.inl ⟨by rfl, ?tw5034⟩) hHeld3 ?_
      case tw5034 => (intro W hW; clear hW; first | (go_simp; done) | (go_simp; with_reducible rfl))
      try simp only [Act.put, List.setIfInBounds_toArray, List.set_cons_zero, List.set_cons_succ]
      refine wpAnyH_take (i := 45) (oi := { dst := some 6, op := Op.assign (Operand.tmp 116), type := 4, pos := "law.go:138", after := #[{ on := 44, ground := Ground.data }, { on := 43, ground := Ground.chain }, { on := 0, ground := Ground.phase }, { on := 1, ground := Ground.phase }, { on := 2, ground := Ground.phase }, { on := 3, ground := Ground.phase }, { on := 4, ground := Ground.phase }, { on := 5, ground := Ground.phase }, { on := 6, ground := Ground.phase }, { on := 7, ground := Ground.phase }, { on := 8, ground := Ground.phase }, { on := 9, ground := Ground.phase }, { on := 10, ground := Ground.phase }, { on := 11, ground := Ground.phase }, { on := 12, ground := Ground.phase }, { on := 13, ground := Ground.phase }, { on := 14, ground := Ground.phase }, { on := 15, ground := Ground.phase }, { on := 16, ground := Ground.phase }, { on := 17, ground := Ground.phase }, { on := 18, ground := Ground.phase }, { on := 19, ground := Ground.phase }, { on := 20, ground := Ground.phase }, { on := 21, ground := Ground.phase }, { on := 22, ground := Ground.phase }, { on := 23, ground := Ground.phase }, { on := 24, ground := Ground.phase }, { on := 25, ground := Ground.phase }, { on := 26, ground := Ground.phase }, { on := 27, ground := Ground.phase }, { on := 28, ground := Ground.phase }, { on := 29, ground := Ground.phase }, { on := 30, ground := Ground.phase }, { on := 31, ground := Ground.phase }, { on := 32, ground := Ground.phase }, { on := 33, ground := Ground.phase }, { on := 34, ground := Ground.phase }, { on := 35, ground := Ground.phase }, { on := 36, ground := Ground.phase }, { on := 37, ground := Ground.phase }, { on := 38, ground := Ground.phase }, { on := 39, ground := Ground.phase }, { on := 40, ground := Ground.phase }, { on := 41, ground := Ground.phase }, { on := 42, ground := Ground.phase }, { on := 43, ground := Ground.phase }, { on := 44, ground := Ground.phase }], guard := none }) (v := ?tk5035) rfl (by kernel_rfl) (by kernel_rfl) (by kernel_rfl) (fun _ _ _ h => h) (Or.inl ⟨by rfl, ?tw5035⟩) hHeld3 ?_
      case tw5035 => (intro W hW; clear hW; first | (go_simp; done) | (go_simp; with_reducible rfl))
      try simp only [Act.put, List.setIfInBounds_toArray, List.set_cons_zero, List.set_cons_succ]
      refine wpAnyH_done (by kernel_rfl) ?_ _
      refine NoPanic.normal ?_
      go_wp2_with fail
      go_ret
      exact ⟨rfl, HBV.out.trans (HL_3.out.mono HBV.out.size)⟩
    refine AllReadyH.cons (o := { dst := some 11, op := Op.alloc 27, type := 0, pos := "law.go:135", after := #[], guard := none }) rfl (fun K' hK => ?_) AllReadyH.nil
    go_simp
    obtain ⟨x2, hx2⟩ : ∃ X, x1.alloc (.cells (arr .u8 z32) 27) = X := ⟨_, rfl⟩
    have hb : Below x1.heap.size x1 x2 := by rw [← hx2]; exact (Below.refl _ _).alloc (Nat.le_refl _) _
    have Hl_2 := Lib.hid (keptW hb Hl_1.out)
    have HL_2 := Lib.hid (HL_1.out.trans (hb.mono HL_1.out.size))
    have hnew : rowN x2 x1.heap.size = some (arr .u8 z32) := by rw [← hx2, rowN_alloc, if_pos rfl]
    have hgeh : V.heap.size ≤ x1.heap.size := HL_1.out.size
    have hll_h := rowN_lt Hl_1.out
    rw [hx2]
    obtain ⟨gh, hgh⟩ : ∃ g, x1.heap.size = g := ⟨_, rfl⟩
    rw [hgh] at hnew hgeh hll_h ⊢
    have Hh_2 := Lib.hid hnew
    clear hb hnew hgh hx2
    refine hK.out _ _ trivial (fun hHeld2 => ?_)
    clear hK K'
    try simp only [Act.put, List.setIfInBounds_toArray, List.set_cons_zero, List.set_cons_succ]
    refine wpAnyH_ready (rs := [8]) (by kernel_rfl) (by simp) ?_
    refine AllReadyH.cons (o := { dst := some 55, op := Op.call { callee := Callee.value (Operand.func 10), args := #[Operand.tmp 47, Operand.tmp 54], argTypes := #[22, 23] }, type := 29, pos := "law.go:135", after := #[{ on := 0, ground := Ground.data }, { on := 7, ground := Ground.data }], guard := none }) rfl (fun K' hK => ?_) AllReadyH.nil
    go_simp
    refine ((HM2.out _ _ (HBV.out.trans (HL_2.out.mono HBV.out.size)) Hl_2.out)).mono ?_
    rintro e x3 ⟨rfl, hb⟩
    have Hl_3 := Lib.hid (keptW hb Hl_2.out)
    have Hh_3 := Lib.hid (keptW hb Hh_2.out)
    have HL_3 := Lib.hid (HL_2.out.trans (hb.mono HL_2.out.size))
    clear hb
    refine hK.out _ _ trivial (fun hHeld3 => ?_)
    clear hK K'
    try simp only [Act.put, List.setIfInBounds_toArray, List.set_cons_zero, List.set_cons_succ]
    refine wpAnyH_take (i := 9) (oi := { dst := some 46, op := Op.move (Operand.tmp 55), type := 29, pos := "law.go:135", after := #[{ on := 8, ground := Ground.data }], guard := none }) (v := ?tk47) rfl (by kernel_rfl) (by kernel_rfl) (by kernel_rfl) (fun _ _ _ h => h) (Or.inl ⟨by rfl, ?tw47⟩) hHeld3 ?_
    case tw47 => (intro W hW; clear hW; first | (go_simp; done) | (go_simp; with_reducible rfl))
    try simp only [Act.put, List.setIfInBounds_toArray, List.set_cons_zero, List.set_cons_succ]
    refine wpAnyH_take (i := 10) (oi := { dst := some 56, op := Op.extract (Operand.tmp 46) 0, type := 27, pos := "law.go:135", after := #[{ on := 9, ground := Ground.data }], guard := none }) (v := ?tk48) rfl (by kernel_rfl) (by kernel_rfl) (by kernel_rfl) (fun _ _ _ h => h) (Or.inl ⟨by rfl, ?tw48⟩) hHeld3 ?_
    case tw48 => (intro W hW; clear hW; first | (go_simp; done) | (go_simp; with_reducible rfl))
    try simp only [Act.put, List.setIfInBounds_toArray, List.set_cons_zero, List.set_cons_succ]
    refine wpAnyH_take (i := 11) (oi := { dst := some 57, op := Op.extract (Operand.tmp 46) 1, type := 28, pos := "law.go:135", after := #[{ on := 9, ground := Ground.data }, { on := 13, ground := Ground.gcOnly Departure.lateStores }], guard := none }) (v := ?tk49) rfl (by kernel_rfl) (by kernel_rfl) (by kernel_rfl) (fun _ _ _ h => h) (Or.inl ⟨by rfl, ?tw49⟩) hHeld3 ?_
    case tw49 => (intro W hW; clear hW; first | (go_simp; done) | (go_simp; with_reducible rfl))
    try simp only [Act.put, List.setIfInBounds_toArray, List.set_cons_zero, List.set_cons_succ]
    refine wpAnyH_ready (rs := [13]) (by kernel_rfl) (by simp) ?_
    refine AllReadyH.cons (o := { dst := none, op := Op.store 27 (Operand.tmp 11) (Operand.tmp 56), type := 0, pos := "law.go:135", after := #[{ on := 12, ground := Ground.data }, { on := 10, ground := Ground.data }, { on := 8, ground := Ground.chain }, { on := 0, ground := Ground.phase }, { on := 1, ground := Ground.phase }, { on := 2, ground := Ground.phase }, { on := 3, ground := Ground.phase }, { on := 4, ground := Ground.phase }, { on := 5, ground := Ground.phase }, { on := 6, ground := Ground.phase }, { on := 7, ground := Ground.phase }, { on := 8, ground := Ground.phase }, { on := 9, ground := Ground.phase }, { on := 10, ground := Ground.phase }, { on := 11, ground := Ground.textOnly Departure.lateStores }, { on := 12, ground := Ground.phase }], guard := none }) rfl (fun K' hK => ?_) AllReadyH.nil
    have hrow := Hh_3.out
    go_simp
    obtain ⟨x4, hx4⟩ : ∃ X, x3.setRow gh (arr .u8 O) = X := ⟨_, rfl⟩
    rw [hx4]
    have Hl_4 := Lib.hid (show rowN x4 gl = some #[.slice a n c, .slice none 0 0, .slice al ll cz] by rw [← hx4, rowN_setRow, if_neg (by omega)]; exact Hl_3.out)
    have Hh_4 := Lib.hid (show rowN x4 gh = some (arr .u8 O) by rw [← hx4, rowN_setRow, if_pos rfl, hrow]; rfl)
    have hbl : Below V.heap.size V x4 := by rw [← hx4]; exact below_setRow' HL_3.out (by omega) _
    have HL_4 := Lib.hid hbl
    clear hrow hbl hx4
    refine hK.out _ _ trivial (fun hHeld4 => ?_)
    clear hK K'
    try simp only [Act.put, List.setIfInBounds_toArray, List.set_cons_zero, List.set_cons_succ]
    refine wpAnyH_take (i := 14) (oi := { dst := some 12, op := Op.assign (Operand.tmp 57), type := 28, pos := "law.go:135", after := #[{ on := 11, ground := Ground.data }, { on := 13, ground := Ground.chain }, { on := 0, ground := Ground.phase }, { on := 1, ground := Ground.phase }, { on := 2, ground := Ground.phase }, { on := 3, ground := Ground.phase }, { on := 4, ground := Ground.phase }, { on := 5, ground := Ground.phase }, { on := 6, ground := Ground.phase }, { on := 7, ground := Ground.phase }, { on := 8, ground := Ground.phase }, { on := 9, ground := Ground.phase }, { on := 10, ground := Ground.phase }, { on := 11, ground := Ground.phase }, { on := 12, ground := Ground.phase }, { on := 13, ground := Ground.phase }], guard := none }) (v := ?tk50) rfl (by kernel_rfl) (by kernel_rfl) (by kernel_rfl) (fun _ _ _ h => h) (Or.inl ⟨by rfl, ?tw50⟩) hHeld4 ?_
    case tw50 => (intro W hW; clear hW; first | (go_simp; done) | (go_simp; with_reducible rfl))
    try simp only [Act.put, List.setIfInBounds_toArray, List.set_cons_zero, List.set_cons_succ]
    refine wpAnyH_done (by kernel_rfl) ?_ _
    refine NoPanic.normal ?_
    have HR9x := Lib.hid (keptW HL_4.out HR9.out)
    have HHx := Lib.hid Hh_4.out
    have HYx := Lib.hid (HYV.out.kept HL_4.out)
    have HBx := Lib.hid HL_4.out
    go_wp2_with fail
    refine (HM3.out _ _ (HBV.out.trans (HBx.out.mono HBV.out.size)) HYx.out HYN.out).mono ?_
    rintro e w7 ⟨rfl, hb7⟩
    have HR97 := Lib.hid (keptW hb7 HR9x.out)
    have HH7 := Lib.hid (keptW hb7 HHx.out)
    have HB7 := Lib.hid (HBx.out.trans (hb7.mono HBx.out.size))
    clear hb7
    go_upto_region 8 with fail
    obtain ⟨U, hU⟩ : ∃ U, (w7.alloc (.cells (arr .u8 z32) 27)).setRow w7.heap.size (arr .u8 O) = U := ⟨_, rfl⟩
    have hbU : Below w7.heap.size w7 U := by rw [← hU]; exact below_setRow' ((Below.refl _ _).alloc (Nat.le_refl _) _) (Nat.le_refl _) _
    have hrU : rowN U w7.heap.size = some (arr .u8 O) := by rw [← hU]; exact row_new (cs := arr .u8 z32) (by rw [rowN_alloc, if_pos rfl])
    rw [hU]
    have HR9U := Lib.hid (keptW hbU HR97.out)
    have HHU := Lib.hid (keptW hbU HH7.out)
    have HBU := Lib.hid (HB7.out.trans (hbU.mono HB7.out.size))
    obtain ⟨g13, hg13⟩ : ∃ g, w7.heap.size = g := ⟨_, rfl⟩
    rw [hg13] at hrU ⊢
    have HR13 := Lib.hid hrU
    clear hU hbU hrU hg13 HR97 HH7 HB7
    go_wp2_with fail
    refine (HT.out _ (HBV.out.trans (HBU.out.mono HBV.out.size))).mono ?_
    rintro e w8 ⟨s8, rfl, hb8b, hn8, hb8⟩
    have HN8 := Lib.hid hn8
    have Ht_0 := Lib.hid (show BytesAt O s8 w8.drew from hb8b)
    have H9_0 := Lib.hid (show rowN w8.drew g9 = some (arr .u8 O) from keptW hb8 HR9U.out)
    have Hh_0 := Lib.hid (show rowN w8.drew gh = some (arr .u8 O) from keptW hb8 HHU.out)
    have Hb_0 := Lib.hid (show rowN w8.drew g13 = some (arr .u8 O) from keptW hb8 HR13.out)
    have HL_0 := Lib.hid (show Below V.heap.size V w8.drew from (HBU.out.trans (hb8.mono HBU.out.size)).drew)
    clear hb8b hn8 hb8
    go_upto_region 9 with fail
    refine wp_region_noPanic ?_
    refine wp_region_held_drew (S := fun W => rowN W g9 = some (arr .u8 O) ∧ rowN W gh = some (arr .u8 O) ∧ rowN W g13 = some (arr .u8 O) ∧ BytesAt O s8 W) (by kernel_rfl) ⟨H9_0.out, Hh_0.out, Hb_0.out, Ht_0.out⟩ (fun hHeld0 => ?_)
    obtain ⟨x0, hx0⟩ : ∃ X, w8.drew = X := ⟨_, rfl⟩
    rw [hx0] at H9_0 Hh_0 Hb_0 Ht_0 HL_0 hHeld0 ⊢
    clear hx0
    refine wpAnyH_take (i := 0) (oi := { dst := some 72, op := Op.move (Operand.tmp 10), type := 28, pos := "law.go:138", after := #[], guard := none }) (v := ?tk6000) rfl (by kernel_rfl) (by kernel_rfl) (by kernel_rfl) (fun _ _ _ h => h) (Or.inl ⟨by rfl, ?tw6000⟩) hHeld0 ?_
    case tw6000 => (intro W hW; clear hW; first | (go_simp; done) | (go_simp; with_reducible rfl))
    try simp only [Act.put, List.setIfInBounds_toArray, List.set_cons_zero, List.set_cons_succ]
    refine wpAnyH_take (i := 1) (oi := { dst := some 73, op := Op.binOp BinOp.eql 28 (Operand.tmp 72) (Operand.const (Value.int IntKind.i64 0)) 28, type := 4, pos := "law.go:138", after := #[{ on := 0, ground := Ground.data }], guard := none }) (v := ?tk6001) rfl (by kernel_rfl) (by kernel_rfl) (by kernel_rfl) (fun _ _ _ h => h) (Or.inl ⟨by rfl, ?tw6001⟩) hHeld0 ?_
    case tw6001 => (intro W hW; clear hW; first | (go_simp; done) | (go_simp; with_reducible rfl))
    try simp only [Act.put, List.setIfInBounds_toArray, List.set_cons_zero, List.set_cons_succ]
    refine wpAnyH_take (i := 2) (oi := { dst := some 74, op := Op.move (Operand.tmp 73), type := 4, pos := "law.go:138", after := #[{ on := 1, ground := Ground.data }], guard := none }) (v := ?tk6002) rfl (by kernel_rfl) (by kernel_rfl) (by kernel_rfl) (fun _ _ _ h => h) (Or.inl ⟨by rfl, ?tw6002⟩) hHeld0 ?_
    case tw6002 => (intro W hW; clear hW; first | (go_simp; done) | (go_simp; with_reducible rfl))
    try simp only [Act.put, List.setIfInBounds_toArray, List.set_cons_zero, List.set_cons_succ]
    refine wpAnyH_take (i := 3) (oi := { dst := some 75, op := Op.move (Operand.tmp 12), type := 28, pos := "law.go:138", after := #[{ on := 2, ground := Ground.guard }], guard := some (2, true) }) (v := ?tk6003) rfl (by kernel_rfl) (by kernel_rfl) (by kernel_rfl) (fun _ _ _ h => h) (Or.inl ⟨by rfl, ?tw6003⟩) hHeld0 ?_
    case tw6003 => (intro W hW; clear hW; first | (go_simp; done) | (go_simp; with_reducible rfl))
    try simp only [Act.put, List.setIfInBounds_toArray, List.set_cons_zero, List.set_cons_succ]
    refine wpAnyH_take (i := 4) (oi := { dst := some 76, op := Op.binOp BinOp.eql 28 (Operand.tmp 75) (Operand.const (Value.int IntKind.i64 0)) 28, type := 4, pos := "law.go:138", after := #[{ on := 3, ground := Ground.data }, { on := 2, ground := Ground.guard }], guard := some (2, true) }) (v := ?tk6004) rfl (by kernel_rfl) (by kernel_rfl) (by kernel_rfl) (fun _ _ _ h => h) (Or.inl ⟨by rfl, ?tw6004⟩) hHeld0 ?_
    case tw6004 => (intro W hW; clear hW; first | (go_simp; done) | (go_simp; with_reducible rfl))
    try simp only [Act.put, List.setIfInBounds_toArray, List.set_cons_zero, List.set_cons_succ]
    refine wpAnyH_take (i := 5) (oi := { dst := some 77, op := Op.pick (Operand.tmp 74) (Operand.tmp 76) (Operand.const (Value.bool false)), type := 4, pos := "law.go:138", after := #[{ on := 2, ground := Ground.data }, { on := 4, ground := Ground.data }], guard := none }) (v := ?tk6005) rfl (by kernel_rfl) (by kernel_rfl) (by kernel_rfl) (fun _ _ _ h => h) (Or.inl ⟨by rfl, ?tw6005⟩) hHeld0 ?_
    case tw6005 => (intro W hW; clear hW; first | (go_simp; done) | (go_simp; with_reducible rfl))
    try simp only [Act.put, List.setIfInBounds_toArray, List.set_cons_zero, List.set_cons_succ]
    refine wpAnyH_take (i := 6) (oi := { dst := some 78, op := Op.move (Operand.tmp 77), type := 4, pos := "law.go:138", after := #[{ on := 5, ground := Ground.data }, { on := 2, ground := Ground.chain }], guard := none }) (v := ?tk6006) rfl (by kernel_rfl) (by kernel_rfl) (by kernel_rfl) (fun _ _ _ h => h) (Or.inl ⟨by rfl, ?tw6006⟩) hHeld0 ?_
    case tw6006 => (intro W hW; clear hW; first | (go_simp; done) | (go_simp; with_reducible rfl))
    try simp only [Act.put, List.setIfInBounds_toArray, List.set_cons_zero, List.set_cons_succ]
    refine wpAnyH_take (i := 7) (oi := { dst := some 79, op := Op.move (Operand.tmp 14), type := 28, pos := "law.go:138", after := #[{ on := 6, ground := Ground.guard }], guard := some (6, true) }) (v := ?tk6007) rfl (by kernel_rfl) (by kernel_rfl) (by kernel_rfl) (fun _ _ _ h => h) (Or.inl ⟨by rfl, ?tw6007⟩) hHeld0 ?_
    case tw6007 => (intro W hW; clear hW; first | (go_simp; done) | (go_simp; with_reducible rfl))
    try simp only [Act.put, List.setIfInBounds_toArray, List.set_cons_zero, List.set_cons_succ]
    refine wpAnyH_take (i := 8) (oi := { dst := some 80, op := Op.binOp BinOp.eql 28 (Operand.tmp 79) (Operand.const (Value.int IntKind.i64 0)) 28, type := 4, pos := "law.go:138", after := #[{ on := 7, ground := Ground.data }, { on := 6, ground := Ground.guard }], guard := some (6, true) }) (v := ?tk6008) rfl (by kernel_rfl) (by kernel_rfl) (by kernel_rfl) (fun _ _ _ h => h) (Or.inl ⟨by rfl, ?tw6008⟩) hHeld0 ?_
    case tw6008 => (intro W hW; clear hW; first | (go_simp; done) | (go_simp; with_reducible rfl))
    try simp only [Act.put, List.setIfInBounds_toArray, List.set_cons_zero, List.set_cons_succ]
    refine wpAnyH_take (i := 9) (oi := { dst := some 81, op := Op.pick (Operand.tmp 78) (Operand.tmp 80) (Operand.const (Value.bool false)), type := 4, pos := "law.go:138", after := #[{ on := 6, ground := Ground.data }, { on := 8, ground := Ground.data }], guard := none }) (v := ?tk6009) rfl (by kernel_rfl) (by kernel_rfl) (by kernel_rfl) (fun _ _ _ h => h) (Or.inl ⟨by rfl, ?tw6009⟩) hHeld0 ?_
    case tw6009 => (intro W hW; clear hW; first | (go_simp; done) | (go_simp; with_reducible rfl))
    try simp only [Act.put, List.setIfInBounds_toArray, List.set_cons_zero, List.set_cons_succ]
    refine wpAnyH_take (i := 10) (oi := { dst := some 82, op := Op.move (Operand.tmp 81), type := 4, pos := "law.go:138", after := #[{ on := 9, ground := Ground.data }, { on := 6, ground := Ground.chain }], guard := none }) (v := ?tk6010) rfl (by kernel_rfl) (by kernel_rfl) (by kernel_rfl) (fun _ _ _ h => h) (Or.inl ⟨by rfl, ?tw6010⟩) hHeld0 ?_
    case tw6010 => (intro W hW; clear hW; first | (go_simp; done) | (go_simp; with_reducible rfl))
    try simp only [Act.put, List.setIfInBounds_toArray, List.set_cons_zero, List.set_cons_succ]
    refine wpAnyH_take (i := 11) (oi := { dst := some 83, op := Op.move (Operand.tmp 16), type := 28, pos := "law.go:138", after := #[{ on := 10, ground := Ground.guard }], guard := some (10, true) }) (v := ?tk6011) rfl (by kernel_rfl) (by kernel_rfl) (by kernel_rfl) (fun _ _ _ h => h) (Or.inl ⟨by rfl, ?tw6011⟩) hHeld0 ?_
    case tw6011 => (intro W hW; clear hW; first | (go_simp; done) | (go_simp; with_reducible rfl))
    try simp only [Act.put, List.setIfInBounds_toArray, List.set_cons_zero, List.set_cons_succ]
    refine wpAnyH_take (i := 12) (oi := { dst := some 84, op := Op.binOp BinOp.eql 28 (Operand.tmp 83) (Operand.const (Value.int IntKind.i64 0)) 28, type := 4, pos := "law.go:138", after := #[{ on := 11, ground := Ground.data }, { on := 10, ground := Ground.guard }], guard := some (10, true) }) (v := ?tk6012) rfl (by kernel_rfl) (by kernel_rfl) (by kernel_rfl) (fun _ _ _ h => h) (Or.inl ⟨by rfl, ?tw6012⟩) hHeld0 ?_
    case tw6012 => (intro W hW; clear hW; first | (go_simp; done) | (go_simp; with_reducible rfl))
    try simp only [Act.put, List.setIfInBounds_toArray, List.set_cons_zero, List.set_cons_succ]
    refine wpAnyH_take (i := 13) (oi := { dst := some 85, op := Op.pick (Operand.tmp 82) (Operand.tmp 84) (Operand.const (Value.bool false)), type := 4, pos := "law.go:138", after := #[{ on := 10, ground := Ground.data }, { on := 12, ground := Ground.data }], guard := none }) (v := ?tk6013) rfl (by kernel_rfl) (by kernel_rfl) (by kernel_rfl) (fun _ _ _ h => h) (Or.inl ⟨by rfl, ?tw6013⟩) hHeld0 ?_
    case tw6013 => (intro W hW; clear hW; first | (go_simp; done) | (go_simp; with_reducible rfl))
    try simp only [Act.put, List.setIfInBounds_toArray, List.set_cons_zero, List.set_cons_succ]
    refine wpAnyH_take (i := 14) (oi := { dst := some 86, op := Op.move (Operand.tmp 85), type := 4, pos := "law.go:138", after := #[{ on := 13, ground := Ground.data }, { on := 10, ground := Ground.chain }], guard := none }) (v := ?tk6014) rfl (by kernel_rfl) (by kernel_rfl) (by kernel_rfl) (fun _ _ _ h => h) (Or.inl ⟨by rfl, ?tw6014⟩) hHeld0 ?_
    case tw6014 => (intro W hW; clear hW; first | (go_simp; done) | (go_simp; with_reducible rfl))
    try simp only [Act.put, List.setIfInBounds_toArray, List.set_cons_zero, List.set_cons_succ]
    refine wpAnyH_take (i := 15) (oi := { dst := some 87, op := Op.load 27 (Operand.tmp 9), type := 27, pos := "law.go:138", after := #[{ on := 14, ground := Ground.guard }], guard := some (14, true) }) (v := .agg (arr .u8 O)) rfl (by kernel_rfl) (by kernel_rfl) (by kernel_rfl) (fun _ _ _ h => h) (Or.inl ⟨by rfl, fun W hW => ?_⟩) hHeld0 ?_
    · (have hW1 := hW.1; clear hW; go_simp)
    try simp only [Act.put, List.setIfInBounds_toArray, List.set_cons_zero, List.set_cons_succ]
    refine wpAnyH_take (i := 16) (oi := { dst := some 88, op := Op.load 27 (Operand.tmp 11), type := 27, pos := "law.go:138", after := #[{ on := 14, ground := Ground.guard }], guard := some (14, true) }) (v := .agg (arr .u8 O)) rfl (by kernel_rfl) (by kernel_rfl) (by kernel_rfl) (fun _ _ _ h => h) (Or.inl ⟨by rfl, fun W hW => ?_⟩) hHeld0 ?_
    · (have hW1 := hW.2.1; clear hW; go_simp)
    try simp only [Act.put, List.setIfInBounds_toArray, List.set_cons_zero, List.set_cons_succ]
    refine wpAnyH_take (i := 17) (oi := { dst := some 89, op := Op.binOp BinOp.eql 27 (Operand.tmp 87) (Operand.tmp 88) 27, type := 4, pos := "law.go:138", after := #[{ on := 15, ground := Ground.data }, { on := 16, ground := Ground.data }, { on := 14, ground := Ground.guard }], guard := some (14, true) }) (v := ?tk6015) rfl (by kernel_rfl) (by kernel_rfl) (by kernel_rfl) (fun _ _ _ h => h) (Or.inl ⟨by rfl, ?tw6015⟩) hHeld0 ?_
    case tw6015 => (intro W hW; clear hW; first | (go_simp; done) | (go_simp; with_reducible rfl))
    try simp only [Act.put, List.setIfInBounds_toArray, List.set_cons_zero, List.set_cons_succ]
    refine wpAnyH_take (i := 18) (oi := { dst := some 90, op := Op.pick (Operand.tmp 86) (Operand.tmp 89) (Operand.const (Value.bool false)), type := 4, pos := "law.go:138", after := #[{ on := 14, ground := Ground.data }, { on := 17, ground := Ground.data }], guard := none }) (v := ?tk6016) rfl (by kernel_rfl) (by kernel_rfl) (by kernel_rfl) (fun _ _ _ h => h) (Or.inl ⟨by rfl, ?tw6016⟩) hHeld0 ?_
    case tw6016 => (intro W hW; clear hW; first | (go_simp; done) | (go_simp; with_reducible rfl))
    try simp only [Act.put, List.setIfInBounds_toArray, List.set_cons_zero, List.set_cons_succ]
    refine wpAnyH_take (i := 19) (oi := { dst := some 91, op := Op.move (Operand.tmp 90), type := 4, pos := "law.go:138", after := #[{ on := 18, ground := Ground.data }, { on := 14, ground := Ground.chain }], guard := none }) (v := ?tk6017) rfl (by kernel_rfl) (by kernel_rfl) (by kernel_rfl) (fun _ _ _ h => h) (Or.inl ⟨by rfl, ?tw6017⟩) hHeld0 ?_
    case tw6017 => (intro W hW; clear hW; first | (go_simp; done) | (go_simp; with_reducible rfl))
    try simp only [Act.put, List.setIfInBounds_toArray, List.set_cons_zero, List.set_cons_succ]
    refine wpAnyH_take (i := 20) (oi := { dst := some 92, op := Op.load 27 (Operand.tmp 9), type := 27, pos := "law.go:138", after := #[{ on := 19, ground := Ground.guard }], guard := some (19, true) }) (v := .agg (arr .u8 O)) rfl (by kernel_rfl) (by kernel_rfl) (by kernel_rfl) (fun _ _ _ h => h) (Or.inl ⟨by rfl, fun W hW => ?_⟩) hHeld0 ?_
    · (have hW1 := hW.1; clear hW; go_simp)
    try simp only [Act.put, List.setIfInBounds_toArray, List.set_cons_zero, List.set_cons_succ]
    refine wpAnyH_take (i := 21) (oi := { dst := some 93, op := Op.load 27 (Operand.tmp 13), type := 27, pos := "law.go:138", after := #[{ on := 19, ground := Ground.guard }], guard := some (19, true) }) (v := .agg (arr .u8 O)) rfl (by kernel_rfl) (by kernel_rfl) (by kernel_rfl) (fun _ _ _ h => h) (Or.inl ⟨by rfl, fun W hW => ?_⟩) hHeld0 ?_
    · (have hW1 := hW.2.2; clear hW; go_simp)
    try simp only [Act.put, List.setIfInBounds_toArray, List.set_cons_zero, List.set_cons_succ]
    refine wpAnyH_take (i := 22) (oi := { dst := some 94, op := Op.binOp BinOp.eql 27 (Operand.tmp 92) (Operand.tmp 93) 27, type := 4, pos := "law.go:138", after := #[{ on := 20, ground := Ground.data }, { on := 21, ground := Ground.data }, { on := 19, ground := Ground.guard }], guard := some (19, true) }) (v := ?tk6018) rfl (by kernel_rfl) (by kernel_rfl) (by kernel_rfl) (fun _ _ _ h => h) (Or.inl ⟨by rfl, ?tw6018⟩) hHeld0 ?_
    case tw6018 => (intro W hW; clear hW; first | (go_simp; done) | (go_simp; with_reducible rfl))
    try simp only [Act.put, List.setIfInBounds_toArray, List.set_cons_zero, List.set_cons_succ]
    refine wpAnyH_take (i := 23) (oi := { dst := some 95, op := Op.pick (Operand.tmp 91) (Operand.tmp 94) (Operand.const (Value.bool false)), type := 4, pos := "law.go:138", after := #[{ on := 19, ground := Ground.data }, { on := 22, ground := Ground.data }], guard := none }) (v := ?tk6019) rfl (by kernel_rfl) (by kernel_rfl) (by kernel_rfl) (fun _ _ _ h => h) (Or.inl ⟨by rfl, ?tw6019⟩) hHeld0 ?_
    case tw6019 => (intro W hW; clear hW; first | (go_simp; done) | (go_simp; with_reducible rfl))
    try simp only [Act.put, List.setIfInBounds_toArray, List.set_cons_zero, List.set_cons_succ]
    refine wpAnyH_take (i := 24) (oi := { dst := some 96, op := Op.move (Operand.tmp 95), type := 4, pos := "law.go:138", after := #[{ on := 23, ground := Ground.data }, { on := 19, ground := Ground.chain }], guard := none }) (v := ?tk6020) rfl (by kernel_rfl) (by kernel_rfl) (by kernel_rfl) (fun _ _ _ h => h) (Or.inl ⟨by rfl, ?tw6020⟩) hHeld0 ?_
    case tw6020 => (intro W hW; clear hW; first | (go_simp; done) | (go_simp; with_reducible rfl))
    try simp only [Act.put, List.setIfInBounds_toArray, List.set_cons_zero, List.set_cons_succ]
    refine wpAnyH_take (i := 25) (oi := { dst := some 97, op := Op.move (Operand.tmp 15), type := 22, pos := "law.go:138", after := #[{ on := 24, ground := Ground.guard }], guard := some (24, true) }) (v := ?tk6021) rfl (by kernel_rfl) (by kernel_rfl) (by kernel_rfl) (fun _ _ _ h => h) (Or.inl ⟨by rfl, ?tw6021⟩) hHeld0 ?_
    case tw6021 => (intro W hW; clear hW; first | (go_simp; done) | (go_simp; with_reducible rfl))
    try simp only [Act.put, List.setIfInBounds_toArray, List.set_cons_zero, List.set_cons_succ]
    refine wpAnyH_take (i := 26) (oi := { dst := some 98, op := Op.convert 22 9 (Operand.tmp 97), type := 9, pos := "law.go:138", after := #[{ on := 25, ground := Ground.data }, { on := 24, ground := Ground.guard }], guard := some (24, true) }) (v := .string (strOf O)) rfl (by kernel_rfl) (by kernel_rfl) (by kernel_rfl) (fun _ _ _ h => h) (Or.inl ⟨by rfl, fun W hW => ?_⟩) hHeld0 ?_
    · (have hst := str_bytes hW.2.2.2 HN8.out; clear hW; go_simp)
    try simp only [Act.put, List.setIfInBounds_toArray, List.set_cons_zero, List.set_cons_succ]
    refine wpAnyH_take (i := 27) (oi := { dst := some 99, op := Op.slice 27 (Operand.tmp 9) none none none, type := 22, pos := "law.go:138", after := #[{ on := 24, ground := Ground.guard }], guard := some (24, true) }) (v := ?tk6022) rfl (by kernel_rfl) (by kernel_rfl) (by kernel_rfl) (fun _ _ _ h => h) (Or.inl ⟨by rfl, ?tw6022⟩) hHeld0 ?_
    case tw6022 => (intro W hW; clear hW; first | (go_simp; done) | (go_simp; with_reducible rfl))
    try simp only [Act.put, List.setIfInBounds_toArray, List.set_cons_zero, List.set_cons_succ]
    refine wpAnyH_take (i := 28) (oi := { dst := some 100, op := Op.convert 22 9 (Operand.tmp 99), type := 9, pos := "law.go:138", after := #[{ on := 27, ground := Ground.data }, { on := 24, ground := Ground.guard }], guard := some (24, true) }) (v := .string (strOf O)) rfl (by kernel_rfl) (by kernel_rfl) (by kernel_rfl) (fun _ _ _ h => h) (Or.inl ⟨by rfl, fun W hW => ?_⟩) hHeld0 ?_
    · (have hst := str_arr hW.1 HO32.out; clear hW; go_simp)
    try simp only [Act.put, List.setIfInBounds_toArray, List.set_cons_zero, List.set_cons_succ]
    refine wpAnyH_take (i := 29) (oi := { dst := some 101, op := Op.binOp BinOp.eql 9 (Operand.tmp 98) (Operand.tmp 100) 9, type := 4, pos := "law.go:138", after := #[{ on := 26, ground := Ground.data }, { on := 28, ground := Ground.data }, { on := 24, ground := Ground.guard }], guard := some (24, true) }) (v := ?tk6023) rfl (by kernel_rfl) (by kernel_rfl) (by kernel_rfl) (fun _ _ _ h => h) (Or.inl ⟨by rfl, ?tw6023⟩) hHeld0 ?_
    case tw6023 => (intro W hW; clear hW; first | (go_simp; done) | (go_simp; with_reducible rfl))
    try simp only [Act.put, List.setIfInBounds_toArray, List.set_cons_zero, List.set_cons_succ]
    refine wpAnyH_take (i := 30) (oi := { dst := some 102, op := Op.pick (Operand.tmp 96) (Operand.tmp 101) (Operand.const (Value.bool false)), type := 4, pos := "law.go:138", after := #[{ on := 24, ground := Ground.data }, { on := 29, ground := Ground.data }], guard := none }) (v := ?tk6024) rfl (by kernel_rfl) (by kernel_rfl) (by kernel_rfl) (fun _ _ _ h => h) (Or.inl ⟨by rfl, ?tw6024⟩) hHeld0 ?_
    case tw6024 => (intro W hW; clear hW; first | (go_simp; done) | (go_simp; with_reducible rfl))
    try simp only [Act.put, List.setIfInBounds_toArray, List.set_cons_zero, List.set_cons_succ]
    refine wpAnyH_take (i := 31) (oi := { dst := some 103, op := Op.move (Operand.tmp 102), type := 4, pos := "law.go:138", after := #[{ on := 30, ground := Ground.data }, { on := 24, ground := Ground.chain }], guard := none }) (v := ?tk6025) rfl (by kernel_rfl) (by kernel_rfl) (by kernel_rfl) (fun _ _ _ h => h) (Or.inl ⟨by rfl, ?tw6025⟩) hHeld0 ?_
    case tw6025 => (intro W hW; clear hW; first | (go_simp; done) | (go_simp; with_reducible rfl))
    try simp only [Act.put, List.setIfInBounds_toArray, List.set_cons_zero, List.set_cons_succ]
    refine wpAnyH_take (i := 32) (oi := { dst := some 104, op := Op.move (Operand.tmp 0), type := 22, pos := "law.go:138", after := #[{ on := 31, ground := Ground.guard }], guard := some (31, true) }) (v := ?tk6026) rfl (by kernel_rfl) (by kernel_rfl) (by kernel_rfl) (fun _ _ _ h => h) (Or.inl ⟨by rfl, ?tw6026⟩) hHeld0 ?_
    case tw6026 => (intro W hW; clear hW; first | (go_simp; done) | (go_simp; with_reducible rfl))
    try simp only [Act.put, List.setIfInBounds_toArray, List.set_cons_zero, List.set_cons_succ]
    refine wpAnyH_take (i := 33) (oi := { dst := some 105, op := Op.move (Operand.tmp 7), type := 3, pos := "law.go:138", after := #[{ on := 31, ground := Ground.guard }], guard := some (31, true) }) (v := ?tk6027) rfl (by kernel_rfl) (by kernel_rfl) (by kernel_rfl) (fun _ _ _ h => h) (Or.inl ⟨by rfl, ?tw6027⟩) hHeld0 ?_
    case tw6027 => (intro W hW; clear hW; first | (go_simp; done) | (go_simp; with_reducible rfl))
    try simp only [Act.put, List.setIfInBounds_toArray, List.set_cons_zero, List.set_cons_succ]
    refine wpAnyH_take (i := 34) (oi := { dst := some 106, op := Op.binOp BinOp.rem 3 (Operand.tmp 105) (Operand.const (Value.int IntKind.i64 32)) 3, type := 3, pos := "law.go:138", after := #[{ on := 33, ground := Ground.data }, { on := 31, ground := Ground.guard }], guard := some (31, true) }) (v := ?tk6028) rfl (by kernel_rfl) (by kernel_rfl) (by kernel_rfl) (fun _ _ _ h => h) (Or.inl ⟨by rfl, ?tw6028⟩) hHeld0 ?_
    case tw6028 => (intro W hW; clear hW; first | (go_simp; done) | (go_simp; with_reducible rfl))
    try simp only [Act.put, List.setIfInBounds_toArray, List.set_cons_zero, List.set_cons_succ]
    refine wpAnyH_take (i := 35) (oi := { dst := some 107, op := Op.binOp BinOp.add 3 (Operand.const (Value.int IntKind.i64 1)) (Operand.tmp 106) 3, type := 3, pos := "law.go:138", after := #[{ on := 34, ground := Ground.data }, { on := 31, ground := Ground.guard }], guard := some (31, true) }) (v := ?tk6029) rfl (by kernel_rfl) (by kernel_rfl) (by kernel_rfl) (fun _ _ _ h => h) (Or.inl ⟨by rfl, ?tw6029⟩) hHeld0 ?_
    case tw6029 => (intro W hW; clear hW; first | (go_simp; done) | (go_simp; with_reducible rfl))
    try simp only [Act.put, List.setIfInBounds_toArray, List.set_cons_zero, List.set_cons_succ]
    refine wpAnyH_take (i := 36) (oi := { dst := some 108, op := Op.slice 27 (Operand.tmp 9) none (some (Operand.tmp 107)) none, type := 22, pos := "law.go:138", after := #[{ on := 35, ground := Ground.data }, { on := 31, ground := Ground.guard }], guard := some (31, true) }) (v := .slice (some ⟨g9, 0, none⟩) (q + 1) 32) rfl (by kernel_rfl) (by kernel_rfl) (by kernel_rfl) (fun _ _ _ h => h) (Or.inl ⟨by rfl, fun W hW => ?_⟩) hHeld0 ?_
    · (have hsv := run_slice27_h g9 (q + 1) (by omega) W; rw [show ((q + 1 : Nat) : Int) = (q : Int) + 1 by omega] at hsv; clear hW; go_simp)
    try simp only [Act.put, List.setIfInBounds_toArray, List.set_cons_zero, List.set_cons_succ]
    refine wpAnyH_take (i := 37) (oi := { dst := some 109, op := Op.move (Operand.tmp 1), type := 22, pos := "law.go:138", after := #[{ on := 31, ground := Ground.guard }], guard := some (31, true) }) (v := ?tk6030) rfl (by kernel_rfl) (by kernel_rfl) (by kernel_rfl) (fun _ _ _ h => h) (Or.inl ⟨by rfl, ?tw6030⟩) hHeld0 ?_
    case tw6030 => (intro W hW; clear hW; first | (go_simp; done) | (go_simp; with_reducible rfl))
    try simp only [Act.put, List.setIfInBounds_toArray, List.set_cons_zero, List.set_cons_succ]
    refine wpAnyH_ready (rs := [38]) (by kernel_rfl) (by simp) ?_
    refine AllReadyH.cons (o := { dst := some 110, op := Op.buildSlice 23 1 #[(0, Operand.tmp 109)], type := 23, pos := "law.go:138", after := #[{ on := 37, ground := Ground.data }, { on := 31, ground := Ground.guard }], guard := some (31, true) }) rfl (fun K' hK => ?_) AllReadyH.nil
    go_simp
    obtain ⟨x1, hx1⟩ : ∃ X, x0.alloc (.cells #[.slice a L c] 22) = X := ⟨_, rfl⟩
    have hb : Below x0.heap.size x0 x1 := by rw [← hx1]; exact (Below.refl _ _).alloc (Nat.le_refl _) _
    have H9_1 := Lib.hid (keptW hb H9_0.out)
    have Hh_1 := Lib.hid (keptW hb Hh_0.out)
    have Hb_1 := Lib.hid (keptW hb Hb_0.out)
    have Ht_1 := Lib.hid (Ht_0.out.kept hb)
    have HL_1 := Lib.hid (HL_0.out.trans (hb.mono HL_0.out.size))
    have hnew : rowN x1 x0.heap.size = some #[.slice a L c] := by rw [← hx1, rowN_alloc, if_pos rfl]
    have hgel : V.heap.size ≤ x0.heap.size := HL_0.out.size
    have hl9_l := rowN_lt H9_0.out
    have hlh_l := rowN_lt Hh_0.out
    have hlb_l := rowN_lt Hb_0.out
    rw [hx1]
    obtain ⟨gl, hgl⟩ : ∃ g, x0.heap.size = g := ⟨_, rfl⟩
    rw [hgl] at hnew hgel hl9_l hlh_l hlb_l ⊢
    have Hl_1 := Lib.hid hnew
    clear hb hnew hgl hx1
    refine hK.out _ _ ⟨H9_1.out, Hh_1.out, Hb_1.out, Ht_1.out⟩ (fun hHeld1 => ?_)
    clear hK K'
    try simp only [Act.put, List.setIfInBounds_toArray, List.set_cons_zero, List.set_cons_succ]
    refine wpAnyH_ready (rs := [39]) (by kernel_rfl) (by simp) ?_
    refine AllReadyH.cons (o := { dst := some 111, op := Op.call { callee := Callee.value (Operand.func 13), args := #[Operand.tmp 104, Operand.tmp 108, Operand.tmp 110], argTypes := #[22, 22, 23] }, type := 28, pos := "law.go:138", after := #[{ on := 32, ground := Ground.data }, { on := 36, ground := Ground.data }, { on := 38, ground := Ground.data }, { on := 31, ground := Ground.chain }, { on := 31, ground := Ground.guard }], guard := some (31, true) }) rfl (fun K' hK => ?_) AllReadyH.nil
    go_simp
    refine ((HCK.out _ _ _ (HBV.out.trans (HL_1.out.mono HBV.out.size)) H9_1.out Hl_1.out)).mono ?_
    rintro e x2 ⟨rfl, hb⟩
    have H9_2 := Lib.hid (keptW hb H9_1.out)
    have Hh_2 := Lib.hid (keptW hb Hh_1.out)
    have Hb_2 := Lib.hid (keptW hb Hb_1.out)
    have Hl_2 := Lib.hid (keptW hb Hl_1.out)
    have Ht_2 := Lib.hid (Ht_1.out.kept hb)
    have HL_2 := Lib.hid (HL_1.out.trans (hb.mono HL_1.out.size))
    clear hb
    refine hK.out _ _ ⟨H9_2.out, Hh_2.out, Hb_2.out, Ht_2.out⟩ (fun hHeld2 => ?_)
    clear hK K'
    try simp only [Act.put, List.setIfInBounds_toArray, List.set_cons_zero, List.set_cons_succ]
    refine wpAnyH_take (i := 40) (oi := { dst := some 112, op := Op.binOp BinOp.eql 28 (Operand.tmp 111) (Operand.const (Value.int IntKind.i64 0)) 28, type := 4, pos := "law.go:138", after := #[{ on := 39, ground := Ground.data }, { on := 31, ground := Ground.guard }], guard := some (31, true) }) (v := ?tk6031) rfl (by kernel_rfl) (by kernel_rfl) (by kernel_rfl) (fun _ _ _ h => h) (Or.inl ⟨by rfl, ?tw6031⟩) hHeld2 ?_
    case tw6031 => (intro W hW; clear hW; first | (go_simp; done) | (go_simp; with_reducible rfl))
    try simp only [Act.put, List.setIfInBounds_toArray, List.set_cons_zero, List.set_cons_succ]
    refine wpAnyH_take (i := 41) (oi := { dst := some 113, op := Op.pick (Operand.tmp 103) (Operand.tmp 112) (Operand.const (Value.bool false)), type := 4, pos := "law.go:138", after := #[{ on := 31, ground := Ground.data }, { on := 40, ground := Ground.data }], guard := none }) (v := ?tk6032) rfl (by kernel_rfl) (by kernel_rfl) (by kernel_rfl) (fun _ _ _ h => h) (Or.inl ⟨by rfl, ?tw6032⟩) hHeld2 ?_
    case tw6032 => (intro W hW; clear hW; first | (go_simp; done) | (go_simp; with_reducible rfl))
    try simp only [Act.put, List.setIfInBounds_toArray, List.set_cons_zero, List.set_cons_succ]
    refine wpAnyH_take (i := 42) (oi := { dst := some 114, op := Op.move (Operand.tmp 113), type := 4, pos := "law.go:138", after := #[{ on := 41, ground := Ground.data }, { on := 39, ground := Ground.chain }], guard := none }) (v := ?tk6033) rfl (by kernel_rfl) (by kernel_rfl) (by kernel_rfl) (fun _ _ _ h => h) (Or.inl ⟨by rfl, ?tw6033⟩) hHeld2 ?_
    case tw6033 => (intro W hW; clear hW; first | (go_simp; done) | (go_simp; with_reducible rfl))
    try simp only [Act.put, List.setIfInBounds_toArray, List.set_cons_zero, List.set_cons_succ]
    refine wpAnyH_ready (rs := [43]) (by kernel_rfl) (by simp) ?_
    refine AllReadyH.cons (o := { dst := some 115, op := Op.call { callee := Callee.value (Operand.func 9), args := #[], argTypes := #[] }, type := 4, pos := "law.go:138", after := #[{ on := 42, ground := Ground.chain }, { on := 42, ground := Ground.guard }], guard := some (42, true) }) rfl (fun K' hK => ?_) AllReadyH.nil
    go_simp
    refine ((known_any _ (HK.out.kept (HBV.out.trans (HL_2.out.mono HBV.out.size))))).mono ?_
    rintro e x3 ⟨rfl, hb⟩
    have H9_3 := Lib.hid (keptW hb H9_2.out)
    have Hh_3 := Lib.hid (keptW hb Hh_2.out)
    have Hb_3 := Lib.hid (keptW hb Hb_2.out)
    have Hl_3 := Lib.hid (keptW hb Hl_2.out)
    have Ht_3 := Lib.hid (Ht_2.out.kept hb)
    have HL_3 := Lib.hid (HL_2.out.trans (hb.mono HL_2.out.size))
    clear hb
    refine hK.out _ _ ⟨H9_3.out, Hh_3.out, Hb_3.out, Ht_3.out⟩ (fun hHeld3 => ?_)
    clear hK K'
    try simp only [Act.put, List.setIfInBounds_toArray, List.set_cons_zero, List.set_cons_succ]
    refine wpAnyH_take (i := 44) (oi := { dst := some 116, op := Op.pick (Operand.tmp 114) (Operand.tmp 115) (Operand.const (Value.bool false)), type := 4, pos := "law.go:138", after := #[{ on := 42, ground := Ground.data }, { on := 43, ground := Ground.data }], guard := none }) (v := ?tk6034) rfl (by kernel_rfl) (by kernel_rfl) (by kernel_rfl) (fun _ _ _ h => h) (Or.inl ⟨by rfl, ?tw6034⟩) hHeld3 ?_
    case tw6034 => (intro W hW; clear hW; first | (go_simp; done) | (go_simp; with_reducible rfl))
    try simp only [Act.put, List.setIfInBounds_toArray, List.set_cons_zero, List.set_cons_succ]
    refine wpAnyH_take (i := 45) (oi := { dst := some 6, op := Op.assign (Operand.tmp 116), type := 4, pos := "law.go:138", after := #[{ on := 44, ground := Ground.data }, { on := 43, ground := Ground.chain }, { on := 0, ground := Ground.phase }, { on := 1, ground := Ground.phase }, { on := 2, ground := Ground.phase }, { on := 3, ground := Ground.phase }, { on := 4, ground := Ground.phase }, { on := 5, ground := Ground.phase }, { on := 6, ground := Ground.phase }, { on := 7, ground := Ground.phase }, { on := 8, ground := Ground.phase }, { on := 9, ground := Ground.phase }, { on := 10, ground := Ground.phase }, { on := 11, ground := Ground.phase }, { on := 12, ground := Ground.phase }, { on := 13, ground := Ground.phase }, { on := 14, ground := Ground.phase }, { on := 15, ground := Ground.phase }, { on := 16, ground := Ground.phase }, { on := 17, ground := Ground.phase }, { on := 18, ground := Ground.phase }, { on := 19, ground := Ground.phase }, { on := 20, ground := Ground.phase }, { on := 21, ground := Ground.phase }, { on := 22, ground := Ground.phase }, { on := 23, ground := Ground.phase }, { on := 24, ground := Ground.phase }, { on := 25, ground := Ground.phase }, { on := 26, ground := Ground.phase }, { on := 27, ground := Ground.phase }, { on := 28, ground := Ground.phase }, { on := 29, ground := Ground.phase }, { on := 30, ground := Ground.phase }, { on := 31, ground := Ground.phase }, { on := 32, ground := Ground.phase }, { on := 33, ground := Ground.phase }, { on := 34, ground := Ground.phase }, { on := 35, ground := Ground.phase }, { on := 36, ground := Ground.phase }, { on := 37, ground := Ground.phase }, { on := 38, ground := Ground.phase }, { on := 39, ground := Ground.phase }, { on := 40, ground := Ground.phase }, { on := 41, ground := Ground.phase }, { on := 42, ground := Ground.phase }, { on := 43, ground := Ground.phase }, { on := 44, ground := Ground.phase }], guard := none }) (v := ?tk6035) rfl (by kernel_rfl) (by kernel_rfl) (by kernel_rfl) (fun _ _ _ h => h) (Or.inl ⟨by rfl, ?tw6035⟩) hHeld3 ?_
    case tw6035 => (intro W hW; clear hW; first | (go_simp; done) | (go_simp; with_reducible rfl))
    try simp only [Act.put, List.setIfInBounds_toArray, List.set_cons_zero, List.set_cons_succ]
    refine wpAnyH_done (by kernel_rfl) ?_ _
    refine NoPanic.normal ?_
    go_wp2_with fail
    go_ret
    exact ⟨rfl, HBV.out.trans (HL_3.out.mono HBV.out.size)⟩
  refine AllReadyH.cons (o := { dst := some 11, op := Op.alloc 27, type := 0, pos := "law.go:135", after := #[], guard := none }) rfl (fun K' hK => ?_) AllReadyH.nil
  go_simp
  obtain ⟨x1, hx1⟩ : ∃ X, x0.alloc (.cells (arr .u8 z32) 27) = X := ⟨_, rfl⟩
  have hb : Below x0.heap.size x0 x1 := by rw [← hx1]; exact (Below.refl _ _).alloc (Nat.le_refl _) _
  have HL_1 := Lib.hid (HL_0.out.trans (hb.mono HL_0.out.size))
  have hnew : rowN x1 x0.heap.size = some (arr .u8 z32) := by rw [← hx1, rowN_alloc, if_pos rfl]
  have hgeh : V.heap.size ≤ x0.heap.size := HL_0.out.size
  rw [hx1]
  obtain ⟨gh, hgh⟩ : ∃ g, x0.heap.size = g := ⟨_, rfl⟩
  rw [hgh] at hnew hgeh ⊢
  have Hh_1 := Lib.hid hnew
  clear hb hnew hgh hx1
  refine hK.out _ _ trivial (fun hHeld1 => ?_)
  clear hK K'
  try simp only [Act.put, List.setIfInBounds_toArray, List.set_cons_zero, List.set_cons_succ]
  refine wpAnyH_ready (rs := [7]) (by kernel_rfl) (by simp) ?_
  refine AllReadyH.cons (o := { dst := some 54, op := Op.buildSlice 23 3 #[(0, Operand.tmp 50), (1, Operand.const (Value.slice none 0 0)), (2, Operand.tmp 53)], type := 23, pos := "law.go:135", after := #[{ on := 3, ground := Ground.data }, { on := 6, ground := Ground.data }], guard := none }) rfl (fun K' hK => ?_) AllReadyH.nil
  go_simp
  obtain ⟨x2, hx2⟩ : ∃ X, x1.alloc (.cells #[.slice a n c, .slice none 0 0, .slice al ll cz] 22) = X := ⟨_, rfl⟩
  have hb : Below x1.heap.size x1 x2 := by rw [← hx2]; exact (Below.refl _ _).alloc (Nat.le_refl _) _
  have Hh_2 := Lib.hid (keptW hb Hh_1.out)
  have HL_2 := Lib.hid (HL_1.out.trans (hb.mono HL_1.out.size))
  have hnew : rowN x2 x1.heap.size = some #[.slice a n c, .slice none 0 0, .slice al ll cz] := by rw [← hx2, rowN_alloc, if_pos rfl]
  have hgel : V.heap.size ≤ x1.heap.size := HL_1.out.size
  have hlh_l := rowN_lt Hh_1.out
  rw [hx2]
  obtain ⟨gl, hgl⟩ : ∃ g, x1.heap.size = g := ⟨_, rfl⟩
  rw [hgl] at hnew hgel hlh_l ⊢
  have Hl_2 := Lib.hid hnew
  clear hb hnew hgl hx2
  refine hK.out _ _ trivial (fun hHeld2 => ?_)
  clear hK K'
  try simp only [Act.put, List.setIfInBounds_toArray, List.set_cons_zero, List.set_cons_succ]
  refine wpAnyH_ready (rs := [8]) (by kernel_rfl) (by simp) ?_
  refine AllReadyH.cons (o := { dst := some 55, op := Op.call { callee := Callee.value (Operand.func 10), args := #[Operand.tmp 47, Operand.tmp 54], argTypes := #[22, 23] }, type := 29, pos := "law.go:135", after := #[{ on := 0, ground := Ground.data }, { on := 7, ground := Ground.data }], guard := none }) rfl (fun K' hK => ?_) AllReadyH.nil
  go_simp
  refine ((HM2.out _ _ (HBV.out.trans (HL_2.out.mono HBV.out.size)) Hl_2.out)).mono ?_
  rintro e x3 ⟨rfl, hb⟩
  have Hh_3 := Lib.hid (keptW hb Hh_2.out)
  have Hl_3 := Lib.hid (keptW hb Hl_2.out)
  have HL_3 := Lib.hid (HL_2.out.trans (hb.mono HL_2.out.size))
  clear hb
  refine hK.out _ _ trivial (fun hHeld3 => ?_)
  clear hK K'
  try simp only [Act.put, List.setIfInBounds_toArray, List.set_cons_zero, List.set_cons_succ]
  refine wpAnyH_take (i := 9) (oi := { dst := some 46, op := Op.move (Operand.tmp 55), type := 29, pos := "law.go:135", after := #[{ on := 8, ground := Ground.data }], guard := none }) (v := ?tk51) rfl (by kernel_rfl) (by kernel_rfl) (by kernel_rfl) (fun _ _ _ h => h) (Or.inl ⟨by rfl, ?tw51⟩) hHeld3 ?_
  case tw51 => (intro W hW; clear hW; first | (go_simp; done) | (go_simp; with_reducible rfl))
  try simp only [Act.put, List.setIfInBounds_toArray, List.set_cons_zero, List.set_cons_succ]
  refine wpAnyH_take (i := 10) (oi := { dst := some 56, op := Op.extract (Operand.tmp 46) 0, type := 27, pos := "law.go:135", after := #[{ on := 9, ground := Ground.data }], guard := none }) (v := ?tk52) rfl (by kernel_rfl) (by kernel_rfl) (by kernel_rfl) (fun _ _ _ h => h) (Or.inl ⟨by rfl, ?tw52⟩) hHeld3 ?_
  case tw52 => (intro W hW; clear hW; first | (go_simp; done) | (go_simp; with_reducible rfl))
  try simp only [Act.put, List.setIfInBounds_toArray, List.set_cons_zero, List.set_cons_succ]
  refine wpAnyH_take (i := 11) (oi := { dst := some 57, op := Op.extract (Operand.tmp 46) 1, type := 28, pos := "law.go:135", after := #[{ on := 9, ground := Ground.data }, { on := 13, ground := Ground.gcOnly Departure.lateStores }], guard := none }) (v := ?tk53) rfl (by kernel_rfl) (by kernel_rfl) (by kernel_rfl) (fun _ _ _ h => h) (Or.inl ⟨by rfl, ?tw53⟩) hHeld3 ?_
  case tw53 => (intro W hW; clear hW; first | (go_simp; done) | (go_simp; with_reducible rfl))
  try simp only [Act.put, List.setIfInBounds_toArray, List.set_cons_zero, List.set_cons_succ]
  refine wpAnyH_ready (rs := [13]) (by kernel_rfl) (by simp) ?_
  refine AllReadyH.cons (o := { dst := none, op := Op.store 27 (Operand.tmp 11) (Operand.tmp 56), type := 0, pos := "law.go:135", after := #[{ on := 12, ground := Ground.data }, { on := 10, ground := Ground.data }, { on := 8, ground := Ground.chain }, { on := 0, ground := Ground.phase }, { on := 1, ground := Ground.phase }, { on := 2, ground := Ground.phase }, { on := 3, ground := Ground.phase }, { on := 4, ground := Ground.phase }, { on := 5, ground := Ground.phase }, { on := 6, ground := Ground.phase }, { on := 7, ground := Ground.phase }, { on := 8, ground := Ground.phase }, { on := 9, ground := Ground.phase }, { on := 10, ground := Ground.phase }, { on := 11, ground := Ground.textOnly Departure.lateStores }, { on := 12, ground := Ground.phase }], guard := none }) rfl (fun K' hK => ?_) AllReadyH.nil
  have hrow := Hh_3.out
  go_simp
  obtain ⟨x4, hx4⟩ : ∃ X, x3.setRow gh (arr .u8 O) = X := ⟨_, rfl⟩
  rw [hx4]
  have Hl_4 := Lib.hid (show rowN x4 gl = some #[.slice a n c, .slice none 0 0, .slice al ll cz] by rw [← hx4, rowN_setRow, if_neg (by omega)]; exact Hl_3.out)
  have Hh_4 := Lib.hid (show rowN x4 gh = some (arr .u8 O) by rw [← hx4, rowN_setRow, if_pos rfl, hrow]; rfl)
  have hbl : Below V.heap.size V x4 := by rw [← hx4]; exact below_setRow' HL_3.out (by omega) _
  have HL_4 := Lib.hid hbl
  clear hrow hbl hx4
  refine hK.out _ _ trivial (fun hHeld4 => ?_)
  clear hK K'
  try simp only [Act.put, List.setIfInBounds_toArray, List.set_cons_zero, List.set_cons_succ]
  refine wpAnyH_take (i := 14) (oi := { dst := some 12, op := Op.assign (Operand.tmp 57), type := 28, pos := "law.go:135", after := #[{ on := 11, ground := Ground.data }, { on := 13, ground := Ground.chain }, { on := 0, ground := Ground.phase }, { on := 1, ground := Ground.phase }, { on := 2, ground := Ground.phase }, { on := 3, ground := Ground.phase }, { on := 4, ground := Ground.phase }, { on := 5, ground := Ground.phase }, { on := 6, ground := Ground.phase }, { on := 7, ground := Ground.phase }, { on := 8, ground := Ground.phase }, { on := 9, ground := Ground.phase }, { on := 10, ground := Ground.phase }, { on := 11, ground := Ground.phase }, { on := 12, ground := Ground.phase }, { on := 13, ground := Ground.phase }], guard := none }) (v := ?tk54) rfl (by kernel_rfl) (by kernel_rfl) (by kernel_rfl) (fun _ _ _ h => h) (Or.inl ⟨by rfl, ?tw54⟩) hHeld4 ?_
  case tw54 => (intro W hW; clear hW; first | (go_simp; done) | (go_simp; with_reducible rfl))
  try simp only [Act.put, List.setIfInBounds_toArray, List.set_cons_zero, List.set_cons_succ]
  refine wpAnyH_done (by kernel_rfl) ?_ _
  refine NoPanic.normal ?_
  have HR9x := Lib.hid (keptW HL_4.out HR9.out)
  have HHx := Lib.hid Hh_4.out
  have HYx := Lib.hid (HYV.out.kept HL_4.out)
  have HBx := Lib.hid HL_4.out
  go_wp2_with fail
  refine (HM3.out _ _ (HBV.out.trans (HBx.out.mono HBV.out.size)) HYx.out HYN.out).mono ?_
  rintro e w7 ⟨rfl, hb7⟩
  have HR97 := Lib.hid (keptW hb7 HR9x.out)
  have HH7 := Lib.hid (keptW hb7 HHx.out)
  have HB7 := Lib.hid (HBx.out.trans (hb7.mono HBx.out.size))
  clear hb7
  go_upto_region 8 with fail
  obtain ⟨U, hU⟩ : ∃ U, (w7.alloc (.cells (arr .u8 z32) 27)).setRow w7.heap.size (arr .u8 O) = U := ⟨_, rfl⟩
  have hbU : Below w7.heap.size w7 U := by rw [← hU]; exact below_setRow' ((Below.refl _ _).alloc (Nat.le_refl _) _) (Nat.le_refl _) _
  have hrU : rowN U w7.heap.size = some (arr .u8 O) := by rw [← hU]; exact row_new (cs := arr .u8 z32) (by rw [rowN_alloc, if_pos rfl])
  rw [hU]
  have HR9U := Lib.hid (keptW hbU HR97.out)
  have HHU := Lib.hid (keptW hbU HH7.out)
  have HBU := Lib.hid (HB7.out.trans (hbU.mono HB7.out.size))
  obtain ⟨g13, hg13⟩ : ∃ g, w7.heap.size = g := ⟨_, rfl⟩
  rw [hg13] at hrU ⊢
  have HR13 := Lib.hid hrU
  clear hU hbU hrU hg13 HR97 HH7 HB7
  go_wp2_with fail
  refine (HT.out _ (HBV.out.trans (HBU.out.mono HBV.out.size))).mono ?_
  rintro e w8 ⟨s8, rfl, hb8b, hn8, hb8⟩
  have HN8 := Lib.hid hn8
  have Ht_0 := Lib.hid (show BytesAt O s8 w8.drew from hb8b)
  have H9_0 := Lib.hid (show rowN w8.drew g9 = some (arr .u8 O) from keptW hb8 HR9U.out)
  have Hh_0 := Lib.hid (show rowN w8.drew gh = some (arr .u8 O) from keptW hb8 HHU.out)
  have Hb_0 := Lib.hid (show rowN w8.drew g13 = some (arr .u8 O) from keptW hb8 HR13.out)
  have HL_0 := Lib.hid (show Below V.heap.size V w8.drew from (HBU.out.trans (hb8.mono HBU.out.size)).drew)
  clear hb8b hn8 hb8
  go_upto_region 9 with fail
  refine wp_region_noPanic ?_
  refine wp_region_held_drew (S := fun W => rowN W g9 = some (arr .u8 O) ∧ rowN W gh = some (arr .u8 O) ∧ rowN W g13 = some (arr .u8 O) ∧ BytesAt O s8 W) (by kernel_rfl) ⟨H9_0.out, Hh_0.out, Hb_0.out, Ht_0.out⟩ (fun hHeld0 => ?_)
  obtain ⟨x0, hx0⟩ : ∃ X, w8.drew = X := ⟨_, rfl⟩
  rw [hx0] at H9_0 Hh_0 Hb_0 Ht_0 HL_0 hHeld0 ⊢
  clear hx0
  refine wpAnyH_take (i := 0) (oi := { dst := some 72, op := Op.move (Operand.tmp 10), type := 28, pos := "law.go:138", after := #[], guard := none }) (v := ?tk7000) rfl (by kernel_rfl) (by kernel_rfl) (by kernel_rfl) (fun _ _ _ h => h) (Or.inl ⟨by rfl, ?tw7000⟩) hHeld0 ?_
  case tw7000 => (intro W hW; clear hW; first | (go_simp; done) | (go_simp; with_reducible rfl))
  try simp only [Act.put, List.setIfInBounds_toArray, List.set_cons_zero, List.set_cons_succ]
  refine wpAnyH_take (i := 1) (oi := { dst := some 73, op := Op.binOp BinOp.eql 28 (Operand.tmp 72) (Operand.const (Value.int IntKind.i64 0)) 28, type := 4, pos := "law.go:138", after := #[{ on := 0, ground := Ground.data }], guard := none }) (v := ?tk7001) rfl (by kernel_rfl) (by kernel_rfl) (by kernel_rfl) (fun _ _ _ h => h) (Or.inl ⟨by rfl, ?tw7001⟩) hHeld0 ?_
  case tw7001 => (intro W hW; clear hW; first | (go_simp; done) | (go_simp; with_reducible rfl))
  try simp only [Act.put, List.setIfInBounds_toArray, List.set_cons_zero, List.set_cons_succ]
  refine wpAnyH_take (i := 2) (oi := { dst := some 74, op := Op.move (Operand.tmp 73), type := 4, pos := "law.go:138", after := #[{ on := 1, ground := Ground.data }], guard := none }) (v := ?tk7002) rfl (by kernel_rfl) (by kernel_rfl) (by kernel_rfl) (fun _ _ _ h => h) (Or.inl ⟨by rfl, ?tw7002⟩) hHeld0 ?_
  case tw7002 => (intro W hW; clear hW; first | (go_simp; done) | (go_simp; with_reducible rfl))
  try simp only [Act.put, List.setIfInBounds_toArray, List.set_cons_zero, List.set_cons_succ]
  refine wpAnyH_take (i := 3) (oi := { dst := some 75, op := Op.move (Operand.tmp 12), type := 28, pos := "law.go:138", after := #[{ on := 2, ground := Ground.guard }], guard := some (2, true) }) (v := ?tk7003) rfl (by kernel_rfl) (by kernel_rfl) (by kernel_rfl) (fun _ _ _ h => h) (Or.inl ⟨by rfl, ?tw7003⟩) hHeld0 ?_
  case tw7003 => (intro W hW; clear hW; first | (go_simp; done) | (go_simp; with_reducible rfl))
  try simp only [Act.put, List.setIfInBounds_toArray, List.set_cons_zero, List.set_cons_succ]
  refine wpAnyH_take (i := 4) (oi := { dst := some 76, op := Op.binOp BinOp.eql 28 (Operand.tmp 75) (Operand.const (Value.int IntKind.i64 0)) 28, type := 4, pos := "law.go:138", after := #[{ on := 3, ground := Ground.data }, { on := 2, ground := Ground.guard }], guard := some (2, true) }) (v := ?tk7004) rfl (by kernel_rfl) (by kernel_rfl) (by kernel_rfl) (fun _ _ _ h => h) (Or.inl ⟨by rfl, ?tw7004⟩) hHeld0 ?_
  case tw7004 => (intro W hW; clear hW; first | (go_simp; done) | (go_simp; with_reducible rfl))
  try simp only [Act.put, List.setIfInBounds_toArray, List.set_cons_zero, List.set_cons_succ]
  refine wpAnyH_take (i := 5) (oi := { dst := some 77, op := Op.pick (Operand.tmp 74) (Operand.tmp 76) (Operand.const (Value.bool false)), type := 4, pos := "law.go:138", after := #[{ on := 2, ground := Ground.data }, { on := 4, ground := Ground.data }], guard := none }) (v := ?tk7005) rfl (by kernel_rfl) (by kernel_rfl) (by kernel_rfl) (fun _ _ _ h => h) (Or.inl ⟨by rfl, ?tw7005⟩) hHeld0 ?_
  case tw7005 => (intro W hW; clear hW; first | (go_simp; done) | (go_simp; with_reducible rfl))
  try simp only [Act.put, List.setIfInBounds_toArray, List.set_cons_zero, List.set_cons_succ]
  refine wpAnyH_take (i := 6) (oi := { dst := some 78, op := Op.move (Operand.tmp 77), type := 4, pos := "law.go:138", after := #[{ on := 5, ground := Ground.data }, { on := 2, ground := Ground.chain }], guard := none }) (v := ?tk7006) rfl (by kernel_rfl) (by kernel_rfl) (by kernel_rfl) (fun _ _ _ h => h) (Or.inl ⟨by rfl, ?tw7006⟩) hHeld0 ?_
  case tw7006 => (intro W hW; clear hW; first | (go_simp; done) | (go_simp; with_reducible rfl))
  try simp only [Act.put, List.setIfInBounds_toArray, List.set_cons_zero, List.set_cons_succ]
  refine wpAnyH_take (i := 7) (oi := { dst := some 79, op := Op.move (Operand.tmp 14), type := 28, pos := "law.go:138", after := #[{ on := 6, ground := Ground.guard }], guard := some (6, true) }) (v := ?tk7007) rfl (by kernel_rfl) (by kernel_rfl) (by kernel_rfl) (fun _ _ _ h => h) (Or.inl ⟨by rfl, ?tw7007⟩) hHeld0 ?_
  case tw7007 => (intro W hW; clear hW; first | (go_simp; done) | (go_simp; with_reducible rfl))
  try simp only [Act.put, List.setIfInBounds_toArray, List.set_cons_zero, List.set_cons_succ]
  refine wpAnyH_take (i := 8) (oi := { dst := some 80, op := Op.binOp BinOp.eql 28 (Operand.tmp 79) (Operand.const (Value.int IntKind.i64 0)) 28, type := 4, pos := "law.go:138", after := #[{ on := 7, ground := Ground.data }, { on := 6, ground := Ground.guard }], guard := some (6, true) }) (v := ?tk7008) rfl (by kernel_rfl) (by kernel_rfl) (by kernel_rfl) (fun _ _ _ h => h) (Or.inl ⟨by rfl, ?tw7008⟩) hHeld0 ?_
  case tw7008 => (intro W hW; clear hW; first | (go_simp; done) | (go_simp; with_reducible rfl))
  try simp only [Act.put, List.setIfInBounds_toArray, List.set_cons_zero, List.set_cons_succ]
  refine wpAnyH_take (i := 9) (oi := { dst := some 81, op := Op.pick (Operand.tmp 78) (Operand.tmp 80) (Operand.const (Value.bool false)), type := 4, pos := "law.go:138", after := #[{ on := 6, ground := Ground.data }, { on := 8, ground := Ground.data }], guard := none }) (v := ?tk7009) rfl (by kernel_rfl) (by kernel_rfl) (by kernel_rfl) (fun _ _ _ h => h) (Or.inl ⟨by rfl, ?tw7009⟩) hHeld0 ?_
  case tw7009 => (intro W hW; clear hW; first | (go_simp; done) | (go_simp; with_reducible rfl))
  try simp only [Act.put, List.setIfInBounds_toArray, List.set_cons_zero, List.set_cons_succ]
  refine wpAnyH_take (i := 10) (oi := { dst := some 82, op := Op.move (Operand.tmp 81), type := 4, pos := "law.go:138", after := #[{ on := 9, ground := Ground.data }, { on := 6, ground := Ground.chain }], guard := none }) (v := ?tk7010) rfl (by kernel_rfl) (by kernel_rfl) (by kernel_rfl) (fun _ _ _ h => h) (Or.inl ⟨by rfl, ?tw7010⟩) hHeld0 ?_
  case tw7010 => (intro W hW; clear hW; first | (go_simp; done) | (go_simp; with_reducible rfl))
  try simp only [Act.put, List.setIfInBounds_toArray, List.set_cons_zero, List.set_cons_succ]
  refine wpAnyH_take (i := 11) (oi := { dst := some 83, op := Op.move (Operand.tmp 16), type := 28, pos := "law.go:138", after := #[{ on := 10, ground := Ground.guard }], guard := some (10, true) }) (v := ?tk7011) rfl (by kernel_rfl) (by kernel_rfl) (by kernel_rfl) (fun _ _ _ h => h) (Or.inl ⟨by rfl, ?tw7011⟩) hHeld0 ?_
  case tw7011 => (intro W hW; clear hW; first | (go_simp; done) | (go_simp; with_reducible rfl))
  try simp only [Act.put, List.setIfInBounds_toArray, List.set_cons_zero, List.set_cons_succ]
  refine wpAnyH_take (i := 12) (oi := { dst := some 84, op := Op.binOp BinOp.eql 28 (Operand.tmp 83) (Operand.const (Value.int IntKind.i64 0)) 28, type := 4, pos := "law.go:138", after := #[{ on := 11, ground := Ground.data }, { on := 10, ground := Ground.guard }], guard := some (10, true) }) (v := ?tk7012) rfl (by kernel_rfl) (by kernel_rfl) (by kernel_rfl) (fun _ _ _ h => h) (Or.inl ⟨by rfl, ?tw7012⟩) hHeld0 ?_
  case tw7012 => (intro W hW; clear hW; first | (go_simp; done) | (go_simp; with_reducible rfl))
  try simp only [Act.put, List.setIfInBounds_toArray, List.set_cons_zero, List.set_cons_succ]
  refine wpAnyH_take (i := 13) (oi := { dst := some 85, op := Op.pick (Operand.tmp 82) (Operand.tmp 84) (Operand.const (Value.bool false)), type := 4, pos := "law.go:138", after := #[{ on := 10, ground := Ground.data }, { on := 12, ground := Ground.data }], guard := none }) (v := ?tk7013) rfl (by kernel_rfl) (by kernel_rfl) (by kernel_rfl) (fun _ _ _ h => h) (Or.inl ⟨by rfl, ?tw7013⟩) hHeld0 ?_
  case tw7013 => (intro W hW; clear hW; first | (go_simp; done) | (go_simp; with_reducible rfl))
  try simp only [Act.put, List.setIfInBounds_toArray, List.set_cons_zero, List.set_cons_succ]
  refine wpAnyH_take (i := 14) (oi := { dst := some 86, op := Op.move (Operand.tmp 85), type := 4, pos := "law.go:138", after := #[{ on := 13, ground := Ground.data }, { on := 10, ground := Ground.chain }], guard := none }) (v := ?tk7014) rfl (by kernel_rfl) (by kernel_rfl) (by kernel_rfl) (fun _ _ _ h => h) (Or.inl ⟨by rfl, ?tw7014⟩) hHeld0 ?_
  case tw7014 => (intro W hW; clear hW; first | (go_simp; done) | (go_simp; with_reducible rfl))
  try simp only [Act.put, List.setIfInBounds_toArray, List.set_cons_zero, List.set_cons_succ]
  refine wpAnyH_take (i := 15) (oi := { dst := some 87, op := Op.load 27 (Operand.tmp 9), type := 27, pos := "law.go:138", after := #[{ on := 14, ground := Ground.guard }], guard := some (14, true) }) (v := .agg (arr .u8 O)) rfl (by kernel_rfl) (by kernel_rfl) (by kernel_rfl) (fun _ _ _ h => h) (Or.inl ⟨by rfl, fun W hW => ?_⟩) hHeld0 ?_
  · (have hW1 := hW.1; clear hW; go_simp)
  try simp only [Act.put, List.setIfInBounds_toArray, List.set_cons_zero, List.set_cons_succ]
  refine wpAnyH_take (i := 16) (oi := { dst := some 88, op := Op.load 27 (Operand.tmp 11), type := 27, pos := "law.go:138", after := #[{ on := 14, ground := Ground.guard }], guard := some (14, true) }) (v := .agg (arr .u8 O)) rfl (by kernel_rfl) (by kernel_rfl) (by kernel_rfl) (fun _ _ _ h => h) (Or.inl ⟨by rfl, fun W hW => ?_⟩) hHeld0 ?_
  · (have hW1 := hW.2.1; clear hW; go_simp)
  try simp only [Act.put, List.setIfInBounds_toArray, List.set_cons_zero, List.set_cons_succ]
  refine wpAnyH_take (i := 17) (oi := { dst := some 89, op := Op.binOp BinOp.eql 27 (Operand.tmp 87) (Operand.tmp 88) 27, type := 4, pos := "law.go:138", after := #[{ on := 15, ground := Ground.data }, { on := 16, ground := Ground.data }, { on := 14, ground := Ground.guard }], guard := some (14, true) }) (v := ?tk7015) rfl (by kernel_rfl) (by kernel_rfl) (by kernel_rfl) (fun _ _ _ h => h) (Or.inl ⟨by rfl, ?tw7015⟩) hHeld0 ?_
  case tw7015 => (intro W hW; clear hW; first | (go_simp; done) | (go_simp; with_reducible rfl))
  try simp only [Act.put, List.setIfInBounds_toArray, List.set_cons_zero, List.set_cons_succ]
  refine wpAnyH_take (i := 18) (oi := { dst := some 90, op := Op.pick (Operand.tmp 86) (Operand.tmp 89) (Operand.const (Value.bool false)), type := 4, pos := "law.go:138", after := #[{ on := 14, ground := Ground.data }, { on := 17, ground := Ground.data }], guard := none }) (v := ?tk7016) rfl (by kernel_rfl) (by kernel_rfl) (by kernel_rfl) (fun _ _ _ h => h) (Or.inl ⟨by rfl, ?tw7016⟩) hHeld0 ?_
  case tw7016 => (intro W hW; clear hW; first | (go_simp; done) | (go_simp; with_reducible rfl))
  try simp only [Act.put, List.setIfInBounds_toArray, List.set_cons_zero, List.set_cons_succ]
  refine wpAnyH_take (i := 19) (oi := { dst := some 91, op := Op.move (Operand.tmp 90), type := 4, pos := "law.go:138", after := #[{ on := 18, ground := Ground.data }, { on := 14, ground := Ground.chain }], guard := none }) (v := ?tk7017) rfl (by kernel_rfl) (by kernel_rfl) (by kernel_rfl) (fun _ _ _ h => h) (Or.inl ⟨by rfl, ?tw7017⟩) hHeld0 ?_
  case tw7017 => (intro W hW; clear hW; first | (go_simp; done) | (go_simp; with_reducible rfl))
  try simp only [Act.put, List.setIfInBounds_toArray, List.set_cons_zero, List.set_cons_succ]
  refine wpAnyH_take (i := 20) (oi := { dst := some 92, op := Op.load 27 (Operand.tmp 9), type := 27, pos := "law.go:138", after := #[{ on := 19, ground := Ground.guard }], guard := some (19, true) }) (v := .agg (arr .u8 O)) rfl (by kernel_rfl) (by kernel_rfl) (by kernel_rfl) (fun _ _ _ h => h) (Or.inl ⟨by rfl, fun W hW => ?_⟩) hHeld0 ?_
  · (have hW1 := hW.1; clear hW; go_simp)
  try simp only [Act.put, List.setIfInBounds_toArray, List.set_cons_zero, List.set_cons_succ]
  refine wpAnyH_take (i := 21) (oi := { dst := some 93, op := Op.load 27 (Operand.tmp 13), type := 27, pos := "law.go:138", after := #[{ on := 19, ground := Ground.guard }], guard := some (19, true) }) (v := .agg (arr .u8 O)) rfl (by kernel_rfl) (by kernel_rfl) (by kernel_rfl) (fun _ _ _ h => h) (Or.inl ⟨by rfl, fun W hW => ?_⟩) hHeld0 ?_
  · (have hW1 := hW.2.2; clear hW; go_simp)
  try simp only [Act.put, List.setIfInBounds_toArray, List.set_cons_zero, List.set_cons_succ]
  refine wpAnyH_take (i := 22) (oi := { dst := some 94, op := Op.binOp BinOp.eql 27 (Operand.tmp 92) (Operand.tmp 93) 27, type := 4, pos := "law.go:138", after := #[{ on := 20, ground := Ground.data }, { on := 21, ground := Ground.data }, { on := 19, ground := Ground.guard }], guard := some (19, true) }) (v := ?tk7018) rfl (by kernel_rfl) (by kernel_rfl) (by kernel_rfl) (fun _ _ _ h => h) (Or.inl ⟨by rfl, ?tw7018⟩) hHeld0 ?_
  case tw7018 => (intro W hW; clear hW; first | (go_simp; done) | (go_simp; with_reducible rfl))
  try simp only [Act.put, List.setIfInBounds_toArray, List.set_cons_zero, List.set_cons_succ]
  refine wpAnyH_take (i := 23) (oi := { dst := some 95, op := Op.pick (Operand.tmp 91) (Operand.tmp 94) (Operand.const (Value.bool false)), type := 4, pos := "law.go:138", after := #[{ on := 19, ground := Ground.data }, { on := 22, ground := Ground.data }], guard := none }) (v := ?tk7019) rfl (by kernel_rfl) (by kernel_rfl) (by kernel_rfl) (fun _ _ _ h => h) (Or.inl ⟨by rfl, ?tw7019⟩) hHeld0 ?_
  case tw7019 => (intro W hW; clear hW; first | (go_simp; done) | (go_simp; with_reducible rfl))
  try simp only [Act.put, List.setIfInBounds_toArray, List.set_cons_zero, List.set_cons_succ]
  refine wpAnyH_take (i := 24) (oi := { dst := some 96, op := Op.move (Operand.tmp 95), type := 4, pos := "law.go:138", after := #[{ on := 23, ground := Ground.data }, { on := 19, ground := Ground.chain }], guard := none }) (v := ?tk7020) rfl (by kernel_rfl) (by kernel_rfl) (by kernel_rfl) (fun _ _ _ h => h) (Or.inl ⟨by rfl, ?tw7020⟩) hHeld0 ?_
  case tw7020 => (intro W hW; clear hW; first | (go_simp; done) | (go_simp; with_reducible rfl))
  try simp only [Act.put, List.setIfInBounds_toArray, List.set_cons_zero, List.set_cons_succ]
  refine wpAnyH_take (i := 25) (oi := { dst := some 97, op := Op.move (Operand.tmp 15), type := 22, pos := "law.go:138", after := #[{ on := 24, ground := Ground.guard }], guard := some (24, true) }) (v := ?tk7021) rfl (by kernel_rfl) (by kernel_rfl) (by kernel_rfl) (fun _ _ _ h => h) (Or.inl ⟨by rfl, ?tw7021⟩) hHeld0 ?_
  case tw7021 => (intro W hW; clear hW; first | (go_simp; done) | (go_simp; with_reducible rfl))
  try simp only [Act.put, List.setIfInBounds_toArray, List.set_cons_zero, List.set_cons_succ]
  refine wpAnyH_take (i := 26) (oi := { dst := some 98, op := Op.convert 22 9 (Operand.tmp 97), type := 9, pos := "law.go:138", after := #[{ on := 25, ground := Ground.data }, { on := 24, ground := Ground.guard }], guard := some (24, true) }) (v := .string (strOf O)) rfl (by kernel_rfl) (by kernel_rfl) (by kernel_rfl) (fun _ _ _ h => h) (Or.inl ⟨by rfl, fun W hW => ?_⟩) hHeld0 ?_
  · (have hst := str_bytes hW.2.2.2 HN8.out; clear hW; go_simp)
  try simp only [Act.put, List.setIfInBounds_toArray, List.set_cons_zero, List.set_cons_succ]
  refine wpAnyH_take (i := 27) (oi := { dst := some 99, op := Op.slice 27 (Operand.tmp 9) none none none, type := 22, pos := "law.go:138", after := #[{ on := 24, ground := Ground.guard }], guard := some (24, true) }) (v := ?tk7022) rfl (by kernel_rfl) (by kernel_rfl) (by kernel_rfl) (fun _ _ _ h => h) (Or.inl ⟨by rfl, ?tw7022⟩) hHeld0 ?_
  case tw7022 => (intro W hW; clear hW; first | (go_simp; done) | (go_simp; with_reducible rfl))
  try simp only [Act.put, List.setIfInBounds_toArray, List.set_cons_zero, List.set_cons_succ]
  refine wpAnyH_take (i := 28) (oi := { dst := some 100, op := Op.convert 22 9 (Operand.tmp 99), type := 9, pos := "law.go:138", after := #[{ on := 27, ground := Ground.data }, { on := 24, ground := Ground.guard }], guard := some (24, true) }) (v := .string (strOf O)) rfl (by kernel_rfl) (by kernel_rfl) (by kernel_rfl) (fun _ _ _ h => h) (Or.inl ⟨by rfl, fun W hW => ?_⟩) hHeld0 ?_
  · (have hst := str_arr hW.1 HO32.out; clear hW; go_simp)
  try simp only [Act.put, List.setIfInBounds_toArray, List.set_cons_zero, List.set_cons_succ]
  refine wpAnyH_take (i := 29) (oi := { dst := some 101, op := Op.binOp BinOp.eql 9 (Operand.tmp 98) (Operand.tmp 100) 9, type := 4, pos := "law.go:138", after := #[{ on := 26, ground := Ground.data }, { on := 28, ground := Ground.data }, { on := 24, ground := Ground.guard }], guard := some (24, true) }) (v := ?tk7023) rfl (by kernel_rfl) (by kernel_rfl) (by kernel_rfl) (fun _ _ _ h => h) (Or.inl ⟨by rfl, ?tw7023⟩) hHeld0 ?_
  case tw7023 => (intro W hW; clear hW; first | (go_simp; done) | (go_simp; with_reducible rfl))
  try simp only [Act.put, List.setIfInBounds_toArray, List.set_cons_zero, List.set_cons_succ]
  refine wpAnyH_take (i := 30) (oi := { dst := some 102, op := Op.pick (Operand.tmp 96) (Operand.tmp 101) (Operand.const (Value.bool false)), type := 4, pos := "law.go:138", after := #[{ on := 24, ground := Ground.data }, { on := 29, ground := Ground.data }], guard := none }) (v := ?tk7024) rfl (by kernel_rfl) (by kernel_rfl) (by kernel_rfl) (fun _ _ _ h => h) (Or.inl ⟨by rfl, ?tw7024⟩) hHeld0 ?_
  case tw7024 => (intro W hW; clear hW; first | (go_simp; done) | (go_simp; with_reducible rfl))
  try simp only [Act.put, List.setIfInBounds_toArray, List.set_cons_zero, List.set_cons_succ]
  refine wpAnyH_take (i := 31) (oi := { dst := some 103, op := Op.move (Operand.tmp 102), type := 4, pos := "law.go:138", after := #[{ on := 30, ground := Ground.data }, { on := 24, ground := Ground.chain }], guard := none }) (v := ?tk7025) rfl (by kernel_rfl) (by kernel_rfl) (by kernel_rfl) (fun _ _ _ h => h) (Or.inl ⟨by rfl, ?tw7025⟩) hHeld0 ?_
  case tw7025 => (intro W hW; clear hW; first | (go_simp; done) | (go_simp; with_reducible rfl))
  try simp only [Act.put, List.setIfInBounds_toArray, List.set_cons_zero, List.set_cons_succ]
  refine wpAnyH_take (i := 32) (oi := { dst := some 104, op := Op.move (Operand.tmp 0), type := 22, pos := "law.go:138", after := #[{ on := 31, ground := Ground.guard }], guard := some (31, true) }) (v := ?tk7026) rfl (by kernel_rfl) (by kernel_rfl) (by kernel_rfl) (fun _ _ _ h => h) (Or.inl ⟨by rfl, ?tw7026⟩) hHeld0 ?_
  case tw7026 => (intro W hW; clear hW; first | (go_simp; done) | (go_simp; with_reducible rfl))
  try simp only [Act.put, List.setIfInBounds_toArray, List.set_cons_zero, List.set_cons_succ]
  refine wpAnyH_take (i := 33) (oi := { dst := some 105, op := Op.move (Operand.tmp 7), type := 3, pos := "law.go:138", after := #[{ on := 31, ground := Ground.guard }], guard := some (31, true) }) (v := ?tk7027) rfl (by kernel_rfl) (by kernel_rfl) (by kernel_rfl) (fun _ _ _ h => h) (Or.inl ⟨by rfl, ?tw7027⟩) hHeld0 ?_
  case tw7027 => (intro W hW; clear hW; first | (go_simp; done) | (go_simp; with_reducible rfl))
  try simp only [Act.put, List.setIfInBounds_toArray, List.set_cons_zero, List.set_cons_succ]
  refine wpAnyH_take (i := 34) (oi := { dst := some 106, op := Op.binOp BinOp.rem 3 (Operand.tmp 105) (Operand.const (Value.int IntKind.i64 32)) 3, type := 3, pos := "law.go:138", after := #[{ on := 33, ground := Ground.data }, { on := 31, ground := Ground.guard }], guard := some (31, true) }) (v := ?tk7028) rfl (by kernel_rfl) (by kernel_rfl) (by kernel_rfl) (fun _ _ _ h => h) (Or.inl ⟨by rfl, ?tw7028⟩) hHeld0 ?_
  case tw7028 => (intro W hW; clear hW; first | (go_simp; done) | (go_simp; with_reducible rfl))
  try simp only [Act.put, List.setIfInBounds_toArray, List.set_cons_zero, List.set_cons_succ]
  refine wpAnyH_take (i := 35) (oi := { dst := some 107, op := Op.binOp BinOp.add 3 (Operand.const (Value.int IntKind.i64 1)) (Operand.tmp 106) 3, type := 3, pos := "law.go:138", after := #[{ on := 34, ground := Ground.data }, { on := 31, ground := Ground.guard }], guard := some (31, true) }) (v := ?tk7029) rfl (by kernel_rfl) (by kernel_rfl) (by kernel_rfl) (fun _ _ _ h => h) (Or.inl ⟨by rfl, ?tw7029⟩) hHeld0 ?_
  case tw7029 => (intro W hW; clear hW; first | (go_simp; done) | (go_simp; with_reducible rfl))
  try simp only [Act.put, List.setIfInBounds_toArray, List.set_cons_zero, List.set_cons_succ]
  refine wpAnyH_take (i := 36) (oi := { dst := some 108, op := Op.slice 27 (Operand.tmp 9) none (some (Operand.tmp 107)) none, type := 22, pos := "law.go:138", after := #[{ on := 35, ground := Ground.data }, { on := 31, ground := Ground.guard }], guard := some (31, true) }) (v := .slice (some ⟨g9, 0, none⟩) (q + 1) 32) rfl (by kernel_rfl) (by kernel_rfl) (by kernel_rfl) (fun _ _ _ h => h) (Or.inl ⟨by rfl, fun W hW => ?_⟩) hHeld0 ?_
  · (have hsv := run_slice27_h g9 (q + 1) (by omega) W; rw [show ((q + 1 : Nat) : Int) = (q : Int) + 1 by omega] at hsv; clear hW; go_simp)
  try simp only [Act.put, List.setIfInBounds_toArray, List.set_cons_zero, List.set_cons_succ]
  refine wpAnyH_take (i := 37) (oi := { dst := some 109, op := Op.move (Operand.tmp 1), type := 22, pos := "law.go:138", after := #[{ on := 31, ground := Ground.guard }], guard := some (31, true) }) (v := ?tk7030) rfl (by kernel_rfl) (by kernel_rfl) (by kernel_rfl) (fun _ _ _ h => h) (Or.inl ⟨by rfl, ?tw7030⟩) hHeld0 ?_
  case tw7030 => (intro W hW; clear hW; first | (go_simp; done) | (go_simp; with_reducible rfl))
  try simp only [Act.put, List.setIfInBounds_toArray, List.set_cons_zero, List.set_cons_succ]
  refine wpAnyH_ready (rs := [38]) (by kernel_rfl) (by simp) ?_
  refine AllReadyH.cons (o := { dst := some 110, op := Op.buildSlice 23 1 #[(0, Operand.tmp 109)], type := 23, pos := "law.go:138", after := #[{ on := 37, ground := Ground.data }, { on := 31, ground := Ground.guard }], guard := some (31, true) }) rfl (fun K' hK => ?_) AllReadyH.nil
  go_simp
  obtain ⟨x1, hx1⟩ : ∃ X, x0.alloc (.cells #[.slice a L c] 22) = X := ⟨_, rfl⟩
  have hb : Below x0.heap.size x0 x1 := by rw [← hx1]; exact (Below.refl _ _).alloc (Nat.le_refl _) _
  have H9_1 := Lib.hid (keptW hb H9_0.out)
  have Hh_1 := Lib.hid (keptW hb Hh_0.out)
  have Hb_1 := Lib.hid (keptW hb Hb_0.out)
  have Ht_1 := Lib.hid (Ht_0.out.kept hb)
  have HL_1 := Lib.hid (HL_0.out.trans (hb.mono HL_0.out.size))
  have hnew : rowN x1 x0.heap.size = some #[.slice a L c] := by rw [← hx1, rowN_alloc, if_pos rfl]
  have hgel : V.heap.size ≤ x0.heap.size := HL_0.out.size
  have hl9_l := rowN_lt H9_0.out
  have hlh_l := rowN_lt Hh_0.out
  have hlb_l := rowN_lt Hb_0.out
  rw [hx1]
  obtain ⟨gl, hgl⟩ : ∃ g, x0.heap.size = g := ⟨_, rfl⟩
  rw [hgl] at hnew hgel hl9_l hlh_l hlb_l ⊢
  have Hl_1 := Lib.hid hnew
  clear hb hnew hgl hx1
  refine hK.out _ _ ⟨H9_1.out, Hh_1.out, Hb_1.out, Ht_1.out⟩ (fun hHeld1 => ?_)
  clear hK K'
  try simp only [Act.put, List.setIfInBounds_toArray, List.set_cons_zero, List.set_cons_succ]
  refine wpAnyH_ready (rs := [39]) (by kernel_rfl) (by simp) ?_
  refine AllReadyH.cons (o := { dst := some 111, op := Op.call { callee := Callee.value (Operand.func 13), args := #[Operand.tmp 104, Operand.tmp 108, Operand.tmp 110], argTypes := #[22, 22, 23] }, type := 28, pos := "law.go:138", after := #[{ on := 32, ground := Ground.data }, { on := 36, ground := Ground.data }, { on := 38, ground := Ground.data }, { on := 31, ground := Ground.chain }, { on := 31, ground := Ground.guard }], guard := some (31, true) }) rfl (fun K' hK => ?_) AllReadyH.nil
  go_simp
  refine ((HCK.out _ _ _ (HBV.out.trans (HL_1.out.mono HBV.out.size)) H9_1.out Hl_1.out)).mono ?_
  rintro e x2 ⟨rfl, hb⟩
  have H9_2 := Lib.hid (keptW hb H9_1.out)
  have Hh_2 := Lib.hid (keptW hb Hh_1.out)
  have Hb_2 := Lib.hid (keptW hb Hb_1.out)
  have Hl_2 := Lib.hid (keptW hb Hl_1.out)
  have Ht_2 := Lib.hid (Ht_1.out.kept hb)
  have HL_2 := Lib.hid (HL_1.out.trans (hb.mono HL_1.out.size))
  clear hb
  refine hK.out _ _ ⟨H9_2.out, Hh_2.out, Hb_2.out, Ht_2.out⟩ (fun hHeld2 => ?_)
  clear hK K'
  try simp only [Act.put, List.setIfInBounds_toArray, List.set_cons_zero, List.set_cons_succ]
  refine wpAnyH_take (i := 40) (oi := { dst := some 112, op := Op.binOp BinOp.eql 28 (Operand.tmp 111) (Operand.const (Value.int IntKind.i64 0)) 28, type := 4, pos := "law.go:138", after := #[{ on := 39, ground := Ground.data }, { on := 31, ground := Ground.guard }], guard := some (31, true) }) (v := ?tk7031) rfl (by kernel_rfl) (by kernel_rfl) (by kernel_rfl) (fun _ _ _ h => h) (Or.inl ⟨by rfl, ?tw7031⟩) hHeld2 ?_
  case tw7031 => (intro W hW; clear hW; first | (go_simp; done) | (go_simp; with_reducible rfl))
  try simp only [Act.put, List.setIfInBounds_toArray, List.set_cons_zero, List.set_cons_succ]
  refine wpAnyH_take (i := 41) (oi := { dst := some 113, op := Op.pick (Operand.tmp 103) (Operand.tmp 112) (Operand.const (Value.bool false)), type := 4, pos := "law.go:138", after := #[{ on := 31, ground := Ground.data }, { on := 40, ground := Ground.data }], guard := none }) (v := ?tk7032) rfl (by kernel_rfl) (by kernel_rfl) (by kernel_rfl) (fun _ _ _ h => h) (Or.inl ⟨by rfl, ?tw7032⟩) hHeld2 ?_
  case tw7032 => (intro W hW; clear hW; first | (go_simp; done) | (go_simp; with_reducible rfl))
  try simp only [Act.put, List.setIfInBounds_toArray, List.set_cons_zero, List.set_cons_succ]
  refine wpAnyH_take (i := 42) (oi := { dst := some 114, op := Op.move (Operand.tmp 113), type := 4, pos := "law.go:138", after := #[{ on := 41, ground := Ground.data }, { on := 39, ground := Ground.chain }], guard := none }) (v := ?tk7033) rfl (by kernel_rfl) (by kernel_rfl) (by kernel_rfl) (fun _ _ _ h => h) (Or.inl ⟨by rfl, ?tw7033⟩) hHeld2 ?_
  case tw7033 => (intro W hW; clear hW; first | (go_simp; done) | (go_simp; with_reducible rfl))
  try simp only [Act.put, List.setIfInBounds_toArray, List.set_cons_zero, List.set_cons_succ]
  refine wpAnyH_ready (rs := [43]) (by kernel_rfl) (by simp) ?_
  refine AllReadyH.cons (o := { dst := some 115, op := Op.call { callee := Callee.value (Operand.func 9), args := #[], argTypes := #[] }, type := 4, pos := "law.go:138", after := #[{ on := 42, ground := Ground.chain }, { on := 42, ground := Ground.guard }], guard := some (42, true) }) rfl (fun K' hK => ?_) AllReadyH.nil
  go_simp
  refine ((known_any _ (HK.out.kept (HBV.out.trans (HL_2.out.mono HBV.out.size))))).mono ?_
  rintro e x3 ⟨rfl, hb⟩
  have H9_3 := Lib.hid (keptW hb H9_2.out)
  have Hh_3 := Lib.hid (keptW hb Hh_2.out)
  have Hb_3 := Lib.hid (keptW hb Hb_2.out)
  have Hl_3 := Lib.hid (keptW hb Hl_2.out)
  have Ht_3 := Lib.hid (Ht_2.out.kept hb)
  have HL_3 := Lib.hid (HL_2.out.trans (hb.mono HL_2.out.size))
  clear hb
  refine hK.out _ _ ⟨H9_3.out, Hh_3.out, Hb_3.out, Ht_3.out⟩ (fun hHeld3 => ?_)
  clear hK K'
  try simp only [Act.put, List.setIfInBounds_toArray, List.set_cons_zero, List.set_cons_succ]
  refine wpAnyH_take (i := 44) (oi := { dst := some 116, op := Op.pick (Operand.tmp 114) (Operand.tmp 115) (Operand.const (Value.bool false)), type := 4, pos := "law.go:138", after := #[{ on := 42, ground := Ground.data }, { on := 43, ground := Ground.data }], guard := none }) (v := ?tk7034) rfl (by kernel_rfl) (by kernel_rfl) (by kernel_rfl) (fun _ _ _ h => h) (Or.inl ⟨by rfl, ?tw7034⟩) hHeld3 ?_
  case tw7034 => (intro W hW; clear hW; first | (go_simp; done) | (go_simp; with_reducible rfl))
  try simp only [Act.put, List.setIfInBounds_toArray, List.set_cons_zero, List.set_cons_succ]
  refine wpAnyH_take (i := 45) (oi := { dst := some 6, op := Op.assign (Operand.tmp 116), type := 4, pos := "law.go:138", after := #[{ on := 44, ground := Ground.data }, { on := 43, ground := Ground.chain }, { on := 0, ground := Ground.phase }, { on := 1, ground := Ground.phase }, { on := 2, ground := Ground.phase }, { on := 3, ground := Ground.phase }, { on := 4, ground := Ground.phase }, { on := 5, ground := Ground.phase }, { on := 6, ground := Ground.phase }, { on := 7, ground := Ground.phase }, { on := 8, ground := Ground.phase }, { on := 9, ground := Ground.phase }, { on := 10, ground := Ground.phase }, { on := 11, ground := Ground.phase }, { on := 12, ground := Ground.phase }, { on := 13, ground := Ground.phase }, { on := 14, ground := Ground.phase }, { on := 15, ground := Ground.phase }, { on := 16, ground := Ground.phase }, { on := 17, ground := Ground.phase }, { on := 18, ground := Ground.phase }, { on := 19, ground := Ground.phase }, { on := 20, ground := Ground.phase }, { on := 21, ground := Ground.phase }, { on := 22, ground := Ground.phase }, { on := 23, ground := Ground.phase }, { on := 24, ground := Ground.phase }, { on := 25, ground := Ground.phase }, { on := 26, ground := Ground.phase }, { on := 27, ground := Ground.phase }, { on := 28, ground := Ground.phase }, { on := 29, ground := Ground.phase }, { on := 30, ground := Ground.phase }, { on := 31, ground := Ground.phase }, { on := 32, ground := Ground.phase }, { on := 33, ground := Ground.phase }, { on := 34, ground := Ground.phase }, { on := 35, ground := Ground.phase }, { on := 36, ground := Ground.phase }, { on := 37, ground := Ground.phase }, { on := 38, ground := Ground.phase }, { on := 39, ground := Ground.phase }, { on := 40, ground := Ground.phase }, { on := 41, ground := Ground.phase }, { on := 42, ground := Ground.phase }, { on := 43, ground := Ground.phase }, { on := 44, ground := Ground.phase }], guard := none }) (v := ?tk7035) rfl (by kernel_rfl) (by kernel_rfl) (by kernel_rfl) (fun _ _ _ h => h) (Or.inl ⟨by rfl, ?tw7035⟩) hHeld3 ?_
  case tw7035 => (intro W hW; clear hW; first | (go_simp; done) | (go_simp; with_reducible rfl))
  try simp only [Act.put, List.setIfInBounds_toArray, List.set_cons_zero, List.set_cons_succ]
  refine wpAnyH_done (by kernel_rfl) ?_ _
  refine NoPanic.normal ?_
  go_wp2_with fail
  go_ret
  exact ⟨rfl, HBV.out.trans (HL_3.out.mono HBV.out.size)⟩
end Go.Proofs.YtmlacbdonkfbdaaDoor
