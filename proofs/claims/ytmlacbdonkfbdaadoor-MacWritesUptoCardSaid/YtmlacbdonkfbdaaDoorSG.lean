/- rest, ending: the end of a padded string. -/
import Derived.Laws.AppendOwnNone
import Derived.Test.YtmlacbdonkfbdaaDoorSF
namespace Go.Proofs.YtmlacbdonkfbdaaDoor
open Go.RowKit

theorem BytesAt.drop {zs : List Nat} {a : Option Addr} {c k : Nat} {w : World} (h : BytesAt zs (.slice a zs.length c) w) (hk : k ≤ zs.length) (a' : Option Addr) (c' m : Nat) (hm : m = zs.length - k) (hc : m ≤ c') (ha : 0 < m → ∀ b off, a = some ⟨b, off, none⟩ → a' = some ⟨b, off + k, none⟩) : BytesAt (zs.drop k) (.slice a' m c') w := by
  obtain ⟨h1, a0, c0, e, hc0, h2⟩ := h
  cases e
  have hl : (zs.drop k).length = m := by rw [List.length_drop, hm]
  refine ⟨fun x hx => h1 x (List.mem_of_mem_drop hx), a', c', by rw [hl], by rw [hl]; exact hc, ?_⟩
  rw [hl]
  by_cases h0 : m = 0
  · exact .inl h0
  · rcases h2 with h2 | ⟨b, off, ea, hb, hj⟩
    · omega
    · refine .inr ⟨b, off + k, ha (by omega) b off ea, hb, fun j hjl => ?_⟩
      have := hj (k + j) (by omega)
      rw [Nat.add_assoc, this]
      simp [List.getD, List.getElem?_drop]

/-- A nil slice has no capacity. -/
def Nil0 (s : Value) : Prop := ∀ L c, s = .slice none L c → c = 0
set_option maxRecDepth 100000 in
theorem rest_any (zs : List Nat) (a : Option Addr) (c : Nat) (w : World) (h : BytesAt zs (.slice a zs.length c) w) (hL : zs.length ≤ 9223372036854775807) (hnil : Nil0 (.slice a zs.length c)) :
    Calls Tryd.prog 38 #[.slice a zs.length c] w fun e w' => ∃ s', e = .returned s' ∧ BytesAt (zs.drop (zs.length / 64 * 64)) s' w ∧ Nil0 s' ∧ w = w' := by
  have HB := Lib.hid h
  have HN := Lib.hid hnil
  clear hnil
  have hcap : zs.length ≤ c := by obtain ⟨_, a0, c0, e, hc0, _⟩ := h; cases e; exact hc0
  obtain ⟨L, hl⟩ : ∃ L, zs.length = L := ⟨_, rfl⟩
  have HL := Lib.hid hl
  rw [hl] at HB hL hcap ⊢
  have hk : ((L : Nat) : Int) - ((L : Nat) : Int) % 64 = ((L / 64 * 64 : Nat) : Int) := by omega
  have hk2 : L / 64 * 64 ≤ L := by omega
  obtain ⟨k, hkk⟩ : ∃ k, L / 64 * 64 = k := ⟨_, rfl⟩
  rw [hkk] at hk hk2 ⊢
  clear h hl hkk
  cases a with
  | none =>
    have h0 : L = 0 := by
      obtain ⟨_, a0, c0, e, _, h2⟩ := HB.out
      cases e
      rcases h2 with h2 | ⟨b, off, ea, _⟩
      · rw [← HL.out]; exact h2
      · cases ea
    have H0 := Lib.hid h0
    clear h0
    go_enter Tryd.func38, Tryd.ntmps38
    go_wp2_with fail
    go_ret
    exact ⟨_, rfl, BytesAt.drop (a := none) (c := c) (by rw [HL.out]; exact HB.out) (by rw [HL.out]; exact hk2) none (c - k) (L - k) (by rw [HL.out]) (by omega) (fun h => by have := H0.out; omega), (fun L' c' e => by have := HN.out _ _ rfl; cases e; omega), rfl⟩
  | some ad =>
    have HS := Lib.hid (show ∀ b off, (some ad : Option Addr) = some ⟨b, off, none⟩ → ad.add k = ⟨b, off + k, none⟩ from fun b off e => by
      cases e
      unfold Addr.add
      split <;> simp_all)
    go_enter Tryd.func38, Tryd.ntmps38
    go_wp2_with fail
    all_goals
      go_ret
      exact ⟨_, rfl, BytesAt.drop (a := some ad) (by rw [HL.out]; exact HB.out) (by rw [HL.out]; exact hk2) _ _ (L - k) (by rw [HL.out]) (by omega) (fun h b off e => by first | (exact absurd h (by omega)) | (rw [HS.out b off e])), (fun L' c' e => by cases e), rfl⟩

/-! ### ending -/
theorem Tryd.info5 : (Tryd.prog.info? 5).map (fun i => (i.zero, i.size, i.bytes)) = some (some (.int .u8 0), 1, 1) := by kernel_rfl
def cl (l : List Nat) : List Value := l.map fun x => .int .u8 (x : Nat)
theorem cl_len (l : List Nat) : (cl l).length = l.length := by unfold cl; rw [List.length_map]
theorem cl_app (l m : List Nat) : cl (l ++ m) = cl l ++ cl m := by unfold cl; rw [List.map_append]
theorem cl_one (l : List Nat) : ∀ u ∈ cl l, u.oneCell' = true := by
  intro u hu
  obtain ⟨x, _, rfl⟩ := List.mem_map.1 hu
  rfl
theorem cl_get (l : List Nat) (j : Nat) (h : j < l.length) : (cl l)[j]? = some (.int .u8 (l.getD j 0 : Nat)) := by
  unfold cl; rw [List.getElem?_map, List.getElem?_eq_getElem h, List.getD, List.getElem?_eq_getElem h]; rfl
def endL (zs : List Nat) (n : Nat) : List Nat := zs ++ 128 :: (List.replicate (nz zs.length) 0 ++ be8 (8 * n))
theorem be8_len (n : Nat) : (be8 n).length = 8 := rfl
theorem be8_lt (n : Nat) : ∀ x ∈ be8 n, x < 256 := by
  intro x hx
  simp [be8] at hx
  omega
theorem endL_lt {zs : List Nat} (h : ∀ x ∈ zs, x < 256) (n : Nat) : ∀ x ∈ endL zs n, x < 256 := by
  intro x hx
  unfold endL at hx
  rcases List.mem_append.1 hx with hx | hx
  · exact h x hx
  · rcases List.mem_cons.1 hx with rfl | hx
    · omega
    · rcases List.mem_append.1 hx with hx | hx
      · rw [(List.mem_replicate.1 hx).2]; omega
      · exact be8_lt _ x hx
theorem owns_bytes {l : List Nat} {base : Nat} {w : World} {s : Value} (hl : ∀ x ∈ l, x < 256) (h : w.ownsRow base 5 1 s l.length (cl l)) : BytesAt l s w := by
  obtain ⟨_, h2⟩ := h
  refine ⟨hl, ?_⟩
  rcases h2 with ⟨rfl, h0⟩ | ⟨g, cap, cur, rfl, hb, hg, hn, hc, hs, ht⟩
  · exact ⟨none, 0, by rw [h0], by omega, .inl h0⟩
  · refine ⟨_, cap, rfl, hn, .inr ⟨g, 0, rfl, (Array.getElem?_eq_some_iff.1 hg).1, fun j hj => ?_⟩⟩
    rw [Nat.zero_add, cell_of_row w g j cur 5 (0, 0) hg]
    have e : (cur.toList.take (l.length * 1))[j]? = cur[j]? := by rw [List.getElem?_take, if_pos (by omega), Array.getElem?_toList]
    rw [← e, ht]
    exact cl_get l j hj

/-- The blocks at which a slice lies. -/
def InS (s : Value) (j : Nat) : Prop := ∃ off sp L c, s = .slice (some ⟨j, off, sp⟩) L c
theorem owns_both {l : List Nat} {base : Nat} {w : World} {s : Value} (hl : ∀ x ∈ l, x < 256) (h : w.ownsRow base 5 1 s l.length (cl l)) : BytesAt l s w ∧ ∀ j, InS s j → base ≤ j := by
  refine ⟨owns_bytes hl h, ?_⟩
  rintro j ⟨off, sp, L, c, rfl⟩
  rcases h.2 with ⟨e, _⟩ | ⟨g, cap, cur, e, hb, _⟩
  · cases e
  · cases e; exact hb
theorem endL_len (zs : List Nat) (n : Nat) : (endL zs n).length = zs.length + 1 + nz zs.length + 8 := by
  unfold endL; simp [be8_len]; omega
theorem endL_cells (zs : List Nat) (n j : Nat) (hn : n ≤ 140737488355328) (hj : j = nz zs.length) :
    cl (endL zs n) = cl (zs ++ 128 :: List.replicate j 0) ++ [.int .u8 (((n : Nat) : Int) * 8 / 72057594037927936)] ++ [.int .u8 (((n : Nat) : Int) * 8 / 281474976710656)] ++ [.int .u8 (((n : Nat) : Int) * 8 / 1099511627776 % 256)] ++ [.int .u8 (((n : Nat) : Int) * 8 / 4294967296 % 256)] ++ [.int .u8 (((n : Nat) : Int) * 8 / 16777216 % 256)] ++ [.int .u8 (((n : Nat) : Int) * 8 / 65536 % 256)] ++ [.int .u8 (((n : Nat) : Int) * 8 / 256 % 256)] ++ [.int .u8 (((n : Nat) : Int) * 8 % 256)] := by
  have e0 : endL zs n = (zs ++ 128 :: List.replicate j 0) ++ be8 (8 * n) := by unfold endL; rw [← hj, List.append_assoc]; rfl
  rw [e0, cl_app]
  simp only [List.append_assoc, List.singleton_append]
  congr 1
  have f : ∀ (x : Nat) (y : Int), (x : Int) = y → Value.int .u8 (x : Nat) = Value.int .u8 y := fun x y h => by rw [h]
  unfold cl be8
  simp only [List.map_cons, List.map_nil]
  rw [f _ _ (show ((8 * n / 72057594037927936 % 256 : Nat) : Int) = ((n : Nat) : Int) * 8 / 72057594037927936 by omega), f _ _ (show ((8 * n / 281474976710656 % 256 : Nat) : Int) = ((n : Nat) : Int) * 8 / 281474976710656 by omega),
    f _ _ (show ((8 * n / 1099511627776 % 256 : Nat) : Int) = ((n : Nat) : Int) * 8 / 1099511627776 % 256 by omega), f _ _ (show ((8 * n / 4294967296 % 256 : Nat) : Int) = ((n : Nat) : Int) * 8 / 4294967296 % 256 by omega),
    f _ _ (show ((8 * n / 16777216 % 256 : Nat) : Int) = ((n : Nat) : Int) * 8 / 16777216 % 256 by omega), f _ _ (show ((8 * n / 65536 % 256 : Nat) : Int) = ((n : Nat) : Int) * 8 / 65536 % 256 by omega),
    f _ _ (show ((8 * n / 256 % 256 : Nat) : Int) = ((n : Nat) : Int) * 8 / 256 % 256 by omega), f _ _ (show ((8 * n % 256 : Nat) : Int) = ((n : Nat) : Int) * 8 % 256 by omega)]
  rfl
theorem owns_slice {base e size n : Nat} {w : World} {v : Value} {xs : List Value} (h : w.ownsRow base e size v n xs) : ∃ (a : Option Addr) (c : Nat), v = .slice a n c := by
  rcases h.2 with ⟨rfl, rfl⟩ | ⟨g, cap, cur, rfl, _⟩
  · exact ⟨none, 0, rfl⟩
  · exact ⟨_, cap, rfl⟩
theorem below_owned {base e size n : Nat} {w0 w w' : World} {v : Value} {xs : List Value} (hb : Below base w0 w) (h : w.ownsRow base e size v n xs) (hg : w.grownBy w' v.ownBlock) (hs : base ≤ w.heap.size) : Below base w0 w' := hb.grown hg hs (fun k e => (h.lt k e).1)
def slLen : Value → Nat
  | .slice _ m _ => m
  | _ => 0
def E1Rel (zs : List Nat) (L : Nat) (w : World) (s : Value) (wr : World) : Prop :=
  ∃ (j M : Nat) (a : Option Addr) (c : Nat), j ≤ nz L ∧ M = L + 1 + j ∧ s = .slice a M c ∧ wr.ownsRow w.heap.size 5 1 (.slice a M c) M (cl (zs ++ 128 :: List.replicate j 0)) ∧ Below w.heap.size w wr
theorem app_zero (zs : List Nat) (j : Nat) : cl (zs ++ 128 :: List.replicate j 0) ++ [.int .u8 0] = cl (zs ++ 128 :: List.replicate (j + 1) 0) := by
  rw [List.replicate_succ', ← List.cons_append, ← List.append_assoc, cl_app (zs ++ 128 :: List.replicate j 0)]; rfl

set_option maxRecDepth 100000 in
set_option maxHeartbeats 1000000 in
theorem ending_some (zs : List Nat) (ad : Addr) (c n : Nat) (hl : zs.length ≤ 63) (hn : n ≤ 140737488355328) (w : World) (h : BytesAt zs (.slice (some ad) zs.length c) w) :
    Calls Tryd.prog 56 #[.slice (some ad) zs.length c, .int .i64 (n : Nat)] w fun e w' => ∃ s', e = .returned s' ∧ (BytesAt (endL zs n) s' w' ∧ ∀ j, InS s' j → w.heap.size ≤ j) ∧ Below w.heap.size w w' := by
  obtain ⟨i0, hi, hz0, hz1, hz2⟩ := info_parts Tryd.info5
  have HB := Lib.hid h
  have H256 := Lib.hid h.1
  obtain ⟨L, hL⟩ : ∃ L, zs.length = L := ⟨_, rfl⟩
  have HL := Lib.hid hL
  rw [hL] at hl HB ⊢
  clear h hL
  go_enter Tryd.func56, Tryd.ntmps56
  go_wp2_with (at_make; refine wpList_make_own _ rfl _ _ 22 rfl w.heap.size 5 i0 (.int .u8 0) 1 Tryd.underlying22 hi hz0 hz1 .i64 .i64 128 128 rfl rfl rfl (by rw [hz2]; omega) (by unfold maxLen; omega) (by omega) ?_)
  intro w2 hown2 hg2
  have hbel2 : Below w.heap.size w w2 := (Below.refl _ w).grown hg2 (by omega) (fun k e => by cases e)
  have HB2 := Lib.hid (HB.out.kept hbel2)
  have hsz2 : w.heap.size ≤ w2.heap.size := hbel2.size
  have hcz : ∀ j u, (cl zs)[j]? = some u → w2.cell? (ad.add j) = some u := by
    intro j u hu
    have hj : j < zs.length := by
      have := (List.getElem?_eq_some_iff.1 hu).1
      rw [cl_len] at this; exact this
    obtain ⟨_, a0, c0, e, _, h2⟩ := HB2.out
    cases e
    rcases h2 with h2 | ⟨b, off, ea, _, hjj⟩
    · omega
    · cases ea
      rw [cl_get zs j hj] at hu
      cases hu
      rw [show (⟨b, off, none⟩ : Addr).add j = ⟨b, off + j, none⟩ by unfold Addr.add; split <;> simp_all]
      exact hjj j hj
  go_wp2_with (first
    | (at_builtin; refine wpList_append_own _ rfl _ _ 22 rfl w.heap.size 5 i0 (.int .u8 0) 1 1 Tryd.underlying22 hi hz0 hz1 hz2 rfl (by decide) _ _ _ rfl hown2 ad L c (cl zs) rfl (by rw [cl_len, HL.out]; omega) hcz (cl_one zs) (by unfold maxLen; omega) (by omega) hsz2 ?_; intro v3 w3 hown3 hgrow3 hnil3)
    | (at_builtin; refine wpList_append_own _ rfl _ _ 22 rfl w.heap.size 5 i0 (.int .u8 0) 1 1 Tryd.underlying22 hi hz0 hz1 hz2 rfl (by decide) _ _ _ rfl (hown3.alloc _) ⟨w3.heap.size, 0, none⟩ 1 1 [.int .u8 128] rfl rfl (cell_one_new _ _ _) (fun x hx => by simp at hx; subst hx; rfl) (by unfold maxLen; omega) (by omega) (by have := hgrow3.size; simp; omega) ?_; intro v4 w4 hown4 hgrow4 hnil4))
  have hs3 : w.heap.size ≤ w3.heap.size := by have := hgrow3.size; omega
  have hb3 := below_owned hbel2 hown2 hgrow3 hsz2
  have hb4 := below_owned (hb3.alloc hs3 _) (hown3.alloc _) hgrow4 (by simp; omega)
  obtain ⟨a4, c4, rfl⟩ := owns_slice hown4
  rw [show 0 + L + 1 = L + 1 by omega] at hown4 ⊢
  have HE0 := Lib.hid (show E1Rel zs L w (.slice a4 (L + 1) c4) w4 from ⟨0, L + 1, a4, c4, Nat.zero_le _, by omega, rfl, by
    have e : [] ++ cl zs ++ [.int .u8 128] = cl (zs ++ 128 :: List.replicate 0 0) := by rw [List.nil_append, cl_app]; rfl
    rw [← e]; exact hown4, hb4⟩)
  clear hb3 hb4 hown3 hown4 hgrow3 hgrow4 hnil3 hnil4 hown2 hg2 hbel2 hcz hs3 hsz2 HB2
  go_loopw [5] (fun s wr => E1Rel zs L w s wr) (fun s _ => 200 - slLen s)
  case atStart => exact HE0.out
  case round =>
    clear HE0
    obtain ⟨j, M, a', c', hj, hM, rfl, hown, hB⟩ := hrel
    have HBr := Lib.hid hB
    have hsz := hB.size
    have HM := Lib.hid hM
    have hM2 : M ≤ 190 := by unfold nz at hj; omega
    clear hB
    by_cases hlt : j < nz L
    · have hc : (((M : Nat) : Int) % 64 != 56) = true := by
        rw [bne_iff_ne]; unfold nz at hlt; omega
      clear hM
      go_wp2_with (at_builtin; refine wpList_append_own _ rfl _ _ 22 rfl w.heap.size 5 i0 (.int .u8 0) 1 1 Tryd.underlying22 hi hz0 hz1 hz2 rfl (by decide) _ _ _ rfl (hown.alloc _) ⟨wr.heap.size, 0, none⟩ 1 1 [.int .u8 0] rfl rfl (cell_one_new _ _ _) (fun x hx => by simp at hx; subst hx; rfl) (by unfold maxLen; omega) (by omega) (by simp; omega) ?_; intro v' w5 hown' hgrow' hnil'; obtain ⟨a2, c2, rfl⟩ := owns_slice hown')
      go_roundw
      case rel => exact ⟨j + 1, M + 1, a2, c2, by omega, by have := HM.out; omega, rfl, by rw [← app_zero]; exact hown', below_owned (HBr.out.alloc hsz _) (hown.alloc _) hgrow' (by simp; omega)⟩
      case measure =>
        have hm := HM.out
        show 200 - (M + 1) < 200 - M
        omega
    · have hc : (((M : Nat) : Int) % 64 != 56) = false := by
        have hjn : j = nz L := by omega
        rw [bne_eq_false_iff_eq]; unfold nz at hjn; omega
      have HJ := Lib.hid (show j = nz L by omega)
      clear hj hlt
      clear hM
      go_wp2_with fail
      refine wp_loop_rounds 9 ?_
      rw [rounds_succ]
      go_wp2_with (at_builtin; refine wpList_append_own _ rfl _ _ 22 rfl w.heap.size 5 i0 (.int .u8 0) 1 1 Tryd.underlying22 hi hz0 hz1 hz2 rfl (by decide) _ _ _ rfl (hown.alloc _) ⟨wr.heap.size, 0, none⟩ 1 1 [_] rfl rfl (cell_one_new _ _ _) (fun x hx => by simp at hx; subst hx; rfl) (by unfold maxLen; omega) (by omega) (by simp; omega) ?_; intro v10 x10 hown10 hgrow10 hnil10)
      have hb10 := below_owned (HBr.out.alloc hsz _) (hown.alloc _) hgrow10 (by simp; omega)
      have HBx10 := Lib.hid hb10
      have hs10 := hb10.size
      clear hb10 hgrow10 hnil10
      rw [rounds_succ]
      go_wp2_with (at_builtin; refine wpList_append_own _ rfl _ _ 22 rfl w.heap.size 5 i0 (.int .u8 0) 1 1 Tryd.underlying22 hi hz0 hz1 hz2 rfl (by decide) _ _ _ rfl (hown10.alloc _) ⟨x10.heap.size, 0, none⟩ 1 1 [_] rfl rfl (cell_one_new _ _ _) (fun x hx => by simp at hx; subst hx; rfl) (by unfold maxLen; omega) (by omega) (by simp; omega) ?_; intro v11 x11 hown11 hgrow11 hnil11)
      have hb11 := below_owned (HBx10.out.alloc hs10 _) (hown10.alloc _) hgrow11 (by simp; omega)
      have HBx11 := Lib.hid hb11
      have hs11 := hb11.size
      clear hb11 hgrow11 hnil11
      rw [rounds_succ]
      go_wp2_with (at_builtin; refine wpList_append_own _ rfl _ _ 22 rfl w.heap.size 5 i0 (.int .u8 0) 1 1 Tryd.underlying22 hi hz0 hz1 hz2 rfl (by decide) _ _ _ rfl (hown11.alloc _) ⟨x11.heap.size, 0, none⟩ 1 1 [_] rfl rfl (cell_one_new _ _ _) (fun x hx => by simp at hx; subst hx; rfl) (by unfold maxLen; omega) (by omega) (by simp; omega) ?_; intro v12 x12 hown12 hgrow12 hnil12)
      have hb12 := below_owned (HBx11.out.alloc hs11 _) (hown11.alloc _) hgrow12 (by simp; omega)
      have HBx12 := Lib.hid hb12
      have hs12 := hb12.size
      clear hb12 hgrow12 hnil12
      rw [rounds_succ]
      go_wp2_with (at_builtin; refine wpList_append_own _ rfl _ _ 22 rfl w.heap.size 5 i0 (.int .u8 0) 1 1 Tryd.underlying22 hi hz0 hz1 hz2 rfl (by decide) _ _ _ rfl (hown12.alloc _) ⟨x12.heap.size, 0, none⟩ 1 1 [_] rfl rfl (cell_one_new _ _ _) (fun x hx => by simp at hx; subst hx; rfl) (by unfold maxLen; omega) (by omega) (by simp; omega) ?_; intro v13 x13 hown13 hgrow13 hnil13)
      have hb13 := below_owned (HBx12.out.alloc hs12 _) (hown12.alloc _) hgrow13 (by simp; omega)
      have HBx13 := Lib.hid hb13
      have hs13 := hb13.size
      clear hb13 hgrow13 hnil13
      rw [rounds_succ]
      go_wp2_with (at_builtin; refine wpList_append_own _ rfl _ _ 22 rfl w.heap.size 5 i0 (.int .u8 0) 1 1 Tryd.underlying22 hi hz0 hz1 hz2 rfl (by decide) _ _ _ rfl (hown13.alloc _) ⟨x13.heap.size, 0, none⟩ 1 1 [_] rfl rfl (cell_one_new _ _ _) (fun x hx => by simp at hx; subst hx; rfl) (by unfold maxLen; omega) (by omega) (by simp; omega) ?_; intro v14 x14 hown14 hgrow14 hnil14)
      have hb14 := below_owned (HBx13.out.alloc hs13 _) (hown13.alloc _) hgrow14 (by simp; omega)
      have HBx14 := Lib.hid hb14
      have hs14 := hb14.size
      clear hb14 hgrow14 hnil14
      rw [rounds_succ]
      go_wp2_with (at_builtin; refine wpList_append_own _ rfl _ _ 22 rfl w.heap.size 5 i0 (.int .u8 0) 1 1 Tryd.underlying22 hi hz0 hz1 hz2 rfl (by decide) _ _ _ rfl (hown14.alloc _) ⟨x14.heap.size, 0, none⟩ 1 1 [_] rfl rfl (cell_one_new _ _ _) (fun x hx => by simp at hx; subst hx; rfl) (by unfold maxLen; omega) (by omega) (by simp; omega) ?_; intro v15 x15 hown15 hgrow15 hnil15)
      have hb15 := below_owned (HBx14.out.alloc hs14 _) (hown14.alloc _) hgrow15 (by simp; omega)
      have HBx15 := Lib.hid hb15
      have hs15 := hb15.size
      clear hb15 hgrow15 hnil15
      rw [rounds_succ]
      go_wp2_with (at_builtin; refine wpList_append_own _ rfl _ _ 22 rfl w.heap.size 5 i0 (.int .u8 0) 1 1 Tryd.underlying22 hi hz0 hz1 hz2 rfl (by decide) _ _ _ rfl (hown15.alloc _) ⟨x15.heap.size, 0, none⟩ 1 1 [_] rfl rfl (cell_one_new _ _ _) (fun x hx => by simp at hx; subst hx; rfl) (by unfold maxLen; omega) (by omega) (by simp; omega) ?_; intro v16 x16 hown16 hgrow16 hnil16)
      have hb16 := below_owned (HBx15.out.alloc hs15 _) (hown15.alloc _) hgrow16 (by simp; omega)
      have HBx16 := Lib.hid hb16
      have hs16 := hb16.size
      clear hb16 hgrow16 hnil16
      rw [rounds_succ]
      go_wp2_with (at_builtin; refine wpList_append_own _ rfl _ _ 22 rfl w.heap.size 5 i0 (.int .u8 0) 1 1 Tryd.underlying22 hi hz0 hz1 hz2 rfl (by decide) _ _ _ rfl (hown16.alloc _) ⟨x16.heap.size, 0, none⟩ 1 1 [_] rfl rfl (cell_one_new _ _ _) (fun x hx => by simp at hx; subst hx; rfl) (by unfold maxLen; omega) (by omega) (by simp; omega) ?_; intro v17 x17 hown17 hgrow17 hnil17)
      have hb17 := below_owned (HBx16.out.alloc hs16 _) (hown16.alloc _) hgrow17 (by simp; omega)
      have HBx17 := Lib.hid hb17
      have hs17 := hb17.size
      clear hb17 hgrow17 hnil17
      rw [rounds_succ]
      go_wp2_with fail
      go_ret
      refine ⟨_, rfl, owns_both (base := w.heap.size) (endL_lt H256.out n) ?_, HBx17.out⟩
      have hE : cl (endL zs n) = cl (zs ++ 128 :: List.replicate j 0) ++ [.int .u8 (((n : Nat) : Int) * 8 / 72057594037927936)] ++ [.int .u8 (((n : Nat) : Int) * 8 / 281474976710656)] ++ [.int .u8 (((n : Nat) : Int) * 8 / 1099511627776 % 256)] ++ [.int .u8 (((n : Nat) : Int) * 8 / 4294967296 % 256)] ++ [.int .u8 (((n : Nat) : Int) * 8 / 16777216 % 256)] ++ [.int .u8 (((n : Nat) : Int) * 8 / 65536 % 256)] ++ [.int .u8 (((n : Nat) : Int) * 8 / 256 % 256)] ++ [.int .u8 (((n : Nat) : Int) * 8 % 256)] :=
        endL_cells zs n j hn (by rw [HL.out]; exact HJ.out)
      have hlen : (endL zs n).length = M + 1 + 1 + 1 + 1 + 1 + 1 + 1 + 1 := by
        rw [endL_len, HL.out, ← HJ.out]; have := HM.out; omega
      rw [hE, hlen]
      exact hown17

set_option maxRecDepth 100000 in
set_option maxHeartbeats 1000000 in
theorem ending_none (zs : List Nat) (n : Nat) (hl : zs.length = 0) (hn : n ≤ 140737488355328) (w : World) :
    Calls Tryd.prog 56 #[.slice none 0 0, .int .i64 (n : Nat)] w fun e w' => ∃ s', e = .returned s' ∧ (BytesAt (endL zs n) s' w' ∧ ∀ j, InS s' j → w.heap.size ≤ j) ∧ Below w.heap.size w w' := by
  obtain ⟨i0, hi, hz0, hz1, hz2⟩ := info_parts Tryd.info5
  have hz : zs = [] := List.length_eq_zero_iff.1 hl
  have H256 := Lib.hid (show ∀ x ∈ zs, x < 256 from fun x hx => by rw [hz] at hx; cases hx)
  have HZ := Lib.hid hz
  clear hz
  obtain ⟨L, hL⟩ : ∃ L, zs.length = L := ⟨_, rfl⟩
  have HL := Lib.hid hL
  rw [hL] at hl
  have hl0 := Lib.hid hl
  have hl : L ≤ 63 := by omega
  clear hL
  rename_i hlz
  clear hlz
  go_enter Tryd.func56, Tryd.ntmps56
  go_wp2_with (at_make; refine wpList_make_own _ rfl _ _ 22 rfl w.heap.size 5 i0 (.int .u8 0) 1 Tryd.underlying22 hi hz0 hz1 .i64 .i64 128 128 rfl rfl rfl (by rw [hz2]; omega) (by unfold maxLen; omega) (by omega) ?_)
  intro w2 hown2 hg2
  have hbel2 : Below w.heap.size w w2 := (Below.refl _ w).grown hg2 (by omega) (fun k e => by cases e)
  have hsz2 : w.heap.size ≤ w2.heap.size := hbel2.size
  go_wp2_with (first
    | (at_builtin; refine wpList_append_own_none rfl _ _ 22 rfl w.heap.size 5 i0 1 Tryd.underlying22 hi _ _ _ rfl hown2 rfl ?_; have hown3 := hown2)
    | (at_builtin; refine wpList_append_own _ rfl _ _ 22 rfl w.heap.size 5 i0 (.int .u8 0) 1 1 Tryd.underlying22 hi hz0 hz1 hz2 rfl (by decide) _ _ _ rfl (hown3.alloc _) ⟨w2.heap.size, 0, none⟩ 1 1 [.int .u8 128] rfl rfl (cell_one_new _ _ _) (fun x hx => by simp at hx; subst hx; rfl) (by unfold maxLen; omega) (by omega) (by simp; omega) ?_; intro v4 w4 hown4 hgrow4 hnil4))
  have hb4 := below_owned (hbel2.alloc hsz2 _) (hown3.alloc _) hgrow4 (by simp; omega)
  obtain ⟨a4, c4, rfl⟩ := owns_slice hown4
  have hl00 := hl0.out
  subst hl00
  rw [show 0 + 1 = 1 by omega] at hown4 ⊢
  have HE0 := Lib.hid (show E1Rel zs 0 w (.slice a4 (0 + 1) c4) w4 from ⟨0, 0 + 1, a4, c4, Nat.zero_le _, by omega, rfl, by
    have e : [] ++ [.int .u8 128] = cl (zs ++ 128 :: List.replicate 0 0) := by rw [HZ.out]; rfl
    rw [← e]; exact hown4, hb4⟩)
  clear hb4 hown3 hown4 hgrow4 hnil4 hown2 hg2 hbel2 hsz2
  go_loopw [5] (fun s wr => E1Rel zs 0 w s wr) (fun s _ => 200 - slLen s)
  case atStart => exact HE0.out
  case round =>
    clear HE0
    obtain ⟨j, M, a', c', hj, hM, rfl, hown, hB⟩ := hrel
    have HBr := Lib.hid hB
    have hsz := hB.size
    have HM := Lib.hid hM
    have hM2 : M ≤ 190 := by unfold nz at hj; omega
    clear hB
    by_cases hlt : j < nz 0
    · have hc : (((M : Nat) : Int) % 64 != 56) = true := by
        rw [bne_iff_ne]; unfold nz at hlt; omega
      clear hM
      go_wp2_with (at_builtin; refine wpList_append_own _ rfl _ _ 22 rfl w.heap.size 5 i0 (.int .u8 0) 1 1 Tryd.underlying22 hi hz0 hz1 hz2 rfl (by decide) _ _ _ rfl (hown.alloc _) ⟨wr.heap.size, 0, none⟩ 1 1 [.int .u8 0] rfl rfl (cell_one_new _ _ _) (fun x hx => by simp at hx; subst hx; rfl) (by unfold maxLen; omega) (by omega) (by simp; omega) ?_; intro v' w5 hown' hgrow' hnil'; obtain ⟨a2, c2, rfl⟩ := owns_slice hown')
      go_roundw
      case rel => exact ⟨j + 1, M + 1, a2, c2, by omega, by have := HM.out; omega, rfl, by rw [← app_zero]; exact hown', below_owned (HBr.out.alloc hsz _) (hown.alloc _) hgrow' (by simp; omega)⟩
      case measure =>
        have hm := HM.out
        show 200 - (M + 1) < 200 - M
        omega
    · have hc : (((M : Nat) : Int) % 64 != 56) = false := by
        have hjn : j = nz 0 := by omega
        rw [bne_eq_false_iff_eq]; unfold nz at hjn; omega
      have HJ := Lib.hid (show j = nz 0 by omega)
      clear hj hlt
      clear hM
      go_wp2_with fail
      refine wp_loop_rounds 9 ?_
      rw [rounds_succ]
      go_wp2_with (at_builtin; refine wpList_append_own _ rfl _ _ 22 rfl w.heap.size 5 i0 (.int .u8 0) 1 1 Tryd.underlying22 hi hz0 hz1 hz2 rfl (by decide) _ _ _ rfl (hown.alloc _) ⟨wr.heap.size, 0, none⟩ 1 1 [_] rfl rfl (cell_one_new _ _ _) (fun x hx => by simp at hx; subst hx; rfl) (by unfold maxLen; omega) (by omega) (by simp; omega) ?_; intro v10 x10 hown10 hgrow10 hnil10)
      have hb10 := below_owned (HBr.out.alloc hsz _) (hown.alloc _) hgrow10 (by simp; omega)
      have HBx10 := Lib.hid hb10
      have hs10 := hb10.size
      clear hb10 hgrow10 hnil10
      rw [rounds_succ]
      go_wp2_with (at_builtin; refine wpList_append_own _ rfl _ _ 22 rfl w.heap.size 5 i0 (.int .u8 0) 1 1 Tryd.underlying22 hi hz0 hz1 hz2 rfl (by decide) _ _ _ rfl (hown10.alloc _) ⟨x10.heap.size, 0, none⟩ 1 1 [_] rfl rfl (cell_one_new _ _ _) (fun x hx => by simp at hx; subst hx; rfl) (by unfold maxLen; omega) (by omega) (by simp; omega) ?_; intro v11 x11 hown11 hgrow11 hnil11)
      have hb11 := below_owned (HBx10.out.alloc hs10 _) (hown10.alloc _) hgrow11 (by simp; omega)
      have HBx11 := Lib.hid hb11
      have hs11 := hb11.size
      clear hb11 hgrow11 hnil11
      rw [rounds_succ]
      go_wp2_with (at_builtin; refine wpList_append_own _ rfl _ _ 22 rfl w.heap.size 5 i0 (.int .u8 0) 1 1 Tryd.underlying22 hi hz0 hz1 hz2 rfl (by decide) _ _ _ rfl (hown11.alloc _) ⟨x11.heap.size, 0, none⟩ 1 1 [_] rfl rfl (cell_one_new _ _ _) (fun x hx => by simp at hx; subst hx; rfl) (by unfold maxLen; omega) (by omega) (by simp; omega) ?_; intro v12 x12 hown12 hgrow12 hnil12)
      have hb12 := below_owned (HBx11.out.alloc hs11 _) (hown11.alloc _) hgrow12 (by simp; omega)
      have HBx12 := Lib.hid hb12
      have hs12 := hb12.size
      clear hb12 hgrow12 hnil12
      rw [rounds_succ]
      go_wp2_with (at_builtin; refine wpList_append_own _ rfl _ _ 22 rfl w.heap.size 5 i0 (.int .u8 0) 1 1 Tryd.underlying22 hi hz0 hz1 hz2 rfl (by decide) _ _ _ rfl (hown12.alloc _) ⟨x12.heap.size, 0, none⟩ 1 1 [_] rfl rfl (cell_one_new _ _ _) (fun x hx => by simp at hx; subst hx; rfl) (by unfold maxLen; omega) (by omega) (by simp; omega) ?_; intro v13 x13 hown13 hgrow13 hnil13)
      have hb13 := below_owned (HBx12.out.alloc hs12 _) (hown12.alloc _) hgrow13 (by simp; omega)
      have HBx13 := Lib.hid hb13
      have hs13 := hb13.size
      clear hb13 hgrow13 hnil13
      rw [rounds_succ]
      go_wp2_with (at_builtin; refine wpList_append_own _ rfl _ _ 22 rfl w.heap.size 5 i0 (.int .u8 0) 1 1 Tryd.underlying22 hi hz0 hz1 hz2 rfl (by decide) _ _ _ rfl (hown13.alloc _) ⟨x13.heap.size, 0, none⟩ 1 1 [_] rfl rfl (cell_one_new _ _ _) (fun x hx => by simp at hx; subst hx; rfl) (by unfold maxLen; omega) (by omega) (by simp; omega) ?_; intro v14 x14 hown14 hgrow14 hnil14)
      have hb14 := below_owned (HBx13.out.alloc hs13 _) (hown13.alloc _) hgrow14 (by simp; omega)
      have HBx14 := Lib.hid hb14
      have hs14 := hb14.size
      clear hb14 hgrow14 hnil14
      rw [rounds_succ]
      go_wp2_with (at_builtin; refine wpList_append_own _ rfl _ _ 22 rfl w.heap.size 5 i0 (.int .u8 0) 1 1 Tryd.underlying22 hi hz0 hz1 hz2 rfl (by decide) _ _ _ rfl (hown14.alloc _) ⟨x14.heap.size, 0, none⟩ 1 1 [_] rfl rfl (cell_one_new _ _ _) (fun x hx => by simp at hx; subst hx; rfl) (by unfold maxLen; omega) (by omega) (by simp; omega) ?_; intro v15 x15 hown15 hgrow15 hnil15)
      have hb15 := below_owned (HBx14.out.alloc hs14 _) (hown14.alloc _) hgrow15 (by simp; omega)
      have HBx15 := Lib.hid hb15
      have hs15 := hb15.size
      clear hb15 hgrow15 hnil15
      rw [rounds_succ]
      go_wp2_with (at_builtin; refine wpList_append_own _ rfl _ _ 22 rfl w.heap.size 5 i0 (.int .u8 0) 1 1 Tryd.underlying22 hi hz0 hz1 hz2 rfl (by decide) _ _ _ rfl (hown15.alloc _) ⟨x15.heap.size, 0, none⟩ 1 1 [_] rfl rfl (cell_one_new _ _ _) (fun x hx => by simp at hx; subst hx; rfl) (by unfold maxLen; omega) (by omega) (by simp; omega) ?_; intro v16 x16 hown16 hgrow16 hnil16)
      have hb16 := below_owned (HBx15.out.alloc hs15 _) (hown15.alloc _) hgrow16 (by simp; omega)
      have HBx16 := Lib.hid hb16
      have hs16 := hb16.size
      clear hb16 hgrow16 hnil16
      rw [rounds_succ]
      go_wp2_with (at_builtin; refine wpList_append_own _ rfl _ _ 22 rfl w.heap.size 5 i0 (.int .u8 0) 1 1 Tryd.underlying22 hi hz0 hz1 hz2 rfl (by decide) _ _ _ rfl (hown16.alloc _) ⟨x16.heap.size, 0, none⟩ 1 1 [_] rfl rfl (cell_one_new _ _ _) (fun x hx => by simp at hx; subst hx; rfl) (by unfold maxLen; omega) (by omega) (by simp; omega) ?_; intro v17 x17 hown17 hgrow17 hnil17)
      have hb17 := below_owned (HBx16.out.alloc hs16 _) (hown16.alloc _) hgrow17 (by simp; omega)
      have HBx17 := Lib.hid hb17
      have hs17 := hb17.size
      clear hb17 hgrow17 hnil17
      rw [rounds_succ]
      go_wp2_with fail
      go_ret
      refine ⟨_, rfl, owns_both (base := w.heap.size) (endL_lt H256.out n) ?_, HBx17.out⟩
      have hE : cl (endL zs n) = cl (zs ++ 128 :: List.replicate j 0) ++ [.int .u8 (((n : Nat) : Int) * 8 / 72057594037927936)] ++ [.int .u8 (((n : Nat) : Int) * 8 / 281474976710656)] ++ [.int .u8 (((n : Nat) : Int) * 8 / 1099511627776 % 256)] ++ [.int .u8 (((n : Nat) : Int) * 8 / 4294967296 % 256)] ++ [.int .u8 (((n : Nat) : Int) * 8 / 16777216 % 256)] ++ [.int .u8 (((n : Nat) : Int) * 8 / 65536 % 256)] ++ [.int .u8 (((n : Nat) : Int) * 8 / 256 % 256)] ++ [.int .u8 (((n : Nat) : Int) * 8 % 256)] :=
        endL_cells zs n j hn (by rw [HL.out]; exact HJ.out)
      have hlen : (endL zs n).length = M + 1 + 1 + 1 + 1 + 1 + 1 + 1 + 1 := by
        rw [endL_len, HL.out, ← HJ.out]; have := HM.out; omega
      rw [hE, hlen]
      exact hown17
theorem ending_any (zs : List Nat) (s : Value) (n : Nat) (hl : zs.length ≤ 63) (hn : n ≤ 140737488355328) (w : World) (h : BytesAt zs s w) (hnil : Nil0 s) :
    Calls Tryd.prog 56 #[s, .int .i64 (n : Nat)] w fun e w' => ∃ s', e = .returned s' ∧ (BytesAt (endL zs n) s' w' ∧ ∀ j, InS s' j → w.heap.size ≤ j) ∧ Below w.heap.size w w' := by
  obtain ⟨h1, a, c, rfl, hc, h2⟩ := h
  cases a with
  | none =>
    have h0 : zs.length = 0 := by
      rcases h2 with h2 | ⟨b, off, e, _⟩
      · exact h2
      · cases e
    obtain rfl := hnil _ _ rfl
    rw [h0]
    exact ending_none zs n h0 hn w
  | some ad => exact ending_some zs ad c n hl hn w ⟨h1, _, c, rfl, hc, h2⟩
end Go.Proofs.YtmlacbdonkfbdaaDoor
