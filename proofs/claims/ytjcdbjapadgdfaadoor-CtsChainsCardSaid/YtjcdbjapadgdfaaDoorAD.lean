/- AES: shifting. -/
import Derived.Test.YtjcdbjapadgdfaaDoorAC
namespace Go.Proofs.YtjcdbjapadgdfaaDoor
open Go.RowKit

attribute [local go_sem] Oper.semAt_some
/-- The first k of A, then B. -/
def gK (A B : List Nat) (k : Nat) : List Nat := A.take k ++ B.drop k
theorem gK_zero (A B : List Nat) : gK A B 0 = B := by unfold gK; simp
theorem gK_all {A B : List Nat} {k : Nat} (h : A.length ≤ k) (h2 : B.length ≤ k) : gK A B k = A := by
  unfold gK; rw [List.take_of_length_le h, List.drop_eq_nil_of_le h2, List.append_nil]
theorem gK_len {A B : List Nat} (h : A.length = B.length) (k : Nat) : (gK A B k).length = B.length := by
  unfold gK; rw [List.length_append, List.length_take, List.length_drop]; omega
theorem gK_get {A B : List Nat} {k : Nat} (h : A.length = B.length) (hk : k < B.length) : (gK A B k).getD k 0 = B.getD k 0 := by
  unfold gK
  have hl : (A.take k).length = k := by rw [List.length_take]; omega
  rw [List.getD, List.getElem?_append_right (by omega), hl, Nat.sub_self, List.getElem?_drop]; rfl
theorem gK_set {A B : List Nat} {k : Nat} (h : A.length = B.length) (hk : k < B.length) : (gK A B k).set k (A.getD k 0) = gK A B (k + 1) := by
  refine List.ext_getElem? fun i => ?_
  have hlt : (A.take k).length = k := by rw [List.length_take]; omega
  have hlt2 : (A.take (k + 1)).length = k + 1 := by rw [List.length_take]; omega
  rw [List.getElem?_set, gK_len h]
  unfold gK
  by_cases e : k = i
  · subst e
    rw [if_pos rfl, if_pos hk, List.getElem?_append_left (by omega), List.getElem?_take, if_pos (by omega), List.getD, List.getElem?_eq_getElem (by omega)]; rfl
  · rw [if_neg e]
    by_cases hlt3 : i < k
    · rw [List.getElem?_append_left (by omega), List.getElem?_append_left (by omega), List.getElem?_take, List.getElem?_take, if_pos hlt3, if_pos (by omega)]
    · rw [List.getElem?_append_right (by omega), List.getElem?_append_right (by omega), hlt, hlt2, List.getElem?_drop, List.getElem?_drop]
      congr 1; omega

theorem sh_bits {x0 x1 x2 x3 : Nat} (h0 : x0 < 4294967296) (h1 : x1 < 4294967296) (h2 : x2 < 4294967296) (h3 : x3 < 4294967296) :
    bits BinOp.or IntKind.u32 (bits BinOp.or IntKind.u32 (bits BinOp.or IntKind.u32 (bits BinOp.and IntKind.u32 (x0 : Int) 4278190080) (bits BinOp.and IntKind.u32 (x1 : Int) 16711680)) (bits BinOp.and IntKind.u32 (x2 : Int) 65280)) (bits BinOp.and IntKind.u32 (x3 : Int) 255) = ((pk (b0 x0) (b1 x1) (b2 x2) (b3 x3) : Nat) : Int) := by
  have z : (0 : Nat) < 256 := by omega
  have m (a : Nat) (h : a < 256) : a &&& 255 = a := by
    rw [show (255 : Nat) = 2 ^ 8 - 1 from rfl, Nat.and_two_pow_sub_one_eq_mod]; omega
  have f0 : bits BinOp.and IntKind.u32 (x0 : Int) 4278190080 = ((pk (b0 x0) 0 0 0 : Nat) : Int) := by
    rw [show (4278190080 : Int) = ((pk 255 0 0 0 : Nat) : Int) from rfl, bits_and32 _ _ h0 (pk_lt (by omega) z z z)]
    conv => lhs; rw [← pk_b x0]
    rw [pk_and (b1_lt _) (b2_lt _) (b3_lt _) z z z, m _ (b0_lt h0)]; simp
  have f1 : bits BinOp.and IntKind.u32 (x1 : Int) 16711680 = ((pk 0 (b1 x1) 0 0 : Nat) : Int) := by
    rw [show (16711680 : Int) = ((pk 0 255 0 0 : Nat) : Int) from rfl, bits_and32 _ _ h1 (pk_lt z (by omega) z z)]
    conv => lhs; rw [← pk_b x1]
    rw [pk_and (b1_lt _) (b2_lt _) (b3_lt _) (by omega) z z, m _ (b1_lt _)]; simp
  have f2 : bits BinOp.and IntKind.u32 (x2 : Int) 65280 = ((pk 0 0 (b2 x2) 0 : Nat) : Int) := by
    rw [show (65280 : Int) = ((pk 0 0 255 0 : Nat) : Int) from rfl, bits_and32 _ _ h2 (pk_lt z z (by omega) z)]
    conv => lhs; rw [← pk_b x2]
    rw [pk_and (b1_lt _) (b2_lt _) (b3_lt _) z (by omega) z, m _ (b2_lt _)]; simp
  have f3 : bits BinOp.and IntKind.u32 (x3 : Int) 255 = ((pk 0 0 0 (b3 x3) : Nat) : Int) := by
    rw [show (255 : Int) = ((pk 0 0 0 255 : Nat) : Int) from rfl, bits_and32 _ _ h3 (pk_lt z z z (by omega))]
    conv => lhs; rw [← pk_b x3]
    rw [pk_and (b1_lt _) (b2_lt _) (b3_lt _) z z (by omega), m _ (b3_lt _)]; simp
  have hb0 := b0_lt h0
  have hb1 := b1_lt x1
  have hb2 := b2_lt x2
  have hb3 := b3_lt x3
  rw [f0, f1, f2, f3, bits_or32 _ _ (pk_lt hb0 z z z) (pk_lt z hb1 z z), pk_or z z z hb1 z z, bits_or32 _ _ (pk_lt (by simpa using hb0) (by simpa using hb1) (by simp) (by simp)) (pk_lt z z hb2 z), pk_or (by simpa using hb1) (by simp) (by simp) z hb2 z, bits_or32 _ _ (pk_lt (by simpa using hb0) (by simpa using hb1) (by simpa using hb2) (by simp)) (pk_lt z z z hb3), pk_or (by simpa using hb1) (by simpa using hb2) (by simp) z z hb3]
  simp

/-- Shifted by n. -/
def shC (n : Nat) (ws : List Nat) (c : Nat) : Nat := pk (b0 (ws.getD (c % 4) 0)) (b1 (ws.getD ((c + n) % 4) 0)) (b2 (ws.getD ((c + 2 * n) % 4) 0)) (b3 (ws.getD ((c + 3 * n) % 4) 0))
def shL (n : Nat) (ws : List Nat) : List Nat := [shC n ws 0, shC n ws 1, shC n ws 2, shC n ws 3]
theorem shL_get (n : Nat) (ws : List Nat) {k : Nat} (hk : k < 4) : (shL n ws).getD k 0 = shC n ws k := by
  rcases (by omega : k = 0 ∨ k = 1 ∨ k = 2 ∨ k = 3) with rfl | rfl | rfl | rfl <;> rfl
theorem shC_lt {ws : List Nat} (hw : W32 ws) (n c : Nat) : shC n ws c < 4294967296 := pk_lt (b0_lt (hw.get _)) (b1_lt _) (b2_lt _) (b3_lt _)
theorem shL_w32 {ws : List Nat} (hw : W32 ws) (n : Nat) : W32 (shL n ws) := by
  intro x hx
  simp only [shL, List.mem_cons, List.not_mem_nil, or_false] at hx
  rcases hx with rfl | rfl | rfl | rfl <;> exact shC_lt hw _ _

set_option maxRecDepth 100000 in
theorem from_any (ws : List Nat) (go gc gt r c n : Nat) (hs : ws.length = 4) (hr : r < 4) (hc : c < 4) (hn : n < 4) (w : World) (ho : rowN w go = some (arr .u32 ws)) (h1 : rowN w gc = some #[.int .i64 (c : Nat)]) (h2 : rowN w gt = some #[.int .i64 (n : Nat)]) :
    Calls Tryd.prog 67 #[.int .i64 (r : Nat), .pointer (some ⟨go, 0, none⟩), .pointer (some ⟨gc, 0, none⟩), .pointer (some ⟨gt, 0, none⟩)] w fun e w' => e = .returned (.int .u32 (ws.getD ((c + r * n) % 4) 0 : Nat)) ∧ w = w' := by
  have c1 := (rowN_cell h1).1 0
  have c2 := (rowN_cell h2).1 0
  have c3 := cell_arr ho (show (c + r * n) % 4 < ws.length by rw [hs]; exact Nat.mod_lt _ (by omega))
  have hrn : r * n ≤ 9 := by
    have := Nat.mul_le_mul (show r ≤ 3 by omega) (show n ≤ 3 by omega)
    omega
  have q1 : IntKind.i64.wrap (((r : Nat) : Int) * ((n : Nat) : Int)) = ((r * n : Nat) : Int) := by
    rw [← Int.natCast_mul]; exact IntWalk.i64_in _ (by omega)
  have q2 : IntKind.i64.wrap (((c : Nat) : Int) + ((r * n : Nat) : Int)) = ((c + r * n : Nat) : Int) := by
    rw [← Int.natCast_add]; exact IntWalk.i64_in _ (by omega)
  obtain ⟨p, hp⟩ : ∃ p, r * n = p := ⟨_, rfl⟩
  rw [hp] at q1 q2 c3 ⊢
  obtain ⟨s, hss⟩ : ∃ s, c + p = s := ⟨_, rfl⟩
  rw [hss] at q2 c3 ⊢
  obtain ⟨m, hm⟩ : ∃ m, s % 4 = m := ⟨_, rfl⟩
  rw [hm] at c3 ⊢
  have hm4 : m < 4 := by omega
  have q3 : ((s : Nat) : Int) % 4 = ((m : Nat) : Int) := by omega
  have q4 : ((s : Nat) : Int).tmod 4 = ((m : Nat) : Int) := by rw [Int.tmod_eq_emod_of_nonneg (by omega)]; omega
  have q5 : ((m : Nat) : Int) < 4 := by omega
  obtain ⟨x, hx⟩ : ∃ x, ws.getD m 0 = x := ⟨_, rfl⟩
  rw [hx] at c3 ⊢
  clear hp hss hm hrn h1 h2 ho hr hc hn hx hs
  go_enter Tryd.func67, Tryd.ntmps67
  go_wp2_with fail
  go_ret
  exact ⟨rfl, rfl⟩
def ShRel (n : Nat) (ws : List Nat) (rest : Array Value) (g go gt : Nat) (w : World) (i : Value) (wr : World) : Prop :=
  ∃ k : Nat, k ≤ 4 ∧ i = .int .i64 (k : Nat) ∧ rowN wr g = some (blA (gK (shL n ws) ws k) rest) ∧ rowN wr go = some (arr .u32 ws) ∧ rowN wr gt = some #[.int .i64 (n : Nat)] ∧ w.grownBy wr (some g)
set_option maxRecDepth 100000 in
set_option maxHeartbeats 2000000 in
theorem shiftBy_any (n : Nat) (hn : n < 4) (ws : List Nat) (rest : Array Value) (g : Nat) (hs : ws.length = 4) (hw : W32 ws) (w : World) (hrow : rowN w g = some (blA ws rest)) :
    Calls Tryd.prog 57 #[.pointer (some ⟨g, 0, none⟩), .int .i64 (n : Nat)] w fun e w' => e = .returned (.tuple #[]) ∧ rowN w' g = some (blA (shL n ws) rest) ∧ w.grownBy w' (some g) := by
  have HS := Lib.hid hs
  have HW := Lib.hid hw
  have hmf : ∀ (fn : Fn) (first cap : Array Value) (w : World), (Instr.makeFunc fn first cap).run Tryd.prog w = .ok (.func fn first cap) w := fun _ _ _ _ => rfl
  have hb1 : Below w.heap.size w (w.alloc (.cells #[.int .i64 (n : Nat)] 3)) := (Below.refl _ w).alloc (Nat.le_refl _) _
  have hld := load_bl hs (keptW hb1 hrow)
  have sz4 : (arr .u32 (zr 4)).size = 4 := by rw [arr_size, zr_len]
  have HR := Lib.hid hrow
  clear hw hrow hb1
  go_enter Tryd.func57, Tryd.ntmps57
  go_wp2_with fail
  obtain ⟨V, hV⟩ : ∃ V, ((w.alloc (.cells #[.int .i64 (n : Nat)] 3)).alloc (.cells (arr .u32 (zr 4)) 72)).setRow (w.heap.size + 1) (arr .u32 ws) = V := ⟨_, rfl⟩
  have hbV : Below w.heap.size w V := by rw [← hV]; exact below_setRow' (((Below.refl _ w).alloc (Nat.le_refl _) _).alloc (by simp) _) (by omega) _
  have hgo : rowN V (w.heap.size + 1) = some (arr .u32 ws) := by rw [← hV]; exact row_new (cs := arr .u32 (zr 4)) (by rw [rowN_alloc, if_pos (by simp)])
  have hgt : rowN V w.heap.size = some #[.int .i64 (n : Nat)] := by
    rw [← hV]; exact row_other (by rw [rowN_alloc, if_neg (by simp), rowN_alloc, if_pos rfl]) (by omega)
  have hgl := rowN_lt HR.out
  have HI0 := Lib.hid (show ShRel n ws rest g (w.heap.size + 1) w.heap.size w (.int .i64 0) V from ⟨0, by omega, rfl, by rw [gK_zero]; exact keptW hbV HR.out, hgo, hgt, grown_of_below hbV _⟩)
  rw [hV]
  obtain ⟨gt, hg1⟩ : ∃ g, w.heap.size = g := ⟨_, rfl⟩
  obtain ⟨go, hg2⟩ : ∃ g, gt + 1 = g := ⟨_, rfl⟩
  rw [hg1] at HI0 hgl ⊢
  rw [hg2] at HI0 ⊢
  have hgg : g < gt ∧ gt < go := by omega
  have HN4 := Lib.hid (show (shL n ws).length = ws.length by rw [HS.out]; rfl)
  have HFR := Lib.hid (fun (r c gc : Nat) (hr : r < 4) (hc : c < 4) (W : World) (ho : rowN W go = some (arr .u32 ws)) (h1 : rowN W gc = some #[.int .i64 (c : Nat)]) (h2 : rowN W gt = some #[.int .i64 (n : Nat)]) => from_any ws go gc gt r c n HS.out hr hc hn W ho h1 h2)
  clear hV hbV hgo hgt hg1 hg2 HR hld hgl
  go_loopw [10] (fun i wr => ShRel n ws rest g go gt w i wr) (fun i _ => 4 - (intOf i).toNat)
  case atStart => exact HI0.out
  case round =>
    obtain ⟨k, hk, rfl, hr, hro, hrt, hgr⟩ := hrel
    have HR := Lib.hid hr
    have HRO := Lib.hid hro
    have HRT := Lib.hid hrt
    have HG := Lib.hid hgr
    by_cases hlt : k < 4
    · have hk4 : ((k : Nat) : Int) < 4 := by omega
      clear hr hro hrt hgr
      go_upto_region 6 with fail
      obtain ⟨X, hX⟩ : ∃ X, wr.alloc (.cells #[.int .i64 (k : Nat)] 3) = X := ⟨_, rfl⟩
      have hbX : Below wr.heap.size wr X := by rw [← hX]; exact (Below.refl _ _).alloc (Nat.le_refl _) _
      have hrc : rowN X wr.heap.size = some #[.int .i64 (k : Nat)] := by rw [← hX, rowN_alloc, if_pos rfl]
      have HRX := Lib.hid (keptW hbX HR.out)
      have HROX := Lib.hid (keptW hbX HRO.out)
      have HRTX := Lib.hid (keptW hbX HRT.out)
      have HGX := Lib.hid (grownBy_trans HG.out (grown_of_below hbX (some g)))
      rw [hX]
      obtain ⟨gc, hgc⟩ : ∃ z, wr.heap.size = z := ⟨_, rfl⟩
      rw [hgc] at hrc ⊢
      have HC := Lib.hid (fun (r : Nat) (hr4 : r < 4) => HFR.out r k gc hr4 hlt X.drew HROX.out hrc HRTX.out)
      have HNEW := Lib.hid (show shC n ws k = pk (b0 (ws.getD (k % 4) 0)) (b1 (ws.getD ((k + n) % 4) 0)) (b2 (ws.getD ((k + 2 * n) % 4) 0)) (b3 (ws.getD ((k + 3 * n) % 4) 0)) from rfl)
      have y0 := HW.out.get (k % 4)
      have y1 := HW.out.get ((k + n) % 4)
      have y2 := HW.out.get ((k + 2 * n) % 4)
      have y3 := HW.out.get ((k + 3 * n) % 4)
      obtain ⟨x0, hx0⟩ : ∃ x, ws.getD (k % 4) 0 = x := ⟨_, rfl⟩
      obtain ⟨x1, hx1⟩ : ∃ x, ws.getD ((k + n) % 4) 0 = x := ⟨_, rfl⟩
      obtain ⟨x2, hx2⟩ : ∃ x, ws.getD ((k + 2 * n) % 4) 0 = x := ⟨_, rfl⟩
      obtain ⟨x3, hx3⟩ : ∃ x, ws.getD ((k + 3 * n) % 4) 0 = x := ⟨_, rfl⟩
      have H0 := Lib.hid (show Calls Tryd.prog 67 #[.int .i64 0, .pointer (some ⟨go, 0, none⟩), .pointer (some ⟨gc, 0, none⟩), .pointer (some ⟨gt, 0, none⟩)] X.drew (fun e w' => e = .returned (.int .u32 (x0 : Nat)) ∧ X.drew = w') from by
        have h := HC.out 0 (by omega)
        rw [Nat.zero_mul, Nat.add_zero, hx0] at h; exact h)
      have H1 := Lib.hid (show Calls Tryd.prog 67 #[.int .i64 1, .pointer (some ⟨go, 0, none⟩), .pointer (some ⟨gc, 0, none⟩), .pointer (some ⟨gt, 0, none⟩)] X.drew (fun e w' => e = .returned (.int .u32 (x1 : Nat)) ∧ X.drew = w') from by
        have h := HC.out 1 (by omega)
        rw [Nat.one_mul, hx1] at h; exact h)
      have H2 := Lib.hid (show Calls Tryd.prog 67 #[.int .i64 2, .pointer (some ⟨go, 0, none⟩), .pointer (some ⟨gc, 0, none⟩), .pointer (some ⟨gt, 0, none⟩)] X.drew (fun e w' => e = .returned (.int .u32 (x2 : Nat)) ∧ X.drew = w') from by
        have h := HC.out 2 (by omega)
        rw [hx2] at h; exact h)
      have H3 := Lib.hid (show Calls Tryd.prog 67 #[.int .i64 3, .pointer (some ⟨go, 0, none⟩), .pointer (some ⟨gc, 0, none⟩), .pointer (some ⟨gt, 0, none⟩)] X.drew (fun e w' => e = .returned (.int .u32 (x3 : Nat)) ∧ X.drew = w') from by
        have h := HC.out 3 (by omega)
        rw [hx3] at h; exact h)
      rw [hx0, hx1, hx2, hx3] at HNEW
      rw [hx0] at y0; rw [hx1] at y1; rw [hx2] at y2; rw [hx3] at y3
      have HBI := Lib.hid (sh_bits y0 y1 y2 y3)
      have HSET := Lib.hid (gK_set (A := shL n ws) (B := ws) (k := k) HN4.out (by rw [HS.out]; exact hlt))
      rw [shL_get n ws hlt, HNEW.out] at HSET
      have hcc := (rowN_cell hrc).1 0
      have hccd : X.drew.cell? ⟨gc, 0, none⟩ = some (.int .i64 (k : Nat)) := hcc
      clear hX hbX hrc hgc HC hx0 hx1 hx2 hx3 HR HRO HRT HG HNEW hcc HFR
      refine wp_region_still_tail 19 (by kernel_rfl) (by kernel_rfl) ?_
      simp only [List.take_succ_cons, List.take_zero, List.drop_succ_cons, List.drop_zero]
      repeat still_step
      still_call (H0.out.mono (fun _ _ h => ⟨h.1, h.2.symm⟩))
      repeat still_step
      still_call (H1.out.mono (fun _ _ h => ⟨h.1, h.2.symm⟩))
      repeat still_step
      still_call (H2.out.mono (fun _ _ h => ⟨h.1, h.2.symm⟩))
      repeat still_step
      still_call (H3.out.mono (fun _ _ h => ⟨h.1, h.2.symm⟩))
      repeat still_step
      refine wpStill_nil ?_
      change wpList _ _ _ _ _ X.drew
      obtain ⟨Y, hY⟩ : ∃ Y, X.drew = Y := ⟨_, rfl⟩
      have HRY := Lib.hid (show rowN Y g = some (blA (gK (shL n ws) ws k) rest) by rw [← hY]; exact HRX.out)
      have HROY := Lib.hid (show rowN Y go = some (arr .u32 ws) by rw [← hY]; exact HROX.out)
      have HRTY := Lib.hid (show rowN Y gt = some #[.int .i64 (n : Nat)] by rw [← hY]; exact HRTX.out)
      have HGY := Lib.hid (show w.grownBy Y (some g) by rw [← hY]; exact grownBy_trans HGX.out (grown_of_below (Below.refl _ _).drew _))
      rw [hY]
      clear hY hccd H0 H1 H2 H3 HRX HROX HRTX HGX
      have hkl : (gK (shL n ws) ws k).length = 4 := by rw [gK_len HN4.out, HS.out]
      have hc1 := cell_bl hkl HRY.out hlt
      have hf1 := (rowN_cell HRY.out).2 k
      rw [HBI.out]
      obtain ⟨z, hz⟩ : ∃ z, pk (b0 x0) (b1 x1) (b2 x2) (b3 x3) = z := ⟨_, rfl⟩
      rw [hz] at HSET ⊢
      clear hz HBI hkl
      go_wp2_with fail
      refine ⟨⟨k + 1, by omega, rfl, ?_, row_cell0 HROY.out (by omega), row_cell0 HRTY.out (by omega), grownBy_trans HGY.out (grown_setCell _ _ _ _)⟩, by simp [intOf]; omega⟩
      rw [← HSET.out]
      exact row_bl (by rw [gK_len HN4.out, HS.out]) HRY.out hlt
    · obtain rfl : k = 4 := by omega
      rw [gK_all (by rw [HN4.out, HS.out]; exact Nat.le_refl _) (by rw [HS.out]; exact Nat.le_refl _)] at hr
      have HR2 := Lib.hid hr
      clear hr hgr hro hrt
      go_wp2_with fail
      go_end0
      exact ⟨rfl, HR2.out, HG.out⟩
end Go.Proofs.YtjcdbjapadgdfaaDoor
