/- CTS: a mode decrypts. -/
import Derived.Test.YtjcdbjapadgdfaaDoorCT
namespace Go.Proofs.YtjcdbjapadgdfaaDoor
open Go.RowKit Go.Shelf

attribute [local go_sem] Oper.semAt_some
/-- An append for which there is room, as one operation of a region. -/
theorem wp_app_fits {w : World} {o : Oper} {a : Act} {K : Act → World → Prop} {Q : Exit → Act → World → Prop} (s x : Operand)
    (ho : o.op = .call { callee := .builtin .append, args := #[s, x], argTypes := #[22, 22] }) (base g cap n m : Nat) {l zs : List Nat} {ad : Addr} {c : Nat} (hs : a.eval s = .slice (some ⟨g, 0, none⟩) n cap) (hx : a.eval x = .slice (some ad) m c) (hm : zs.length = m)
    (hown : w.ownsRow base 5 1 (.slice (some ⟨g, 0, none⟩) n cap) n (cl l)) (hB : BytesAt zs (.slice (some ad) m c) w) (hr : n + m ≤ cap)
    (h : ∀ w', w'.ownsRow base 5 1 (.slice (some ⟨g, 0, none⟩) (n + m) cap) (n + m) (cl (l ++ zs)) → w.grownBy w' (some g) → K (a.put o.dst (.slice (some ⟨g, 0, none⟩) (n + m) cap)) w') : o.wp Tryd.prog a w K Q := by
  subst hm
  obtain ⟨i0, hi, hz0, hz1, hz2⟩ := info_parts Tryd.info5
  obtain ⟨w', hrun, r1, r2⟩ := run_append_fits (P := Tryd.prog) w base 22 o.type 5 i0 1 Tryd.underlying22 hi hz1 g n cap (cl l) hown ad zs.length c (cl zs) (by rw [cl_len, Nat.mul_one]) (bytes_cells hB).2 (cl_one zs) hr
  unfold Oper.wp
  simp [execOp, ho, resolve, invoke, builtin, hs, hx, hrun, Result.andThen]
  exact h w' (by rw [cl_app]; exact r1) r2
/-- What stands before block k, and block k of the plaintext. -/
def stF (iv : List Nat) (p : Nat → List Nat) : Nat → List Nat
  | 0 => iv
  | k + 1 => p k
def dF (key iv : List Nat) (p : Nat → List Nat) (k : Nat) : List Nat := xorL (stF iv p k) (aD key (p k))
/-- A ciphertext, decrypted. -/
def decL (key iv cs : List Nat) : List Nat := (catN (dF key iv (blkB (cdL key cs))) (nB cs.length)).take cs.length
def DnI (f : Nat → List Nat) (st : Nat → List Nat) (gb0 gb1 : Nat) (tv : Value) (gm gbx gch gst n : Nat) (w : World) (k : Nat) (V : World) : Prop :=
  rowN V gb1 = some #[tv] ∧ rowN V gb0 = some #[.pointer (some ⟨gm, 0, none⟩)] ∧ rowN V gst = some (arr .u8 (st k)) ∧ rowN V gbx = some #[.slice (some ⟨gch, 0, none⟩) (16 * k) (16 * n)] ∧ V.ownsRow w.heap.size 5 1 (.slice (some ⟨gch, 0, none⟩) (16 * k) (16 * n)) (16 * k) (cl (catN f k)) ∧ Below w.heap.size w V
theorem dnI_own (f st : Nat → List Nat) (gb0 gb1 : Nat) (tv : Value) (gm gbx gch gst n : Nat) (w : World) {B : Nat} (h0 : gb0 < B) (h6 : gb1 < B) (h1 : gbx < B) (h2 : gch < B) (h4 : gst < B) (h3 : w.heap.size ≤ B) : OwnAny B (DnI f st gb0 gb1 tv gm gbx gch gst n w) := by
  rintro k X Y row ⟨a6, a4, a5, a1, a2, a3⟩ hg hr
  have hrow : ∀ {q : Nat} {cs : Array Value}, q < B → rowN X q = some cs → rowN Y q = some cs := fun hq h => (grownBy_rowN hg (rowN_lt h) (fun e => by have := hr _ e.symm; omega)).trans h
  refine ⟨hrow h6 a6, hrow h0 a4, hrow h4 a5, hrow h1 a1, a2.kept hg (.inr (fun e => ?_)), a3.grown hg a3.size (fun r e => Nat.le_trans h3 (hr r e))⟩
  have := hr gch (show row = some gch from e.symm)
  omega
set_option maxRecDepth 100000 in
set_option maxHeartbeats 8000000 in
theorem mdec_any (key iv cs : List Nat) (gm gc : Nat) (s : Value) (hk : ∀ x ∈ key, x < 256) (hi : iv.length = 16) (_ : ∀ x ∈ iv, x < 256) (h16 : 16 ≤ cs.length) (hmx : cs.length ≤ 131072) (w : World) (hM : MdAt key iv gm gc w) (hB : BytesAt cs s w) :
    Calls Tryd.prog 15 #[.pointer (some ⟨gm, 0, none⟩), s] w fun e w' => ∃ s', e = .returned s' ∧ BytesAt (decL key iv cs) s' w' ∧ Nil0 s' ∧ (∀ j, InS s' j → w.heap.size ≤ j) ∧ Below w.heap.size w w' := by
  have hle := nB_le cs.length
  have hnb : nB cs.length ≤ 9000 ∧ 1 ≤ nB cs.length := by unfold nB; omega
  have HPL := Lib.hid (padB_len cs)
  have HEL := Lib.hid (show decL key iv cs = (catN (dF key iv (blkB (cdL key cs))) (nB cs.length)).take cs.length from rfl)
  have HFE := Lib.hid (show ∀ p k, dF key iv p k = xorL (stF iv p k) (aD key (p k)) from fun _ _ => rfl)
  have HC2 := Lib.hid (show ∀ x ∈ cdL key cs, x < 256 from swp_256 (mdL_256 hk hB.1))
  have HCLN := Lib.hid (show (cdL key cs).length = 16 * nB cs.length from (swp_len _).trans (mdL_len hk hB.1))
  have HMD := Lib.hid hM.1
  have HCP := Lib.hid hM.2
  have HCS := Lib.hid hB.1
  obtain ⟨n, hn⟩ : ∃ q, nB cs.length = q := ⟨_, rfl⟩
  have g1 := rowN_lt hM.1
  have g2 := rowN_lt hM.2
  have HCO := Lib.hid (fun (W : World) (h : BytesAt cs s W) => completed_any cs s (by omega) W h)
  have HSB := Lib.hid hB
  obtain ⟨_, sa, sc, rfl, _, _⟩ := hB
  have HME := Lib.hid (fun (W : World) (g q1 q2 q3 : Nat) (hM : MdAt key iv gm gc W) => mendEnd_any key iv cs g gm gc q1 q2 q3 (16 * n) sc sa (by rw [hn]) hk HCS.out (by omega) W hM)
  rw [hn] at HCO HPL HEL hle hnb HCLN
  obtain ⟨L, hL⟩ : ∃ q, cs.length = q := ⟨_, rfl⟩
  have HHL := Lib.hid hL
  rw [hL] at HCO HEL h16 hmx hle hn HME HSB ⊢
  have hmk := run_mk22z (16 * n) (by omega)
  have hs3 := fun (g : Nat) W => run_slice22_hm g (16 * n) (16 * n) L hle W
  obtain ⟨C, hC⟩ : ∃ q, cdL key cs = q := ⟨_, rfl⟩
  rw [hC] at HEL HC2 HCLN HME
  have hp256 : ∀ k, ∀ x ∈ blkB C k, x < 256 := fun k x hx => HC2.out x (List.mem_of_mem_drop (List.mem_of_mem_take hx))
  have hpl : ∀ k, k < n → (blkB C k).length = 16 := fun k hk => blkB_len (by rw [HCLN.out]; omega)
  have HDE := Lib.hid (fun (k : Nat) (h : k < n) (W : World) (v : Value) (hC : CphAt key gc W) (hB : BytesAt (blkB C k) v W) => show Calls Tryd.prog 29 #[.pointer (some ⟨gc, 0, none⟩), v] W (fun e w' => ∃ s', e = .returned (.tuple #[s', .int .i64 0]) ∧ BytesAt (aD key (blkB C k)) s' w' ∧ Nil0 s' ∧ (∀ j, InS s' j → W.heap.size ≤ j) ∧ NF s' w' ∧ Below W.heap.size W w') from decrypt_any gc key (blkB C k) v (hpl k h) hk W hC hB)
  have HAD := Lib.hid (fun (k : Nat) => show (aD key (blkB C k)).length = 16 ∧ ∀ x ∈ aD key (blkB C k), x < 256 from ⟨aD_len hk (hp256 k), aD_256 hk (hp256 k)⟩)
  obtain ⟨p, hp⟩ : ∃ q, blkB C = q := ⟨_, rfl⟩
  have HPP := Lib.hid (show blkB C = p from hp)
  rw [hp] at HEL hp256 hpl HDE HAD
  have hiv2 : ∀ x ∈ iv, x < 256 := by assumption
  have HST := Lib.hid (fun (k : Nat) (h : k < n) => show (stF iv p k).length = 16 ∧ ∀ x ∈ stF iv p k, x < 256 from by
    cases k with
    | zero => exact ⟨hi, hiv2⟩
    | succ k => exact ⟨hpl k (by omega), hp256 k⟩)
  have HF := Lib.hid (fun (k : Nat) (h : k < n) => show (dF key iv p k).length = 16 ∧ ∀ x ∈ dF key iv p k, x < 256 from ⟨xor_len (HST.out k h).1 (HAD.out k).1, xor_256 (HST.out k h).2 (HAD.out k).2⟩)
  have HFE := Lib.hid (HFE.out p)
  obtain ⟨f, hf⟩ : ∃ q, dF key iv p = q := ⟨_, rfl⟩
  rw [hf] at HEL HF HFE
  have HSS := Lib.hid (show ∀ k, stF iv p (k + 1) = p k from fun _ => rfl)
  have HS0 := Lib.hid (show stF iv p 0 = iv from rfl)
  obtain ⟨st, hst⟩ : ∃ q, stF iv p = q := ⟨_, rfl⟩
  rw [hst] at HST HFE HSS HS0
  have HCL := Lib.hid (catN_len n (fun k h => (HF.out k h).1))
  have HC3 := Lib.hid (catN_256 n (fun k h => (HF.out k h).2))
  have HPL2 := Lib.hid hpl
  rw [HEL.out]
  clear hM hn hL hC hp hf hst hpl hp256 hiv2
  refine (callsIn_wide (n := 6)).1 ?_
  refine callsIn_of_wp_marks Tryd.func15 rfl trivial ?_ rfl
  simp only [Tryd.ntmps15, List.size_toArray, List.length_cons, List.length_nil, Nat.reduceAdd, Nat.reduceSub, Array.replicate_succ, Array.replicate_zero, List.push_toArray, List.append_toArray, List.nil_append, List.cons_append]
  refine wpIn_wide.2 ?_
  go_upto_region 1 with fail
  obtain ⟨V0, hV0⟩ : ∃ q, (w.alloc (.cells #[.pointer (some ⟨gm, 0, none⟩)] 38)).alloc (.cells #[.slice sa L sc] 22) = q := ⟨_, rfl⟩
  have hb0 : Below w.heap.size w V0 := by rw [← hV0]; exact ((Below.refl _ _).alloc (Nat.le_refl _) _).alloc (by simp) _
  have hz0 : V0.heap.size = w.heap.size + 2 := by rw [← hV0]; simp
  have hr0 : rowN V0 w.heap.size = some #[.pointer (some ⟨gm, 0, none⟩)] := by rw [← hV0, rowN_alloc, if_neg (by simp), rowN_alloc, if_pos rfl]
  have hr1 : rowN V0 (w.heap.size + 1) = some #[.slice sa L sc] := by rw [← hV0, rowN_alloc, if_pos (by simp)]
  have hc0 := (rowN_cell hr0).1 0
  have hc1 := (rowN_cell hr1).1 0
  rw [hV0]
  have HB0 := Lib.hid hb0
  have HZ0 := Lib.hid hz0
  have HR0 := Lib.hid hr0
  have HR1 := Lib.hid hr1
  have HCO0 := Lib.hid (HCO.out V0 (HSB.out.kept hb0))
  clear hV0 hb0 hz0 hr0 hr1 HCO
  obtain ⟨gb0, hgb0⟩ : ∃ q, w.heap.size = q := ⟨_, rfl⟩
  obtain ⟨gb1, hgb1⟩ : ∃ q, gb0 + 1 = q := ⟨_, rfl⟩
  rw [hgb0] at HR0 hc0
  rw [hgb0, hgb1] at HR1 hc1
  rw [hgb0, hgb1]
  have HG0 := Lib.hid hgb0
  have HG1 := Lib.hid hgb1
  clear hgb0 hgb1
  go_wp2_with fail
  refine HCO0.out.mono ?_
  rintro e w1 ⟨gw, rfl, hgw, hrw, hb1⟩
  have HRW := Lib.hid hrw
  have HB1 := Lib.hid hb1
  have HGW := Lib.hid (show V0.heap.size ≤ gw ∧ gw < w1.heap.size from ⟨hgw, rowN_lt hrw⟩)
  have hc0 := (rowN_cell (keptW hb1 HR0.out)).1 0
  have hc1 := (rowN_cell (keptW hb1 HR1.out)).1 0
  clear hgw hrw hb1 HCO0
  rw [show 16 * n = 16 * n from rfl]
  go_upto_region 2 with fail
  obtain ⟨gx, hgx⟩ : ∃ q, w1.heap.size = q := ⟨_, rfl⟩
  obtain ⟨V1, hV1⟩ : ∃ q, w1.alloc (.cells #[.slice (some ⟨gw, 0, none⟩) (16 * n) (16 * n)] 22) = q := ⟨_, rfl⟩
  have hbV : Below w1.heap.size w1 V1 := by rw [← hV1]; exact (Below.refl _ _).alloc (Nat.le_refl _) _
  have HZ1 := Lib.hid (show V1.heap.size = gx + 1 by rw [← hV1, ← hgx]; simp)
  have hrx : rowN V1 gx = some #[.slice (some ⟨gw, 0, none⟩) (16 * n) (16 * n)] := by rw [← hV1, rowN_alloc, if_pos hgx.symm]
  rw [hV1, hgx]
  have HGX := Lib.hid (show gw < gx by rw [← hgx]; exact HGW.out.2)
  have HBV := Lib.hid (bthen (bthen HB0.out HB1.out) hbV)
  have hr0 := keptW (bthen HB1.out hbV) HR0.out
  have hr1 := keptW (bthen HB1.out hbV) HR1.out
  have hcx := (rowN_cell hrx).1 0
  have HMX := Lib.hid (HME.out V1 gw gb0 gx gb1 ⟨keptW HBV.out HMD.out, keptW HBV.out HCP.out⟩ (keptW hbV HRW.out) hr0 hrx hr1)
  have HR0 := Lib.hid hr0
  have HR1 := Lib.hid hr1
  have HRX := Lib.hid hrx
  clear hgx hV1 hbV hrx hr0 hr1 HME hc0 hc1
  go_wp2_with fail
  refine HMX.out.mono ?_
  rintro e w2 ⟨rfl, hrw2, hg2⟩
  have hzz := HZ1.out
  have hz0 := HZ0.out
  have hgg0 := HG0.out
  have hgg1 := HG1.out
  have hgw := HGW.out
  have hgx := HGX.out
  have hr0 := (grownBy_rowN hg2 (rowN_lt HR0.out) (fun e => by injection e with e; omega)).trans HR0.out
  have hr1 := (grownBy_rowN hg2 (rowN_lt HR1.out) (fun e => by injection e with e; omega)).trans HR1.out
  have hrx := (grownBy_rowN hg2 (rowN_lt HRX.out) (fun e => by injection e with e; omega)).trans HRX.out
  have HB2 := Lib.hid (show Below w.heap.size w w2 from HBV.out.grown hg2 HBV.out.size (fun r e => by cases e; omega))
  have hs2 : gx < w2.heap.size := rowN_lt hrx
  have hwg : w.heap.size ≤ gw := by omega
  have HRW2 := Lib.hid hrw2
  have HR0 := Lib.hid hr0
  have HR1 := Lib.hid hr1
  have HRX := Lib.hid hrx
  have hcx := (rowN_cell hrx).1 0
  have hmk2 := hmk w2
  have HORD := Lib.hid (show w.heap.size ≤ gb0 ∧ gb0 < gb1 ∧ gb1 < gw ∧ gw < gx ∧ gx < w2.heap.size by omega)
  have HOW := Lib.hid (made_own2 w2 (16 * n) w.heap.size HB2.out.size (by omega))
  clear hrw2 hg2 hzz hz0 hgg0 hgg1 hgw hgx hr0 hr1 hrx hs2 hwg hmk HMX HB0 HB1 HBV HZ0 HZ1 HG0 HG1 HGW HGX HRW
  obtain ⟨Ln, hLn⟩ : ∃ q, 16 * n = q := ⟨_, rfl⟩
  have HLN := Lib.hid hLn
  rw [hLn] at hmk2 HOW hs3 HRX hcx ⊢
  clear hLn
  go_upto_region 4 with fail
  obtain ⟨gch, hgch⟩ : ∃ q, w2.heap.size = q := ⟨_, rfl⟩
  obtain ⟨gbx, hgbx⟩ : ∃ q, gch + 1 = q := ⟨_, rfl⟩
  obtain ⟨gst, hgst⟩ : ∃ q, gch + 2 = q := ⟨_, rfl⟩
  obtain ⟨V2, hV2⟩ : ∃ q, (w2.alloc (.cells (arr .u8 (zr Ln)) 5)).alloc (.cells #[.slice (some ⟨w2.heap.size, 0, none⟩) 0 Ln] 22) = q := ⟨_, rfl⟩
  have hb2 : Below w2.heap.size w2 V2 := by rw [← hV2]; exact ((Below.refl _ w2).alloc (Nat.le_refl _) _).alloc (by simp) _
  have hz2 : V2.heap.size = gst := by rw [← hV2, ← hgst, ← hgch]; simp
  have hrb : rowN V2 gbx = some #[.slice (some ⟨gch, 0, none⟩) 0 Ln] := by rw [← hV2, rowN_alloc, if_pos (by simp [← hgbx, ← hgch]), hgch]
  have hob : V2.ownsRow w.heap.size 5 1 (.slice (some ⟨gch, 0, none⟩) 0 Ln) 0 (cl []) := by rw [← hV2, ← hgch]; exact HOW.out.alloc _
  rw [hV2, hgch, hgbx]
  have HB2 := Lib.hid (bthen HB2.out hb2)
  have HR0 := Lib.hid (keptW hb2 HR0.out)
  have HR1 := Lib.hid (keptW hb2 HR1.out)
  have HRX := Lib.hid (keptW hb2 HRX.out)
  have HRW := Lib.hid (keptW hb2 HRW2.out)
  have HORD := Lib.hid (show w.heap.size ≤ gb0 ∧ gb0 < gb1 ∧ gb1 < gw ∧ gw < gx ∧ gx < gch ∧ gch < gbx ∧ gbx < gst ∧ gst = V2.heap.size by have := HORD.out; omega)
  have hc0 := (rowN_cell HR0.out).1 0
  have hld : (arLoad 48 (.pointer (some ⟨gm, 1, none⟩))).run Tryd.prog V2 = .ok (.value (.agg (arr .u8 iv))) V2 := load16 (keptW HB2.out HMD.out) hi (fun i _ => mdA_iv gc iv i)
  have hst : (arStore 48 (.pointer (some ⟨V2.heap.size, 0, none⟩)) (.agg (arr .u8 iv))).run Tryd.prog (V2.alloc (.cells (arr .u8 (zr 16)) 48)) = .ok .skip ((V2.alloc (.cells (arr .u8 (zr 16)) 48)).setRow V2.heap.size (arr .u8 iv)) :=
    store16_row (l := zr 16) (by rw [rowN_alloc, if_pos rfl]) (zr_len 16) hi
  have HRB := Lib.hid hrb
  have HOB := Lib.hid hob
  have HZ2 := Lib.hid hz2
  clear hgch hgbx hgst hV2 hb2 hz2 hrb hob hmk2 HOW hcx
  go_upto_region 5 with fail
  obtain ⟨V3, hV3⟩ : ∃ q, (V2.alloc (.cells (arr .u8 (zr 16)) 48)).setRow V2.heap.size (arr .u8 iv) = q := ⟨_, rfl⟩
  have hb3 : Below V2.heap.size V2 V3 := by rw [← hV3]; exact below_setRow' ((Below.refl _ _).alloc (Nat.le_refl _) _) (Nat.le_refl _) _
  have hz3 : V3.heap.size = gst + 1 := by rw [← hV3]; simp [World.setRow]; exact HZ2.out
  have hrs : rowN V3 gst = some (arr .u8 iv) := by rw [← hV3, ← HZ2.out]; exact row_new (cs := arr .u8 (zr 16)) (by rw [rowN_alloc, if_pos rfl])
  rw [hV3]
  have HB3 := Lib.hid (bthen HB2.out hb3)
  have HR0 := Lib.hid (keptW hb3 HR0.out)
  have HR1 := Lib.hid (keptW hb3 HR1.out)
  have HRX := Lib.hid (keptW hb3 HRX.out)
  have HRW := Lib.hid (keptW hb3 HRW.out)
  have HRB := Lib.hid (keptW hb3 HRB.out)
  have HOB := Lib.hid (HOB.out.kept (grown_none hb3) (.inr (by simp [Value.ownBlock])))
  have HRS := Lib.hid hrs
  have HZ3 := Lib.hid hz3
  have hcx := (rowN_cell HRX.out).1 0
  rw [HZ2.out]
  have HORD := Lib.hid (show w.heap.size ≤ gb0 ∧ gb0 < gb1 ∧ gb1 < gw ∧ gw < gx ∧ gx < gch ∧ gch < gbx ∧ gbx < gst ∧ gst < V3.heap.size by have := HORD.out; omega)
  clear hV3 hb3 hz3 hrs hld hst hc0 HB2 HRW2
  go_wp2_with fail
  refine (blocksOf_any (some ⟨gw, 0, none⟩) Ln Ln V3).mono ?_
  rintro e U ⟨rfl, hU⟩
  have hbU : Below V3.heap.size V3 U := by rw [hU]; exact ((Below.refl _ V3).alloc (Nat.le_refl _) _).alloc (by simp) _
  have hzU : U.heap.size = V3.heap.size + 2 := by rw [hU]; simp
  have hq1 : rowN U V3.heap.size = some #[.slice (some ⟨gw, 0, none⟩) Ln Ln] := by rw [hU, rowN_alloc, if_neg (by simp), rowN_alloc, if_pos rfl]
  have hq2 : rowN U (V3.heap.size + 1) = some #[.int .i64 16] := by rw [hU, rowN_alloc, if_pos (by simp)]
  have HBU := Lib.hid (bthen HB3.out hbU)
  have HCY := Lib.hid (chunk1_yields (6 - 1) V3.heap.size (V3.heap.size + 1) n C _ HCLN.out (by omega) U hq1 hq2 (bytes_row HC2.out (keptW hbU HRW.out) Ln (by rw [HCLN.out, HLN.out])))
  have HR0 := Lib.hid (keptW hbU HR0.out)
  have HR1 := Lib.hid (keptW hbU HR1.out)
  have HI0 := Lib.hid (show DnI f st gb0 gb1 (.slice sa L sc) gm gbx gch gst n w 0 U from ⟨HR1.out, HR0.out, by rw [HS0.out]; exact keptW hbU HRS.out, by rw [HLN.out]; exact keptW hbU HRB.out, by rw [HLN.out]; exact HOB.out.kept (grown_none hbU) (.inr (by
    have := HORD.out
    simp [Value.ownBlock])), HBU.out⟩)
  have hInS : ∀ j, InS (Value.slice (some ⟨gw, 0, none⟩) Ln Ln) j → j = gw := fun j h => by
    obtain ⟨o, sp, L', c', e⟩ := h
    cases e; rfl
  have HORD := Lib.hid (show w.heap.size ≤ gb0 ∧ gb0 < gb1 ∧ gb1 < gw ∧ gw < gx ∧ gx < gch ∧ gch < gbx ∧ gbx < gst ∧ gst < V3.heap.size ∧ V3.heap.size + 2 = U.heap.size by have := HORD.out; omega)
  rw [HPP.out] at HCY
  clear hU hbU hzU hq1 hq2 hcx HRX HRW HRB HOB HRS
  go_wp2_with fail
  have hord := HORD.out
  refine (wpIn_wide (n := 6)).1 ?_
  refine range_yieldsS (by omega) (gf := 54) (lb := #[.pointer (some ⟨V3.heap.size, 0, none⟩), .pointer (some ⟨V3.heap.size + 1, 0, none⟩)]) rfl (enters_of Tryd.func54 (by kernel_rfl) rfl) HCY.out
    (fun j => j = gbx ∨ j = gch ∨ j = gst) (fun j h => by
      refine ⟨by omega, fun h2 => ?_⟩
      rcases h2 with h2 | h2 | h2
      · omega
      · omega
      · have := hInS j h2.2; omega)
    (fun j h2 => by
      rcases h2 with h2 | h2 | h2
      · omega
      · omega
      · have := hInS j h2.2; omega)
    (fun k v X l o o' h hl ho => ⟨h.1.putObj o' hl ho, h.2⟩) (Below.refl _ _)
    (DnI f st gb0 gb1 (.slice sa L sc) gm gbx gch gst n w) (fun _ _ _ => False) (dnI_own f st gb0 gb1 (.slice sa L sc) gm gbx gch gst n w (by omega) (by omega) (by omega) (by omega) (by omega) (by omega)).toFrom (fun _ _ _ _ _ hs _ _ => hs) HI0.out ?a1 ?assign ?body ?done ?stop
  case assign =>
    intro l2 v X k hk
    gi_wp2
    exact hk
  case body =>
    rintro l2 k v X hkn ⟨hx1, hx0, hxs, hbx, hown, hbl⟩ ⟨hbv, hins⟩
    have hpk := HPL2.out k hkn
    have hfl := HF.out k hkn
    obtain ⟨bv, ov, cv, rfl, hbvl, _⟩ := hbv.cells (by rw [hpk]; omega)
    rw [hpk] at hins ⊢
    have HDK := Lib.hid (HDE.out k hkn X _ (keptW hbl HCP.out) hbv)
    rw [hpk] at HDK
    have hbw := hInS bv (hins bv ⟨ov, none, _, _, rfl⟩)
    subst hbw
    have hm0 := (rowN_cell (keptW hbl HMD.out)).1 0
    rw [mdA_zero] at hm0
    have hx00 := (rowN_cell hx0).1 0
    have HX0 := Lib.hid hx0
    have HX1 := Lib.hid hx1
    have HXS := Lib.hid hxs
    have HBX := Lib.hid hbx
    have HOWN := Lib.hid hown
    have HBL := Lib.hid hbl
    rw [hpk] at hbv
    have HBV := Lib.hid hbv
    have hgl := rowN_lt hbx
    have hgl2 := rowN_lt hxs
    clear hx0 hx1 hxs hbx hown hbl hbv hins
    gi_wp2_with fail
    refine ⟨trivial, (CallsIn.inRound l2 (callsIn_wide.2 HDK.out)).mono ?_⟩
    rintro e X1 ⟨s3, rfl, hb3, _, hf3, _, hB3⟩
    have HCO := Lib.hid (combine_any (st k) (aD key (p k)) gst s3 (HST.out k hkn).1 (HAD.out k).1 (HST.out k hkn).2 X1 (keptW hB3 HXS.out) hb3 (fun h => by have := hf3 gst h; omega))
    rw [← HFE.out, HFE.out] at HCO
    rw [show xorL (st k) (aD key (p k)) = f k by rw [HFE.out]] at HCO
    have HB3 := Lib.hid hB3
    have HL3 := Lib.hid (bthen HBL.out hB3)
    clear hb3 hf3 hB3 HDK HXS
    gi_wp2_with fail
    refine ⟨trivial, (CallsIn.inRound l2 (callsIn_wide.2 HCO.out)).mono ?_⟩
    rintro e X2 ⟨rfl, hr2, hg2⟩
    have HK_0 := Lib.hid (show Keeps (fun j => j = gbx ∨ j = gch ∨ j = gst) X X2.drew from ((Keeps.of_below HB3.out).trans (Keeps.of_grownBy hg2 (fun r e => by cases e; exact .inr (.inr rfl)))).trans (Keeps.of_below (Below.refl _ _).drew))
    have HW_0 := Lib.hid (show Below w.heap.size w X2.drew from (HL3.out.grown hg2 HL3.out.size (fun r e => by cases e; omega)).drew)
    have HS_0 := Lib.hid (show rowN X2.drew gst = some (arr .u8 (f k)) from hr2)
    have HX_0 := Lib.hid (show rowN X2.drew gbx = some #[.slice (some ⟨gch, 0, none⟩) (16 * k) (16 * n)] from (grownBy_rowN hg2 (rowN_lt (keptW HB3.out HBX.out)) (fun e => by injection e with e; omega)).trans (keptW HB3.out HBX.out))
    have HO_0 := Lib.hid (show X2.drew.ownsRow w.heap.size 5 1 (.slice (some ⟨gch, 0, none⟩) (16 * k) (16 * n)) (16 * k) (cl (catN f k)) from ((HOWN.out.kept (grown_none HB3.out) (.inr (by simp [Value.ownBlock]))).kept hg2 (.inr (by simp [Value.ownBlock]; omega))).drew)
    clear hr2 hg2 HCO HB3 HL3 HOWN HBX hm0 hx00
    gi_wp2_with fail
    refine regionIn_held' (fun W => True) (by kernel_rfl) (by kernel_rfl) trivial (fun hHeld0 => ?_)
    obtain ⟨x0, hx0⟩ : ∃ q, X2.drew = q := ⟨_, rfl⟩
    rw [hx0] at HK_0 HW_0 HS_0 HX_0 HO_0 ⊢
    clear hx0
    refine wpAnyH_take (i := 1) (oi := { dst := some 38, op := Op.slice 48 (Operand.tmp 7) none none none, type := 22, pos := "mode.go:83", after := #[], guard := none }) (v := ?tk1) rfl (by kernel_rfl) (by kernel_rfl) (by kernel_rfl) (fun _ _ _ h => Exit.noConfusion h.1) (Or.inl ⟨by rfl, ?tw1⟩) hHeld0 ?_
    case tw1 => (intro W hW; clear hW; first | (go_simp; done) | (go_simp; with_reducible rfl))
    try simp only [Act.put, List.setIfInBounds_toArray, List.set_cons_zero, List.set_cons_succ]
    refine wpAnyH_ready (rs := [0]) (by kernel_rfl) (by simp) ?_
    refine AllReadyH.cons (o := { dst := some 37, op := Op.load 22 (Operand.tmp 6), type := 22, pos := "mode.go:83", after := #[], guard := none }) rfl (fun K' hK => ?_) AllReadyH.nil
    have hcb := (rowN_cell HX_0.out).1 0
    go_simp
    refine hK.out _ _ trivial (fun hHeld1 => ?_)
    clear hK K' hcb
    try simp only [Act.put, List.setIfInBounds_toArray, List.set_cons_zero, List.set_cons_succ]
    refine wpAnyH_ready (rs := [2]) (by kernel_rfl) (by simp) ?_
    refine AllReadyH.cons (o := { dst := some 39, op := Op.call { callee := Callee.builtin Builtin.append, args := #[Operand.tmp 37, Operand.tmp 38], argTypes := #[22, 22] }, type := 22, pos := "mode.go:83", after := #[{ on := 0, ground := Ground.data }, { on := 1, ground := Ground.data }], guard := none }) rfl (fun K' hK => ?_) AllReadyH.nil
    rw [if_pos (by rfl)]
    refine wp_app_fits _ _ rfl w.heap.size gch (16 * n) (16 * k) 16 (l := catN f k) (zs := f k) rfl rfl hfl.1 HO_0.out (bytes_row hfl.2 HS_0.out 16 hfl.1) (by omega) ?_
    intro X3 ho3 hg3
    refine hK.out _ _ trivial (fun hHeld2 => ?_)
    clear hK K'
    try simp only [Act.put, List.setIfInBounds_toArray, List.set_cons_zero, List.set_cons_succ]
    have hrb3 := (grownBy_rowN hg3 (rowN_lt HX_0.out) (fun e => by injection e with e; omega)).trans HX_0.out
    have hrs3 := (grownBy_rowN hg3 (rowN_lt HS_0.out) (fun e => by injection e with e; omega)).trans HS_0.out
    have hcb := (rowN_cell hrb3).1 0
    have hfb := (rowN_cell hrb3).2 0
    refine wpAnyH_ready (rs := [3]) (by kernel_rfl) (by simp) ?_
    refine AllReadyH.cons (o := { dst := none, op := Op.store 22 (Operand.tmp 6) (Operand.tmp 39), type := 0, pos := "mode.go:83", after := #[{ on := 2, ground := Ground.data }, { on := 2, ground := Ground.chain }, { on := 0, ground := Ground.phase }, { on := 1, ground := Ground.phase }, { on := 2, ground := Ground.phase }], guard := none }) rfl (fun K' hK => ?_) AllReadyH.nil
    go_simp
    obtain ⟨X4, hX4⟩ : ∃ q, X3.setCell ⟨gbx, 0, none⟩ (.slice (some ⟨gch, 0, none⟩) (16 * k + 16) (16 * n)) = q := ⟨_, rfl⟩
    have hg4 : X3.grownBy X4 (some gbx) := by rw [← hX4]; exact grown_setCell _ _ _ _
    have hr4 : rowN X4 gbx = some #[.slice (some ⟨gch, 0, none⟩) (16 * k + 16) (16 * n)] := by rw [← hX4]; exact row_set0 hrb3
    have hs4 := (grownBy_rowN hg4 (rowN_lt hrs3) (fun e => by injection e with e; omega)).trans hrs3
    have HK4 := Lib.hid (show Keeps (fun j => j = gbx ∨ j = gch ∨ j = gst) X X4 from (HK_0.out.trans (Keeps.of_grownBy hg3 (fun r e => by cases e; exact .inr (.inl rfl)))).trans (Keeps.of_grownBy hg4 (fun r e => by cases e; exact .inl rfl)))
    have HW4 := Lib.hid (show Below w.heap.size w X4 from (HW_0.out.grown hg3 HW_0.out.size (fun r e => by cases e; omega)).grown hg4 (Nat.le_trans HW_0.out.size hg3.size) (fun r e => by cases e; omega))
    have HO4 := Lib.hid (ho3.kept hg4 (.inr (by simp [Value.ownBlock]; omega)))
    have HR4 := Lib.hid hr4
    have HS4 := Lib.hid hs4
    rw [hX4]
    refine hK.out _ _ trivial (fun hHeld3 => ?_)
    clear hK K' hX4 hg4 hr4 hs4 hrb3 hrs3 hcb hfb ho3 hg3 HK_0 HW_0 HS_0 HX_0 HO_0 hHeld0 hHeld1 hHeld2 hHeld3
    try simp only [Act.put, List.setIfInBounds_toArray, List.set_cons_zero, List.set_cons_succ]
    refine wpAnyH_done (by kernel_rfl) ?_ _
    refine ⟨rfl, ?_⟩
    have hat3 := arrayAt16 ⟨bv, ov, none⟩ 16 cv (Nat.le_refl _) X4
    have hld3 := load16_at (HBV.out.keeps HK4.out (fun j _ hj h => by
      obtain ⟨o, sp, L', c', e⟩ := hj
      cases e
      omega)) hpk
    have hst3 := store16_row HS4.out hfl.1 hpk
    obtain ⟨X5, hX5⟩ : ∃ q, X4.setRow gst (arr .u8 (p k)) = q := ⟨_, rfl⟩
    have hg5 : X4.grownBy X5 (some gst) := by rw [← hX5]; exact setRow_grown _ _ _
    have hK5 : Keeps (fun j => j = gbx ∨ j = gch ∨ j = gst) X X5 := HK4.out.trans (Keeps.of_grownBy hg5 (fun r e => by cases e; exact .inr (.inr rfl)))
    have HE := Lib.hid (show RoundEnds U.heap.size (Keeps fun j => j = gbx ∨ j = gch ∨ j = gst) (DnI f st gb0 gb1 (.slice sa L sc) gm gbx gch gst n w (k + 1)) (fun c => (fun _ _ _ => False) c (k + 1)) X .normal X5 from
      ⟨hK5.from (fun j hj h => by omega), hK5, .inl ⟨rfl, hK5.row HX1.out (fun h => by omega), hK5.row HX0.out (fun h => by omega), by rw [← hX5, HSS.out]; exact row_new HS4.out,
        by rw [show 16 * (k + 1) = 16 * k + 16 by omega]; exact (grownBy_rowN hg5 (rowN_lt HR4.out) (fun e => by injection e with e; omega)).trans HR4.out,
        by rw [show 16 * (k + 1) = 16 * k + 16 by omega, show catN f (k + 1) = catN f k ++ f k from rfl]; exact HO4.out.kept hg5 (.inr (by simp [Value.ownBlock]; omega)),
        HW4.out.grown hg5 HW4.out.size (fun r e => by cases e; omega)⟩⟩)
    rw [hX5] at hst3
    clear hX5 hg5 hK5 HK4 HW4 HO4 HR4 HS4 HX0 HBV HBL
    gi_wp2_with fail
    exact HE.out
  case done =>
    rintro D X hD ⟨hx1, _, _, hbx, hown, hbl⟩ hKD
    rw [HLN.out] at hbx hown
    have hrow := own_row hown
    have hc1 := (rowN_cell hbx).1 0
    have hc2 := (rowN_cell hx1).1 0
    have HKD := Lib.hid hKD
    have HBL := Lib.hid hbl
    have HRR := Lib.hid hrow
    have hdg : D ≠ gch := by omega
    have hwd : w.heap.size ≤ D := by omega
    have hwg : w.heap.size ≤ gch := by omega
    have hs3g := hs3 gch
    clear hx1 hbx hown hbl hKD hrow hs3 HMD HCP HORD HR0 HR1 HCY HI0
    go_wp2_with fail
    refine ⟨by simp, .inl ⟨_, _, rfl, run_takeDeferred HKD.out, ?_⟩⟩
    have hrP : rowN (X.putObj D (.deferred none)) gch = some (arr .u8 (catN f n)) := by rw [rowN_putObj (fun e => hdg e.symm)]; exact HRR.out
    have hby := bytes_cutm (bytes_row HC3.out hrP Ln (by rw [HCL.out, HLN.out])) 0 L L (by rw [HCL.out]; omega) (Nat.le_refl _)
    rw [List.drop_zero, Nat.add_zero] at hby
    exact ⟨_, results_slot rfl rfl, _, rfl, hby, (fun _ _ e => by cases e), (fun j hj => by
      obtain ⟨o, sp, L', c', e⟩ := hj
      cases e
      exact hwg), HBL.out.grown (grownBy_putObj' _ _ _) HBL.out.size (fun r e => by cases e; exact hwd)⟩
  case stop =>
    rintro D k c V hD hk hx hK
    exact hx.elim
end Go.Proofs.YtjcdbjapadgdfaaDoor
