/- AES: the round keys; New. -/
import Derived.Great.FillDense
import Derived.Test.YtjcdbjapadgdfaaDoorAG
namespace Go.Proofs.YtjcdbjapadgdfaaDoor
open Go.RowKit

attribute [local go_sem] Oper.semAt_some
/-- The cells of a Cipher: its table, its round keys. -/
@[irreducible] def cphA (T K : List Nat) : Array Value := arr .u8 T ++ arr .u32 K
theorem cph_eq (T K : List Nat) : cphA T K = arr .u8 T ++ arr .u32 K := by unfold cphA; rfl
theorem cph_size {T K : List Nat} (ht : T.length = 512) (hk : K.length = 44) : (cphA T K).size = 556 := by rw [cph_eq, Array.size_append, arr_size, arr_size, ht, hk]
theorem cph_lo {T : List Nat} (ht : T.length = 512) (K : List Nat) {i : Nat} (hi : i < 512) : (cphA T K)[i]? = some (.int .u8 (T.getD i 0 : Nat)) := by
  rw [cph_eq, Array.getElem?_append, if_pos (by rw [arr_size, ht]; exact hi)]; exact arr_get .u8 T i (by omega)
theorem cph_hi {T : List Nat} (ht : T.length = 512) (K : List Nat) (i : Nat) : (cphA T K)[512 + i]? = (arr .u32 K)[i]? := by
  rw [cph_eq, Array.getElem?_append_right (by rw [arr_size, ht]; exact Nat.le_add_right _ _), arr_size, ht, Nat.add_sub_cancel_left]
def TB : List Nat := sb ++ ib
theorem TB_len : TB.length = 512 := by unfold TB; rw [List.length_append, sb_len, ib_len]
theorem tt_of {W : World} {g : Nat} {K : List Nat} (h : rowN W g = some (cphA TB K)) : TT g W := by
  refine ⟨⟨sb_256, rowN_lt h, fun i hi => ?_⟩, ⟨ib_256, rowN_lt h, fun i hi => ?_⟩⟩
  · rw [(rowN_cell h).1, Nat.zero_add, cph_lo TB_len K (by omega)]
    unfold TB tb
    rw [List.getD, List.getElem?_append_left (by rw [sb_len]; exact hi)]; rfl
  · rw [(rowN_cell h).1, cph_lo TB_len K (by omega)]
    unfold TB tb
    rw [List.getD, List.getElem?_append_right (by rw [sb_len]; omega), sb_len, Nat.add_sub_cancel_left]; rfl
theorem load_key {W : World} {g i : Nat} {T K : List Nat} (ht : T.length = 512) (hk : K.length = 44) (h : rowN W g = some (cphA T K)) (hi : i < 11) :
    (arLoad 72 (.pointer (some ⟨g, 512 + i * 4, none⟩))).run Tryd.prog W = .ok (.value (.agg (arr .u32 ((K.drop (i * 4)).take 4)))) W :=
  load_mid (n := 4) Tryd.underlying72 rfl (by kernel_rfl) h (by rw [arr_size, List.length_take, List.length_drop, hk]; omega) (fun j hj => by
    rw [Nat.add_assoc, cph_hi ht, arr_get?, arr_get?, List.getElem?_take, if_pos hj, List.getElem?_drop])
theorem key_set {T K ks : List Nat} {i : Nat} (ht : T.length = 512) (hs : ks.length = 4) :
    ((cphA T K).toList.take (512 + i * 4 + 0) ++ (arr .u32 ks).toList ++ (cphA T K).toList.drop (512 + i * 4 + 0 + (arr .u32 ks).toList.length)).toArray = cphA T (K.take (i * 4) ++ ks ++ K.drop (i * 4 + 4)) := by
  have hl : (arr .u32 ks).toList.length = 4 := by rw [Array.length_toList, arr_size, hs]
  have hT : (arr .u8 T).toList.length = 512 := by rw [Array.length_toList, arr_size, ht]
  rw [hl, cph_eq, cph_eq]
  apply Array.ext'
  simp only [Array.toList_append]
  rw [List.take_append, List.drop_append, hT, List.take_of_length_le (by omega), List.drop_eq_nil_of_le (by omega), List.nil_append,
    show 512 + i * 4 + 0 - 512 = i * 4 by omega, show 512 + i * 4 + 0 + 4 - 512 = i * 4 + 4 by omega, arr_toList, arr_toList, arr_toList, arr_toList]
  simp [List.map_take, List.map_drop]
theorem store_key {W : World} {g i : Nat} {T K ks : List Nat} (ht : T.length = 512) (hk : K.length = 44) (hs : ks.length = 4) (h : rowN W g = some (cphA T K)) (hi : i < 11) :
    (arStore 72 (.pointer (some ⟨g, 512 + i * 4, none⟩)) (.agg (arr .u32 ks))).run Tryd.prog W = .ok .skip (W.setRow g (cphA T (K.take (i * 4) ++ ks ++ K.drop (i * 4 + 4)))) := by
  obtain ⟨t', hg⟩ := rowN_some h
  obtain ⟨d, hd, hsz⟩ : ∃ d, Tryd.prog.info? 72 = some d ∧ d.size = 4 := by
    have h : (Tryd.prog.info? 72).map (·.size) = some 4 := by kernel_rfl
    cases e : Tryd.prog.info? 72 with
    | none => rw [e] at h; cases h
    | some d => exact ⟨d, rfl, by rw [e] at h; simpa using h⟩
  have hst := run_storeCells_at (P := Tryd.prog) g (512 + i * 4) t' (arr .u32 ks).toList 0 (cphA T K) W hg (by rw [Array.length_toList, arr_size, hs, cph_size ht hk]; omega) (arr_oneCell _ _)
  have hsize : (sizeOf 72).run Tryd.prog W = .ok 4 W := by simp [sizeOf, typeInfo, hd, hsz]
  rw [key_set ht hs] at hst
  have hcs : (arr .u32 ks).size = 4 := by rw [arr_size, hs]
  refine run_arStore_of ?_
  simp only [storeVar, Sem.run_bind, hsize, Result.andThen_ok, Value.cells, hcs, ne_eq, not_true_eq_false, if_false]
  exact hst

/-- The powers of x, in the first byte of a word. -/
def pw : Nat → Nat
  | 0 => 16777216
  | n + 1 => dblW (pw n)
theorem pw_lt : ∀ n, pw n < 4294967296
  | 0 => by decide
  | n + 1 => dblW_lt (pw_lt n)
/-- The next round key. -/
def nkL (p : Nat) (ks : List Nat) : List Nat :=
  let t := subW sb (mov1 (ks.getD 3 0)) ^^^ p
  let z0 := t ^^^ ks.getD 0 0
  let z1 := z0 ^^^ ks.getD 1 0
  let z2 := z1 ^^^ ks.getD 2 0
  [z0, z1, z2, z2 ^^^ ks.getD 3 0]
def rk (key : List Nat) : Nat → List Nat
  | 0 => key
  | n + 1 => nkL (pw n) (rk key n)
theorem nkL_w32 {p : Nat} {ks : List Nat} (hp : p < 4294967296) (h : W32 ks) : W32 (nkL p ks) := by
  have h0 := h.get 0
  have h1 := h.get 1
  have h2 := h.get 2
  have h3 := h.get 3
  have ht := xor32 (subW_lt sb_256 (mov1 (ks.getD 3 0))) hp
  have z0 := xor32 ht h0
  have z1 := xor32 z0 h1
  have z2 := xor32 z1 h2
  have z3 := xor32 z2 h3
  intro x hx
  simp only [nkL, List.mem_cons, List.not_mem_nil, or_false] at hx
  rcases hx with rfl | rfl | rfl | rfl <;> assumption
theorem rk_len {key : List Nat} (h : key.length = 4) : ∀ n, (rk key n).length = 4
  | 0 => h
  | _ + 1 => rfl
theorem rk_w32 {key : List Nat} (h : W32 key) : ∀ n, W32 (rk key n)
  | 0 => h
  | n + 1 => nkL_w32 (pw_lt n) (rk_w32 h n)
/-- The first n round keys. -/
def kf (key : List Nat) (n : Nat) : List Nat := (List.range n).flatMap (rk key)
theorem kf_succ (key : List Nat) (n : Nat) : kf key (n + 1) = kf key n ++ rk key n := by unfold kf; rw [List.range_succ, List.flatMap_append]; simp
theorem kf_len {key : List Nat} (h : key.length = 4) : ∀ n, (kf key n).length = n * 4
  | 0 => rfl
  | n + 1 => by rw [kf_succ, List.length_append, kf_len h n, rk_len h]; omega
def KS (key : List Nat) (n : Nat) : List Nat := kf key n ++ zr (44 - n * 4)
theorem KS_len {key : List Nat} (h : key.length = 4) {n : Nat} (hn : n ≤ 11) : (KS key n).length = 44 := by unfold KS; rw [List.length_append, kf_len h, zr_len]; omega
theorem KS_zero (key : List Nat) : KS key 0 = zr 44 := by unfold KS kf; simp
theorem KS_set {key : List Nat} (h : key.length = 4) {n : Nat} (hn : n < 11) : (KS key n).take (n * 4) ++ rk key n ++ (KS key n).drop (n * 4 + 4) = KS key (n + 1) := by
  unfold KS
  rw [List.take_append_of_le_length (by rw [kf_len h]; exact Nat.le_refl _), List.take_of_length_le (by rw [kf_len h]; exact Nat.le_refl _), List.drop_append, List.drop_eq_nil_of_le (by rw [kf_len h]; omega), List.nil_append, kf_len h, kf_succ, zr_eq, zr_eq, List.drop_replicate]
  congr 2
  omega
theorem kf_get {key : List Nat} (h : key.length = 4) : ∀ {n i : Nat}, i < n → ((kf key n).drop (i * 4)).take 4 = rk key i
  | n + 1, i, hi => by
    rw [kf_succ]
    by_cases e : i = n
    · subst e
      rw [List.drop_append, List.drop_eq_nil_of_le (by rw [kf_len h]; exact Nat.le_refl _), kf_len h, Nat.sub_self, List.nil_append, List.drop_zero, List.take_of_length_le (by rw [rk_len h]; exact Nat.le_refl _)]
    · rw [List.drop_append_of_le_length (by rw [kf_len h]; omega), List.take_append_of_le_length (by rw [List.length_drop, kf_len h]; omega)]
      exact kf_get h (by omega)
theorem KS_all (key : List Nat) : KS key 11 = kf key 11 := by unfold KS; rw [zr_eq]; simp

/-! Building a Cipher. -/
def cphNew (x : Value) : Sem Next := do pure (.value (← Instr.build 78 #[(0, x)]))
@[go_sem ↓] theorem execOp_build40 (ρ : Operand → Value) (dst : Option Tmp) (x : Operand) (ty : TypeId) (pos : String) (after : Array Edge) (guard : Option (Nat × Bool)) :
    execOp ρ { dst, op := .build 78 #[(0, x)], type := ty, pos, after, guard } = cphNew (ρ x) := by simp [execOp, cphNew]
theorem built40 : Tryd.prog.built 78 [(0, .agg (arr .u8 (sb ++ ib)))] = some (cphA TB (zr 44)) := by kernel_rfl
@[go_sem] theorem run_cphNew (W : World) : (cphNew (.agg (arr .u8 (sb ++ ib)))).run Tryd.prog W = .ok (.value (.agg (cphA TB (zr 44)))) W := by
  have hr := run_build (P := Tryd.prog) W 78 #[(0, .agg (arr .u8 (sb ++ ib)))] _ built40
  simp only [cphNew, Sem.run_bind, hr, Result.andThen_ok, Sem.run_pure]

def ExRel (key : List Nat) (g gk : Nat) (w : World) (p i : Value) (wr : World) : Prop :=
  ∃ k : Nat, k ≤ 10 ∧ i = .int .i64 ((k + 1 : Nat) : Int) ∧ p = .int .u32 (pw k : Nat) ∧ rowN wr g = some (cphA TB (KS key (k + 1))) ∧ rowN wr gk = some (arr .u32 (rk key k)) ∧ w.grownBy wr (some g)
theorem setRow_grown (w : World) (g : Nat) (cs : Array Value) : w.grownBy (w.setRow g cs) (some g) :=
  ⟨rfl, rfl, rfl, by simp [World.setRow], fun k hk hne => setRow_other w g k cs (fun e => hne (by rw [e]))⟩
theorem below_grown {w Y Z : World} {gk g : Nat} (h : Below gk Y Z) (hg : w.grownBy Y (some g)) (hgk : w.heap.size = gk) : w.grownBy Z (some g) :=
  ⟨h.os.trans hg.os, h.tape.trans hg.tape, h.output.trans hg.output, Nat.le_trans hg.size h.size, fun j hj hne => (h.block j (by omega)).trans (hg.block j hj hne)⟩
set_option maxRecDepth 100000 in
set_option maxHeartbeats 4000000 in
theorem expand_any (key : List Nat) (g : Nat) (hl : key.length = 4) (hw : W32 key) (w : World) (hrow : rowN w g = some (cphA TB (zr 44))) :
    Calls Tryd.prog 48 #[.pointer (some ⟨g, 0, none⟩), .agg (arr .u32 key)] w fun e w' => e = .returned (.tuple #[]) ∧ rowN w' g = some (cphA TB (KS key 11)) ∧ w.grownBy w' (some g) := by
  have HL := Lib.hid hl
  have HW := Lib.hid hw
  have hgl := rowN_lt hrow
  have sz4 : (arr .u32 key).size = 4 := by rw [arr_size, hl]
  obtain ⟨V, hV⟩ : ∃ V, w.alloc (.cells (arr .u32 key) 72) = V := ⟨_, rfl⟩
  have hbV : Below w.heap.size w V := by rw [← hV]; exact (Below.refl _ w).alloc (Nat.le_refl _) _
  have hrk : rowN V w.heap.size = some (arr .u32 key) := by rw [← hV, rowN_alloc, if_pos rfl]
  have hrV := keptW hbV hrow
  obtain ⟨gk, hgk⟩ : ∃ z, w.heap.size = z := ⟨_, rfl⟩
  have HGK := Lib.hid hgk
  rw [hgk] at hrk hgl
  have hgV : w.grownBy V (some g) := grown_of_below hbV _
  have hrkd : rowN V.drew gk = some (arr .u32 key) := hrk
  have hst0 : (arStore 72 (.pointer (some ⟨g, 512, none⟩)) (.agg (arr .u32 key))).run Tryd.prog V.drew = .ok .skip (V.drew.setRow g (cphA TB (KS key 1))) := by
    have h := store_key (W := V.drew) (g := g) (i := 0) (K := zr 44) TB_len (zr_len 44) hl hrV (by omega)
    rw [show (zr 44).take (0 * 4) ++ key ++ (zr 44).drop (0 * 4 + 4) = KS key 1 from by have h2 := KS_set hl (n := 0) (by omega); rw [KS_zero] at h2; exact h2] at h
    exact h
  have HI0 := Lib.hid (show ExRel key g gk w (.int .u32 16777216) (.int .i64 1) (V.drew.setRow g (cphA TB (KS key 1))) from
    ⟨0, by omega, rfl, rfl, row_new (show rowN V.drew g = some _ from hrV), row_other hrkd (by omega), grownBy_trans (grownBy_trans hgV (grown_of_below (Below.refl _ _).drew _)) (setRow_grown _ _ _)⟩)
  clear hl hw hrow hbV hgk hgV hrk hrV
  go_enter Tryd.func48, Tryd.ntmps48
  go_upto_region 1 with fail
  try rw [hV]
  try rw [HGK.out]
  clear hV
  refine wp_region_still_tail 5 (by kernel_rfl) (by kernel_rfl) ?_
  simp only [List.take_succ_cons, List.take_zero, List.drop_succ_cons, List.drop_zero]
  repeat still_step
  refine wpStill_nil ?_
  change wpList _ _ _ _ _ V.drew
  go_wp2_with fail
  obtain ⟨U, hU⟩ : ∃ U, V.drew.setRow g (cphA TB (KS key 1)) = U := ⟨_, rfl⟩
  rw [hU] at HI0 ⊢
  clear hst0 hU hrkd
  go_loopw [4, 5] (fun p i wr => ExRel key g gk w p i wr) (fun _ i _ => 11 - (intOf i).toNat)
  case atStart => exact HI0.out
  case round => as_aux_lemma =>
    clear HI0
    obtain ⟨k, hk, rfl, rfl, hr, hrk, hgr⟩ := hrel
    have HR := Lib.hid hr
    have HRK := Lib.hid hrk
    have HG := Lib.hid hgr
    by_cases hlt : k < 10
    · have hk4 : ((k + 1 : Nat) : Int) ≤ 10 := by omega
      have hkw := rk_w32 HW.out k
      have hkl := rk_len HL.out k
      have hp := pw_lt k
      have HNK := Lib.hid (show rk key (k + 1) = nkL (pw k) (rk key k) from rfl)
      have HPW := Lib.hid (show pw (k + 1) = dblW (pw k) from rfl)
      obtain ⟨ks, hks⟩ : ∃ z, rk key k = z := ⟨_, rfl⟩
      rw [hks] at HRK HNK hkw hkl
      obtain ⟨k0, k1, k2, k3, rfl⟩ : ∃ a b c d, ks = [a, b, c, d] := by
        match ks, hkl with
        | [a, b, c, d], _ => exact ⟨a, b, c, d, rfl⟩
      have l0 : k0 < 4294967296 := hkw _ (by simp)
      have l1 : k1 < 4294967296 := hkw _ (by simp)
      have l2 : k2 < 4294967296 := hkw _ (by simp)
      have l3 : k3 < 4294967296 := hkw _ (by simp)
      obtain ⟨p, hpp⟩ : ∃ z, pw k = z := ⟨_, rfl⟩
      rw [hpp] at hp HNK HPW ⊢
      have hm := mov1_lt l3
      have hsu := subW_lt sb_256 (mov1 k3)
      have HM := Lib.hid (fun W => mov1_any k3 l3 W)
      have HSU := Lib.hid (fun (W : World) (h : rowN W g = some (cphA TB (KS key (k + 1)))) => sub_any sb g (mov1 k3) hm W (tt_of h).1)
      have HD := Lib.hid (fun W => dbl_any p hp W)
      have HZL : rk key (k + 1) = [subW sb (mov1 k3) ^^^ p ^^^ k0, subW sb (mov1 k3) ^^^ p ^^^ k0 ^^^ k1, subW sb (mov1 k3) ^^^ p ^^^ k0 ^^^ k1 ^^^ k2, subW sb (mov1 k3) ^^^ p ^^^ k0 ^^^ k1 ^^^ k2 ^^^ k3] := by rw [HNK.out]; rfl
      obtain ⟨m, hmm⟩ : ∃ z, mov1 k3 = z := ⟨_, rfl⟩
      rw [hmm] at hm hsu HM HSU HZL
      obtain ⟨s, hss⟩ : ∃ z, subW sb m = z := ⟨_, rfl⟩
      rw [hss] at hsu HSU HZL
      have bt := bits_xor32 s p hsu hp
      have lt0 := xor32 hsu hp
      obtain ⟨t, htt⟩ : ∃ z, s ^^^ p = z := ⟨_, rfl⟩
      rw [htt] at bt lt0 HZL
      have q0 := bits_xor32 t k0 lt0 l0
      have y0 := xor32 lt0 l0
      obtain ⟨z0, hz0⟩ : ∃ z, t ^^^ k0 = z := ⟨_, rfl⟩
      rw [hz0] at q0 y0 HZL
      have q1 := bits_xor32 z0 k1 y0 l1
      have y1 := xor32 y0 l1
      obtain ⟨z1, hz1⟩ : ∃ z, z0 ^^^ k1 = z := ⟨_, rfl⟩
      rw [hz1] at q1 y1 HZL
      have q2 := bits_xor32 z1 k2 y1 l2
      have y2 := xor32 y1 l2
      obtain ⟨z2, hz2⟩ : ∃ z, z1 ^^^ k2 = z := ⟨_, rfl⟩
      rw [hz2] at q2 y2 HZL
      have q3 := bits_xor32 z2 k3 y2 l3
      obtain ⟨z3, hz3⟩ : ∃ z, z2 ^^^ k3 = z := ⟨_, rfl⟩
      rw [hz3] at q3 HZL
      have HZ := Lib.hid HZL
      obtain ⟨d, hdd⟩ : ∃ z, dblW p = z := ⟨_, rfl⟩
      rw [hdd] at HD HPW
      have Hc_0 := Lib.hid (show rowN wr.drew g = some (cphA TB (KS key (k + 1))) from hr)
      have Hk_0 := Lib.hid (show rowN wr.drew gk = some (arr .u32 [k0, k1, k2, k3]) from HRK.out)
      have HL_0 := Lib.hid (show Below wr.heap.size wr wr.drew from (Below.refl _ _).drew)
      clear hr hrk hgr hks hkw hkl hpp hp hmm hss htt hz0 hz1 hz2 hz3 HZL HNK hm hsu lt0 l0 l1 l2 l3 y0 y1 y2 hdd HRK HR
      go_upto_region 6 with fail
      refine wp_region_noPanic ?_
      refine wp_region_held_drew (S := fun W => rowN W g = some (cphA TB (KS key (k + 1))) ∧ rowN W gk = some (arr .u32 [k0, k1, k2, k3])) (by kernel_rfl) ⟨Hc_0.out, Hk_0.out⟩ (fun hHeld0 => ?_)
      obtain ⟨x0, hx0⟩ : ∃ X, wr.drew = X := ⟨_, rfl⟩
      rw [hx0] at Hc_0 Hk_0 HL_0 hHeld0 ⊢
      clear hx0
      refine wpAnyH_take (i := 0) (oi := { dst := some 17, op := Op.move (Operand.tmp 0), type := 51, pos := "aes.go:38", after := #[], guard := none }) (v := ?tk0) rfl (by kernel_rfl) (by kernel_rfl) (by kernel_rfl) (fun _ _ _ h => h) (Or.inl ⟨by rfl, ?tw0⟩) hHeld0 ?_
      case tw0 => (intro W hW; clear hW; first | (go_simp; done) | (go_simp; with_reducible rfl))
      try simp only [Act.put, List.setIfInBounds_toArray, List.set_cons_zero, List.set_cons_succ]
      refine wpAnyH_take (i := 1) (oi := { dst := some 18, op := Op.nilCheck (Operand.tmp 17), type := 0, pos := "aes.go:38", after := #[{ on := 0, ground := Ground.data }], guard := none }) (v := ?tk1) rfl (by kernel_rfl) (by kernel_rfl) (by kernel_rfl) (fun _ _ _ h => h) (Or.inl ⟨by rfl, ?tw1⟩) hHeld0 ?_
      case tw1 => (intro W hW; clear hW; first | (go_simp; done) | (go_simp; with_reducible rfl))
      try simp only [Act.put, List.setIfInBounds_toArray, List.set_cons_zero, List.set_cons_succ]
      refine wpAnyH_take (i := 2) (oi := { dst := some 19, op := Op.fieldAddr 78 (Operand.tmp 18) 0, type := 0, pos := "aes.go:38", after := #[{ on := 1, ground := Ground.data }], guard := none }) (v := ?tk2) rfl (by kernel_rfl) (by kernel_rfl) (by kernel_rfl) (fun _ _ _ h => h) (Or.inl ⟨by rfl, ?tw2⟩) hHeld0 ?_
      case tw2 => (intro W hW; clear hW; first | (go_simp; done) | (go_simp; with_reducible rfl))
      try simp only [Act.put, List.setIfInBounds_toArray, List.set_cons_zero, List.set_cons_succ]
      refine wpAnyH_take (i := 3) (oi := { dst := some 20, op := Op.indexAddr 72 (Operand.tmp 3) (Operand.const (Value.int IntKind.i64 3)), type := 0, pos := "aes.go:38", after := #[], guard := none }) (v := ?tk3) rfl (by kernel_rfl) (by kernel_rfl) (by kernel_rfl) (fun _ _ _ h => h) (Or.inl ⟨by rfl, ?tw3⟩) hHeld0 ?_
      case tw3 => (intro W hW; clear hW; first | (go_simp; done) | (go_simp; with_reducible rfl))
      try simp only [Act.put, List.setIfInBounds_toArray, List.set_cons_zero, List.set_cons_succ]
      refine wpAnyH_take (i := 4) (oi := { dst := some 21, op := Op.load 70 (Operand.tmp 20), type := 70, pos := "aes.go:38", after := #[{ on := 3, ground := Ground.data }], guard := none }) (v := .int .u32 (k3 : Nat)) rfl (by kernel_rfl) (by kernel_rfl) (by kernel_rfl) (fun _ _ _ h => h) (Or.inl ⟨by rfl, fun W hW => ?_⟩) hHeld0 ?_
      · (have hW1 := cell_arr hW.2 (show 3 < [k0, k1, k2, k3].length from by simp); clear hW; go_simp)
      try simp only [Act.put, List.setIfInBounds_toArray, List.set_cons_zero, List.set_cons_succ]
      refine wpAnyH_take (i := 7) (oi := { dst := some 24, op := Op.move (Operand.tmp 4), type := 70, pos := "aes.go:38", after := #[], guard := none }) (v := ?tk4) rfl (by kernel_rfl) (by kernel_rfl) (by kernel_rfl) (fun _ _ _ h => h) (Or.inl ⟨by rfl, ?tw4⟩) hHeld0 ?_
      case tw4 => (intro W hW; clear hW; first | (go_simp; done) | (go_simp; with_reducible rfl))
      try simp only [Act.put, List.setIfInBounds_toArray, List.set_cons_zero, List.set_cons_succ]
      refine wpAnyH_ready (rs := [5]) (by kernel_rfl) (by simp) ?_
      refine AllReadyH.cons (o := { dst := some 22, op := Op.call { callee := Callee.value (Operand.func 62), args := #[Operand.tmp 21, Operand.const (Value.int IntKind.i64 1)], argTypes := #[70, 3] }, type := 70, pos := "aes.go:38", after := #[{ on := 4, ground := Ground.data }], guard := none }) rfl (fun K' hK => ?_) AllReadyH.nil
      go_simp
      refine ((HM.out _)).mono ?_
      rintro e x1 ⟨rfl, hb⟩
      have Hc_1 := Lib.hid (keptW hb Hc_0.out)
      have Hk_1 := Lib.hid (keptW hb Hk_0.out)
      have HL_1 := Lib.hid (HL_0.out.trans (hb.mono HL_0.out.size))
      clear hb
      refine hK.out _ _ ⟨Hc_1.out, Hk_1.out⟩ (fun hHeld1 => ?_)
      clear hK K'
      try simp only [Act.put, List.setIfInBounds_toArray, List.set_cons_zero, List.set_cons_succ]
      refine wpAnyH_ready (rs := [6]) (by kernel_rfl) (by simp) ?_
      refine AllReadyH.cons (o := { dst := some 23, op := Op.call { callee := Callee.value (Operand.func 63), args := #[Operand.tmp 19, Operand.tmp 22], argTypes := #[75, 70] }, type := 70, pos := "aes.go:38", after := #[{ on := 2, ground := Ground.data }, { on := 5, ground := Ground.data }, { on := 5, ground := Ground.chain }], guard := none }) rfl (fun K' hK => ?_) AllReadyH.nil
      go_simp
      refine ((HSU.out _ Hc_1.out)).mono ?_
      rintro e x2 ⟨rfl, hb⟩
      have Hc_2 := Lib.hid (keptW hb Hc_1.out)
      have Hk_2 := Lib.hid (keptW hb Hk_1.out)
      have HL_2 := Lib.hid (HL_1.out.trans (hb.mono HL_1.out.size))
      clear hb
      refine hK.out _ _ ⟨Hc_2.out, Hk_2.out⟩ (fun hHeld2 => ?_)
      clear hK K'
      try simp only [Act.put, List.setIfInBounds_toArray, List.set_cons_zero, List.set_cons_succ]
      refine wpAnyH_take (i := 8) (oi := { dst := some 25, op := Op.binOp BinOp.xor 70 (Operand.tmp 23) (Operand.tmp 24) 70, type := 70, pos := "aes.go:38", after := #[{ on := 6, ground := Ground.data }, { on := 7, ground := Ground.data }], guard := none }) (v := ?tk5) rfl (by kernel_rfl) (by kernel_rfl) (by kernel_rfl) (fun _ _ _ h => h) (Or.inl ⟨by rfl, ?tw5⟩) hHeld2 ?_
      case tw5 => (intro W hW; clear hW; first | (go_simp; done) | (go_simp; with_reducible rfl))
      try simp only [Act.put, List.setIfInBounds_toArray, List.set_cons_zero, List.set_cons_succ]
      refine wpAnyH_take (i := 9) (oi := { dst := some 6, op := Op.assign (Operand.tmp 25), type := 70, pos := "aes.go:38", after := #[{ on := 8, ground := Ground.data }, { on := 6, ground := Ground.chain }, { on := 0, ground := Ground.phase }, { on := 1, ground := Ground.phase }, { on := 2, ground := Ground.phase }, { on := 3, ground := Ground.phase }, { on := 4, ground := Ground.phase }, { on := 5, ground := Ground.phase }, { on := 6, ground := Ground.phase }, { on := 7, ground := Ground.phase }, { on := 8, ground := Ground.phase }], guard := none }) (v := ?tk6) rfl (by kernel_rfl) (by kernel_rfl) (by kernel_rfl) (fun _ _ _ h => h) (Or.inl ⟨by rfl, ?tw6⟩) hHeld2 ?_
      case tw6 => (intro W hW; clear hW; first | (go_simp; done) | (go_simp; with_reducible rfl))
      try simp only [Act.put, List.setIfInBounds_toArray, List.set_cons_zero, List.set_cons_succ]
      refine wpAnyH_done (by kernel_rfl) ?_ _
      refine NoPanic.normal ?_
      obtain ⟨Y, hY⟩ : ∃ Y, Y = x2 := ⟨_, rfl⟩
      have HRC := Lib.hid (show rowN Y g = some (cphA TB (KS key (k + 1))) by rw [hY]; exact Hc_2.out)
      have HRY := Lib.hid (show rowN Y gk = some (arr .u32 [k0, k1, k2, k3]) by rw [hY]; exact Hk_2.out)
      have HGY := Lib.hid (show w.grownBy Y (some g) by rw [hY]; exact grownBy_trans HG.out (grown_of_below HL_2.out _))
      rw [← hY]
      clear hY hHeld2 Hc_2 Hk_2 HL_2 Hc_0 Hk_0 HL_0 HG
      have c0 := cell_arr HRY.out (show 0 < [k0, k1, k2, k3].length from by simp)
      have f0 := (rowN_cell HRY.out).2 0
      go_wp2_with fail
      refine wp_loop_rounds 6 ?_
      rw [rounds_succ]
      go_wp2_with fail
      obtain ⟨Y1, hY1⟩ : ∃ Z, Y.setCell ⟨gk, 0, none⟩ (.int .u32 (z0 : Nat)) = Z := ⟨_, rfl⟩
      have HR1 := Lib.hid (show rowN Y1 gk = some (arr .u32 [z0, k1, k2, k3]) by rw [← hY1]; exact row_arr HRY.out)
      have HC1 := Lib.hid (show rowN Y1 g = some (cphA TB (KS key (k + 1))) by rw [← hY1]; exact row_cell0 HRC.out (by omega))
      have HG1 := Lib.hid (show Below gk Y Y1 by rw [← hY1]; exact (Below.refl gk Y).setCell (p := ⟨gk, 0, none⟩) (Nat.le_refl _) _)
      rw [hY1]
      clear hY1 c0 f0
      have c1 := cell_arr HR1.out (show 1 < [z0, k1, k2, k3].length from by simp)
      have f1 := (rowN_cell HR1.out).2 1
      rw [rounds_succ]
      go_wp2_with fail
      obtain ⟨Y2, hY2⟩ : ∃ Z, Y1.setCell ⟨gk, 1, none⟩ (.int .u32 (z1 : Nat)) = Z := ⟨_, rfl⟩
      have HR2 := Lib.hid (show rowN Y2 gk = some (arr .u32 [z0, z1, k2, k3]) by rw [← hY2]; exact row_arr HR1.out)
      have HC2 := Lib.hid (show rowN Y2 g = some (cphA TB (KS key (k + 1))) by rw [← hY2]; exact row_cell0 HC1.out (by omega))
      have HG2 := Lib.hid (show Below gk Y Y2 by rw [← hY2]; exact HG1.out.setCell (p := ⟨gk, 1, none⟩) (Nat.le_refl _) _)
      rw [hY2]
      clear hY2 c1 f1
      have c2 := cell_arr HR2.out (show 2 < [z0, z1, k2, k3].length from by simp)
      have f2 := (rowN_cell HR2.out).2 2
      rw [rounds_succ]
      go_wp2_with fail
      obtain ⟨Y3, hY3⟩ : ∃ Z, Y2.setCell ⟨gk, 2, none⟩ (.int .u32 (z2 : Nat)) = Z := ⟨_, rfl⟩
      have HR3 := Lib.hid (show rowN Y3 gk = some (arr .u32 [z0, z1, z2, k3]) by rw [← hY3]; exact row_arr HR2.out)
      have HC3 := Lib.hid (show rowN Y3 g = some (cphA TB (KS key (k + 1))) by rw [← hY3]; exact row_cell0 HC2.out (by omega))
      have HG3 := Lib.hid (show Below gk Y Y3 by rw [← hY3]; exact HG2.out.setCell (p := ⟨gk, 2, none⟩) (Nat.le_refl _) _)
      rw [hY3]
      clear hY3 c2 f2
      have c3 := cell_arr HR3.out (show 3 < [z0, z1, z2, k3].length from by simp)
      have f3 := (rowN_cell HR3.out).2 3
      rw [rounds_succ]
      go_wp2_with fail
      obtain ⟨Y4, hY4⟩ : ∃ Z, Y3.setCell ⟨gk, 3, none⟩ (.int .u32 (z3 : Nat)) = Z := ⟨_, rfl⟩
      have HR4 := Lib.hid (show rowN Y4 gk = some (arr .u32 [z0, z1, z2, z3]) by rw [← hY4]; exact row_arr HR3.out)
      have HC4 := Lib.hid (show rowN Y4 g = some (cphA TB (KS key (k + 1))) by rw [← hY4]; exact row_cell0 HC3.out (by omega))
      have HG4 := Lib.hid (show Below gk Y Y4 by rw [← hY4]; exact HG3.out.setCell (p := ⟨gk, 3, none⟩) (Nat.le_refl _) _)
      rw [hY4]
      clear hY4 c3 f3
      rw [rounds_succ]
      have szk : (arr .u32 [z0, z1, z2, z3]).size = 4 := by rw [arr_size]; rfl
      have hrk4 : rowN Y4.drew gk = some (arr .u32 [z0, z1, z2, z3]) := HR4.out
      have hst : (arStore 72 (.pointer (some ⟨g, 512 + (k + 1) * 4, none⟩)) (.agg (arr .u32 [z0, z1, z2, z3]))).run Tryd.prog Y4.drew = .ok .skip (Y4.drew.setRow g (cphA TB (KS key (k + 1 + 1)))) := by
        have h := store_key (W := Y4.drew) (g := g) (i := k + 1) TB_len (KS_len HL.out (by omega)) (ks := [z0, z1, z2, z3]) rfl HC4.out (by omega)
        rw [← HZ.out, KS_set HL.out (by omega), HZ.out] at h
        exact h
      have hi11 : ((k : Nat) : Int) + 1 < 11 := by omega
      have hi0 : (0 : Int) ≤ ((k : Nat) : Int) + 1 := by omega
      have hi1 : (((k : Nat) : Int) + 1).toNat = k + 1 := by omega
      have hi2 : IntKind.i64.wrap (((k : Nat) : Int) + 1) = ((k : Nat) : Int) + 1 := IntWalk.i64_in _ (by omega)
      go_upto_region 13 with fail
      refine wp_region_still_tail 6 (by kernel_rfl) (by kernel_rfl) ?_
      simp only [List.take_succ_cons, List.take_zero, List.drop_succ_cons, List.drop_zero]
      repeat still_step
      refine wpStill_nil ?_
      change wpList _ _ _ _ _ Y4.drew
      go_wp2_with fail
      refine (HD.out _).mono ?_
      rintro e Z ⟨rfl, hbz⟩
      have h1 := row_new (ds := cphA TB (KS key (k + 1 + 1))) (show rowN Y4.drew g = some _ from HC4.out)
      have h2 := row_other (c := g) (ds := cphA TB (KS key (k + 1 + 1))) hrk4 (by omega)
      have HZ1 := Lib.hid (keptW hbz h1)
      have HZ2 := Lib.hid (show rowN Z gk = some (arr .u32 (rk key (k + 1))) by rw [HZ.out]; exact keptW hbz h2)
      have HZ3 := Lib.hid (show w.grownBy Z (some g) from grownBy_trans (grownBy_trans (grownBy_trans (below_grown HG4.out HGY.out HGK.out) (grown_of_below (Below.refl _ _).drew _)) (setRow_grown _ _ _)) (grown_of_below hbz _))
      clear hbz h1 h2 hst hrk4
      go_wp2_with fail
      refine ⟨⟨k + 1, by omega, by go_num, by rw [HPW.out], HZ1.out, HZ2.out, HZ3.out⟩, by simp [intOf]; omega⟩
    · obtain rfl : k = 10 := by omega
      have HR2 := Lib.hid hr
      clear hr hgr hrk
      go_wp2_with fail
      go_end0
      exact ⟨rfl, HR2.out, HG.out⟩
set_option maxRecDepth 100000 in
theorem new_len (zs : List Nat) (s : Value) (hl : zs.length ≠ 16) (w : World) (hB : BytesAt zs s w) : Calls Tryd.prog 34 #[s] w fun e w' => e = .returned (.tuple #[.pointer none, .int .i64 2]) ∧ Below w.heap.size w w' := by
  obtain ⟨_, a, c, rfl, _, _⟩ := hB
  obtain ⟨L, hL⟩ : ∃ L, zs.length = L := ⟨_, rfl⟩
  rw [hL] at hl ⊢
  have hi : ¬ ((L : Nat) : Int) = 16 := by omega
  clear hL
  go_enter Tryd.func34, Tryd.ntmps34
  go_wp2_with fail
  go_ret2
  exact ⟨rfl, Below.refl _ _⟩
/-- A Cipher with a key. -/
def CphAt (key : List Nat) (g : Nat) (W : World) : Prop := rowN W g = some (cphA TB (KS (wordsL key) 11))
theorem wordsL_len (zs : List Nat) : (wordsL zs).length = 4 := rfl
theorem wd_lt : ∀ {l : List Nat}, (∀ x ∈ l, x < 256) → l.length ≤ 4 → wdF l < 4294967296
  | [], _, _ => by decide
  | [a], h, _ => by have := h a (by simp); simp [wdF]; omega
  | [a, b], h, _ => by have := h a (by simp); have := h b (by simp); simp [wdF]; omega
  | [a, b, c], h, _ => by have := h a (by simp); have := h b (by simp); have := h c (by simp); simp [wdF]; omega
  | [a, b, c, d], h, _ => by have := h a (by simp); have := h b (by simp); have := h c (by simp); have := h d (by simp); simp [wdF]; omega
theorem wordsL_w32 {zs : List Nat} (h : ∀ x ∈ zs, x < 256) : W32 (wordsL zs) := by
  intro x hx
  have hm : ∀ n, ∀ y ∈ ((zs.take 16).drop n).take 4, y < 256 := fun n y hy => h y (List.mem_of_mem_take (List.mem_of_mem_drop (List.mem_of_mem_take hy)))
  have hl : ∀ n, (((zs.take 16).drop n).take 4).length ≤ 4 := fun n => by rw [List.length_take]; omega
  simp only [wordsL, blK, List.mem_cons, List.not_mem_nil, or_false] at hx
  rcases hx with rfl | rfl | rfl | rfl
  · exact wd_lt (fun y hy => h y (List.mem_of_mem_take (List.mem_of_mem_take hy))) (by rw [List.length_take]; omega)
  · exact wd_lt (hm 4) (hl 4)
  · exact wd_lt (hm 8) (hl 8)
  · exact wd_lt (hm 12) (hl 12)
set_option maxRecDepth 100000 in
set_option maxHeartbeats 1000000 in
theorem new_any (zs : List Nat) (s : Value) (hl : zs.length = 16) (w : World) (hB : BytesAt zs s w) : Calls Tryd.prog 34 #[s] w fun e w' => ∃ g, e = .returned (.tuple #[.pointer (some ⟨g, 0, none⟩), .int .i64 0]) ∧ w.heap.size ≤ g ∧ CphAt zs g w' ∧ Below w.heap.size w w' := by
  have HBO := Lib.hid (fun (W : World) (hb : Below w.heap.size w W) => blockOf_any zs s hl W (hB.kept hb))
  have HEX := Lib.hid (fun (g : Nat) (W : World) (h : rowN W g = some (cphA TB (zr 44))) => expand_any (wordsL zs) g rfl (wordsL_w32 hB.1) W h)
  obtain ⟨_, a, c, rfl, _, _⟩ := hB
  rw [hl] at HBO ⊢
  have szc : (cphA TB (zr 44)).size = 556 := cph_size TB_len (zr_len 44)
  have HNT := Lib.hid (newTable_any w)
  clear hl
  go_enter Tryd.func34, Tryd.ntmps34
  go_wp2_with fail
  refine HNT.out.mono ?_
  rintro e w1 ⟨rfl, hb1⟩
  have HB1 := Lib.hid hb1
  clear hb1 HNT
  go_wp2_with fail
  obtain ⟨V, hV⟩ : ∃ V, w1.alloc (.cells (cphA TB (zr 44)) 78) = V := ⟨_, rfl⟩
  have hbV : Below w1.heap.size w1 V := by rw [← hV]; exact (Below.refl _ w1).alloc (Nat.le_refl _) _
  have hrV : rowN V w1.heap.size = some (cphA TB (zr 44)) := by rw [← hV, rowN_alloc, if_pos rfl]
  have HBV := Lib.hid (bthen HB1.out hbV)
  rw [hV]
  obtain ⟨g, hg⟩ : ∃ g, w1.heap.size = g := ⟨_, rfl⟩
  have HGE := Lib.hid (show w.heap.size ≤ g by rw [← hg]; exact HB1.out.size)
  rw [hg] at hrV ⊢
  have HRV := Lib.hid hrV
  clear hV hbV hrV hg HB1
  refine (HBO.out _ HBV.out).mono ?_
  rintro e w2 ⟨rfl, hb2⟩
  have HB2 := Lib.hid (bthen HBV.out hb2)
  have HR2 := Lib.hid (keptW hb2 HRV.out)
  clear hb2 HBV HRV HBO
  go_wp2_with fail
  refine (HEX.out _ _ HR2.out).mono ?_
  rintro e w3 ⟨rfl, hr3, hg3⟩
  have HR3 := Lib.hid hr3
  have HB3 := Lib.hid (HB2.out.grown hg3 HB2.out.size (fun r e => by cases e; exact HGE.out))
  clear hr3 hg3 HR2 HB2 HEX
  go_wp2_with fail
  go_ret2
  exact ⟨g, rfl, HGE.out, HR3.out, HB3.out⟩
end Go.Proofs.YtjcdbjapadgdfaaDoor
