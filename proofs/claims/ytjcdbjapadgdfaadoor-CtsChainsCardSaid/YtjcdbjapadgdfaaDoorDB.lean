/- The reference of layer 7: Chain. -/
import Derived.Test.YtjcdbjapadgdfaaDoorDA
namespace Go.Proofs.YtjcdbjapadgdfaaDoor
open Go.RowKit Go.Shelf

attribute [local go_sem] Oper.semAt_some
theorem run_slice22_lh (b off L c l h : Nat) (hl : l < h) (hh : h ≤ c) (W : World) :
    (Instr.sliceAt 22 (.slice (some ⟨b, off, none⟩) L c) (some (.int .i64 (l : Nat))) (some (.int .i64 (h : Nat))) none).run Tryd.prog W = .ok (.slice (some ⟨b, off + l, none⟩) (h - l) (c - l)) W := by
  have e1 : ((h : Nat) : Int).toNat = h := Int.toNat_natCast h
  have e2 : ((l : Nat) : Int).toNat = l := Int.toNat_natCast l
  have e5 : ¬ c = l := by omega
  have e6 : ((l : Nat) : Int) ≤ (h : Int) := by omega
  have e7 : (0 : Int) ≤ (l : Int) := by omega
  have e8 : max ((l : Nat) : Int) 0 = l := by omega
  have e9 : ((h : Nat) : Int) ≤ (c : Int) := by omega
  have e10 : (0 : Int) ≤ (h : Int) := by omega
  have e11 : max ((h : Nat) : Int) 0 = h := by omega
  go_simp
theorem xorL_comm (a b : List Nat) : xorL a b = xorL b a := by
  unfold xorL; rw [List.zipWith_comm]; congr 1; funext x y; exact Nat.xor_comm _ _
def RcI (key iv p : List Nat) (n base : Nat) (w : World) (v o i : Value) (wr : World) : Prop :=
  ∃ k q : Nat, k ≤ n ∧ 16 * k = q ∧ i = .int .i64 (q : Nat) ∧ BytesAt (chS key iv (blkB p) k) v wr ∧ wr.ownsRow base 5 1 o q (cl (catN (fun k => chS key iv (blkB p) (k + 1)) k)) ∧ Below base w wr
set_option maxRecDepth 100000 in
set_option maxHeartbeats 800000 in
theorem rchain_any (key iv p : List Nat) (sk sv sp : Value) (n : Nat) (hk : key.length = 16) (hi : iv.length = 16) (hp : p.length = 16 * n) (hn : n ≤ 1000) (w : World) (hG : SG w) (hK : BytesAt key sk w) (hV : BytesAt iv sv w) (hP : BytesAt p sp w) :
    Calls Tryd.prog 10 #[sk, sv, sp] w fun e w' => ∃ s', e = .returned s' ∧ BytesAt (catN (fun k => chS key iv (blkB p) (k + 1)) n) s' w' ∧ Nil0 s' ∧ (∀ j, InS s' j → w.heap.size ≤ j) ∧ Below w.heap.size w w' := by
  have HW := Lib.hid (rwords_any key sk hk w hG hK (nil0_of hK (by omega)))
  have HLW := Lib.hid (fun k => chS_lw (key := key) (iv := iv) (p := blkB p) hK.1 hi hV.1 k (fun q _ => blkB_256 hP.1 q))
  have HX := Lib.hid (fun (k : Nat) (v s : Value) (W : World) (h : k < n) (hs : BytesAt (blkB p k) s W) (hv : BytesAt (chS key iv (blkB p) k) v W) => rxor_any (blkB p k) (chS key iv (blkB p) k) s v (blkB_len (by rw [hp]; omega)) (HLW.out k).1 W hs hv)
  have HE := Lib.hid (fun (k : Nat) (v s : Value) (W : World) (h : k < n) (hG : SG W) (hs : BytesAt (FL (wordsL key)) s W) (hv : BytesAt (xorL (chS key iv (blkB p) k) (blkB p k)) v W) => renc16 key (xorL (chS key iv (blkB p) k) (blkB p k)) s v hK.1 (xor_len (HLW.out k).1 (blkB_len (by rw [hp]; omega))) W hG hs hv)
  have HG := Lib.hid hG
  have HV := Lib.hid hV
  have HP := Lib.hid hP
  have HI := Lib.hid hi
  have hCN := catN_len (f := fun k => chS key iv (blkB p) (k + 1)) n (fun k _ => (HLW.out (k + 1)).1)
  have HC2 := Lib.hid (catN_256 (f := fun k => chS key iv (blkB p) (k + 1)) n (fun k _ => (HLW.out (k + 1)).2))
  have HCN := Lib.hid hCN
  have HCK := Lib.hid (fun k (h : k ≤ n) => catN_len (f := fun k => chS key iv (blkB p) (k + 1)) k (fun q _ => (HLW.out (q + 1)).1))
  have HSU := Lib.hid (fun k => show catN (fun k => chS key iv (blkB p) (k + 1)) (k + 1) = catN (fun k => chS key iv (blkB p) (k + 1)) k ++ aE key (xorL (chS key iv (blkB p) k) (blkB p k)) from rfl)
  have HS1 := Lib.hid (fun k => show chS key iv (blkB p) (k + 1) = aE key (xorL (chS key iv (blkB p) k) (blkB p k)) from rfl)
  obtain ⟨a, cp, rfl, hcp⟩ : ∃ a cp, sp = .slice a p.length cp ∧ p.length ≤ cp := by obtain ⟨_, a, c, e, h, _⟩ := hP; exact ⟨a, c, e, h⟩
  obtain ⟨L, hL⟩ : ∃ L, p.length = L := ⟨_, rfl⟩
  have HL := Lib.hid hL
  rw [hL] at HP hp hcp ⊢
  clear hG hK hV hP hi hCN hL hk
  go_enter Tryd.func10, Tryd.ntmps10
  go_wp2_with fail
  refine HW.out.mono ?_
  rintro e w1 ⟨sw, rfl, hsw, _, _, hw1⟩
  have HSW := Lib.hid hsw
  have HW1 := Lib.hid hw1
  have HI0 := Lib.hid (show RcI key iv p n w1.heap.size w1 sv (.slice none 0 0) (.int .i64 0) w1 from ⟨0, 0, by omega, rfl, rfl, HV.out.kept hw1, World.ownsRow_nil _ _ _ _, Below.refl _ _⟩)
  clear hsw hw1 HW
  go_wp2_with fail
  go_loopw [8, 9, 10] (fun v o i wr => RcI key iv p n w1.heap.size w1 v o i wr) (fun _ _ i _ => L + 16 - (intOf i).toNat)
  case atStart => exact HI0.out
  case round =>
    clear HI0
    obtain ⟨k, q, hkn, hq, rfl, hv, ho, hb⟩ := hrel
    have HB := Lib.hid hb
    have HO := Lib.hid ho
    have i1 : IntKind.i64.wrap (((q : Nat) : Int) + 16) = ((q : Nat) : Int) + 16 := IntWalk.i64_in _ (by omega)
    by_cases hlt : k < n
    · have j1 : ((q : Nat) : Int) + 16 ≤ ((L : Nat) : Int) := by omega
      obtain ⟨b, off, ha⟩ : ∃ b off, a = some ⟨b, off, none⟩ := by
        obtain ⟨b, o, c, e, _, _⟩ := HP.out.cells (by rw [HL.out]; omega)
        cases e
        exact ⟨b, o, rfl⟩
      subst ha
      have hs := fun W => run_slice22_lh b off L cp q (q + 16) (by omega) (by omega) W
      rw [show ((q + 16 : Nat) : Int) = ((q : Nat) : Int) + 16 by omega, Nat.add_sub_cancel_left] at hs
      have hblk : BytesAt (blkB p k) (.slice (some ⟨b, off + q, none⟩) 16 (cp - q)) wr := by
        have := bytes_cutm ((HP.out.kept HW1.out).kept hb) q 16 (cp - q) (by rw [HL.out]; omega) (by omega)
        rw [← hq] at this ⊢
        exact this
      have HXK := Lib.hid (HX.out k _ _ wr hlt hblk hv)
      rw [xorL_comm] at HXK
      obtain ⟨bv, ov, cv, rfl, _⟩ := bytes_shape hv (HLW.out k).1 (by omega)
      have HGW := Lib.hid ((HG.out.kept HW1.out).kept hb)
      have HSK := Lib.hid (HSW.out.kept hb)
      have hwb := hb.size
      clear hv ho hb hblk
      go_wp2_with fail
      refine HXK.out.mono ?_
      rintro e w2 ⟨s2, rfl, hb2, _, hw2⟩
      have HE2 := Lib.hid (HE.out k s2 sw w2 hlt (HGW.out.kept hw2) (HSK.out.kept hw2) hb2)
      have HW2 := Lib.hid hw2
      clear hb2 hw2 HXK
      go_wp2_with fail
      refine HE2.out.mono ?_
      rintro e w3 ⟨s3, rfl, hb3, hn3, hw3⟩
      have HB3 := Lib.hid hb3
      have HN3 := Lib.hid hn3
      have HW3 := Lib.hid (show Below wr.heap.size wr w3 from bthen HW2.out hw3)
      have ho3 := HO.out.kept (grown_none HW3.out) (by
        rcases (owns_slice HO.out) with ⟨x, c, rfl⟩
        cases x with
        | none => exact .inl rfl
        | some x => exact .inr (by simp [Value.ownBlock]))
      have hck := HCK.out k hkn
      rw [hq] at hck
      rw [← hck] at ho3
      have HO3 := Lib.hid ho3
      have HBW := Lib.hid (show Below w1.heap.size w1 w3 from bthen HB.out HW3.out)
      have hw3s := HW3.out.size
      have hn2 := HW2.out.size
      clear hb3 hn3 hw3 HE2 ho3
      go_wp2_with (at_builtin; refine wpList_app rfl _ _ rfl w1.heap.size rfl rfl HO3.out HB3.out HN3.out.1 (by rw [hck]; have := (HLW.out (k + 1)).1; rw [HS1.out] at this; omega) (by omega) ?_; intro v' w' hown' hgrow')
      have hlo := HO3.out.lt
      have hnb := HN3.out.2
      have hbl := below_owned HBW.out HO3.out hgrow' (by omega)
      have hlen : (catN (fun k => chS key iv (blkB p) (k + 1)) k ++ aE key (xorL (chS key iv (blkB p) k) (blkB p k))).length = q + 16 := by
        have := (HLW.out (k + 1)).1
        rw [HS1.out] at this
        rw [List.length_append, hck, this]
      rw [hlen, ← HSU.out] at hown'
      have hv' : BytesAt (chS key iv (blkB p) (k + 1)) s3 w' := by
        rw [HS1.out]
        refine HB3.out.keeps (Keeps.of_grownBy (M := fun j => j < w2.heap.size) hgrow' (fun r e => ?_)) (fun j _ hj h => ?_)
        · exact Nat.lt_of_lt_of_le (HO.out.lt r e).2 hn2
        · have := hnb j hj; omega
      exact ⟨⟨k + 1, q + 16, by omega, by omega, by go_num, hv', hown', hbl⟩, by simp [intOf]; omega⟩
    · have hkn' : k = n := by omega
      subst hkn'
      have j1 : ¬ ((q : Nat) : Int) + 16 ≤ ((L : Nat) : Int) := by omega
      have ho2 := ho
      rw [← hq, ← HCN.out] at ho2
      have HOB := Lib.hid (owns_both HC2.out ho2)
      have HON := Lib.hid (owns_nil0 ho2)
      have HB1 := Lib.hid (HW1.out.trans (hb.mono HW1.out.size))
      clear hv ho hb ho2
      go_wp2_with fail
      go_ret
      exact ⟨_, rfl, HOB.out.1, HON.out, fun j hj => Nat.le_trans HW1.out.size (HOB.out.2 j hj), HB1.out⟩
end Go.Proofs.YtjcdbjapadgdfaaDoor
