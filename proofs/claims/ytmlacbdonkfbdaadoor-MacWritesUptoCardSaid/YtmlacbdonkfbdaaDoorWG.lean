/- package mac: HMAC. -/
import Derived.Test.YtmlacbdonkfbdaaDoorTL
import Derived.Test.YtmlacbdonkfbdaaDoorWF
namespace Go.Proofs.YtmlacbdonkfbdaaDoor
open Go.RowKit Go.Shelf

theorem catL_take_le (ls : List (List Nat)) (k : Nat) : (catL (ls.take k)).length ≤ (catL ls).length := by
  unfold catL
  have h := congrArg (fun l : List (List Nat) => l.flatten.length) (List.take_append_drop k ls)
  simp only [List.flatten_append, List.length_append] at h
  omega
set_option maxRecDepth 100000 in
theorem hmac_big (key : List Nat) (s v : Value) (hl : 4096 < key.length) (w : World) (hB : BytesAt key s w) :
    Calls Tryd.prog 10 #[s, v] w fun e w' => e = .returned (.tuple #[.agg (arr .u8 z32), .int .i64 2]) ∧ Below w.heap.size w w' := by
  have hz32 := z32_lit
  have hzl : z32.length = 32 := rfl
  have sz4 : (arr .u8 z32).size = 32 := by rw [arr_size]; rfl
  have HA := Lib.hid ((Below.refl w.heap.size w).alloc (Nat.le_refl _) (.cells (arr .u8 z32) 27))
  have HR0 := Lib.hid (show rowN (w.alloc (.cells (arr .u8 z32) 27)) w.heap.size = some (arr .u8 z32) by rw [rowN_alloc, if_pos rfl])
  have HN := Lib.hid (new_big key s hl _ (hB.kept HA.out))
  clear hB
  go_enter Tryd.func10, Tryd.ntmps10
  go_wp2_with fail
  refine HN.out.mono ?_
  rintro e w2 ⟨rfl, hb⟩
  have hr2 := keptW hb HR0.out
  have HB := Lib.hid (HA.out.trans (hb.mono HA.out.size))
  clear hb HN
  go_wp2_with fail
  exact ret_arr2 _ _ rfl rfl rfl rfl (row_new hr2) sz4 ⟨rfl, below_setRow' HB.out (Nat.le_refl _) _⟩

def HmRel (key : List Nat) (ls : List (List Nat)) (N g : Nat) (w : World) (i : Value) (wr : World) : Prop :=
  ∃ k : Nat, k ≤ N ∧ i = .int .i64 (k : Nat) ∧ MacAt key (catL (ls.take k)) g wr ∧ rowN wr w.heap.size = some (arr .u8 z32) ∧ Below w.heap.size w wr
set_option maxRecDepth 100000 in
set_option maxHeartbeats 1000000 in
theorem hmac_any (key : List Nat) (ls : List (List Nat)) (s v : Value) (hl : key.length ≤ 4096) (hL : (catL ls).length ≤ 140737488355264) (hN6 : ls.length ≤ 1000000) (w : World) (hK : KG w) (hB : BytesAt key s w) (hnil : Nil0 s) (hLs : ListAt ls v w) :
    Calls Tryd.prog 10 #[s, v] w fun e w' => e = .returned (.tuple #[.agg (arr .u8 (macL key (catL ls))), .int .i64 0]) ∧ Below w.heap.size w w' := by
  have hz32 := z32_lit
  have hzl : z32.length = 32 := rfl
  have sz4 : (arr .u8 z32).size = 32 := by rw [arr_size]; rfl
  have HA := Lib.hid ((Below.refl w.heap.size w).alloc (Nat.le_refl _) (.cells (arr .u8 z32) 27))
  have HR0 := Lib.hid (show rowN (w.alloc (.cells (arr .u8 z32) 27)) w.heap.size = some (arr .u8 z32) by rw [rowN_alloc, if_pos rfl])
  have HN := Lib.hid (new_any key s hl _ (hK.kept HA.out) (hB.kept HA.out) hnil)
  have H256 := Lib.hid hB.1
  have HK := Lib.hid hK
  have HLT := Lib.hid hL
  obtain ⟨a, c, rfl, hcell⟩ := hLs
  obtain ⟨N, hN⟩ : ∃ N, ls.length = N := ⟨_, rfl⟩
  have HNN := Lib.hid hN
  have hO32 : (macL key (catL ls)).length = 32 := shaL_len _
  have HSUM := Lib.hid (fun (g : Nat) (W : World) (h1 : MacAt key (catL ls) g W) (h2 : KG W) => msum_at key (catL ls) g hB.1 W h1 hL h2)
  obtain ⟨O, hO⟩ : ∃ O, macL key (catL ls) = O := ⟨_, rfl⟩
  rw [hO] at hO32 HSUM ⊢
  have sz2 : (arr .u8 O).size = 32 := by rw [arr_size, hO32]
  rw [hN] at hcell hN6 ⊢
  have HCELL := Lib.hid hcell
  clear hcell hK hB hnil hL hl hN hO
  go_enter Tryd.func10, Tryd.ntmps10
  go_wp2_with fail
  refine HN.out.mono ?_
  rintro e w1 ⟨g, rfl, hg, hm, hb⟩
  have hga : w.heap.size < g := by have h := hg; simp at h; omega
  have HI0 := Lib.hid (show HmRel key ls N g w (.int .i64 0) w1 from ⟨0, by omega, rfl, hm, keptW hb HR0.out, HA.out.trans (hb.mono HA.out.size)⟩)
  clear hm hb HN hg HA HR0
  go_wp2_with fail
  go_loopw [21] (fun i wr => HmRel key ls N g w i wr) (fun i _ => N - (intOf i).toNat)
  case atStart => exact HI0.out
  case round =>
    clear HI0
    obtain ⟨k, hk, rfl, hm, hr, hB⟩ := hrel
    by_cases hlt : k < N
    · obtain ⟨b0, off0, rfl, hb0, hcells⟩ : ∃ b off, a = some ⟨b, off, none⟩ ∧ b < w.heap.size ∧ ∀ i, i < N → ∃ s, w.cell? ⟨b, off + i, none⟩ = some s ∧ BytesAt (ls.getD i []) s w ∧ Nil0 s := by
        rcases HCELL.out with h | h
        · omega
        · exact h
      obtain ⟨sk, hsc, hsb, hsn⟩ := hcells k hlt
      have hsc1 : wr.cell? ⟨b0, off0 + k, none⟩ = some sk := (hB.cell (p := ⟨b0, off0 + k, none⟩) hb0).trans hsc
      have hcat := catL_succ ls k (by rw [HNN.out]; exact hlt)
      have hle := catL_take_le ls (k + 1)
      rw [hcat, List.length_append] at hle
      have HW := Lib.hid (mwrite_at key (catL (ls.take k)) (ls.getD k []) g sk H256.out wr hm (by have := HLT.out; omega) (HK.out.kept hB) (by have := HK.out.1; omega) (hsb.kept hB) (fun j h0 hj => by have := hsb.lt h0 hj; omega))
      rw [← hcat] at HW
      have HR := Lib.hid hr
      have HB := Lib.hid hB
      have hkN : ((k : Nat) : Int) < ((N : Nat) : Int) := by omega
      clear hm hr hB hcells hsc hsb hsn hcat hle
      go_wp2_with fail
      refine HW.out.mono ?_
      rintro e w2 ⟨rfl, hm2, hg2⟩
      have HE := Lib.hid (show HmRel key ls N g w (.int .i64 ((k + 1 : Nat) : Int)) w2 from ⟨k + 1, hlt, rfl, hm2, by
        rw [grownBy_rowN hg2 (rowN_lt HR.out) (fun e => by have := Option.some.inj e; omega)]; exact HR.out, HB.out.grown hg2 HB.out.size (fun r e => by cases e; omega)⟩)
      clear hm2 hg2 HW HR HB hsc1
      go_wp2_with fail
      first | exact ⟨HE.out, by simp [intOf]; omega⟩ | exact ⟨by have h := HE.out; rw [show ((k + 1 : Nat) : Int) = (k : Int) + 1 by omega] at h; exact h, by simp [intOf]; omega⟩
    · obtain rfl : N = k := by omega
      have hkN : ¬ ((N : Nat) : Int) < ((N : Nat) : Int) := by omega
      rw [List.take_of_length_le (by rw [HNN.out]; omega)] at hm
      have HS := Lib.hid (HSUM.out g wr hm (HK.out.kept hB))
      have HR := Lib.hid hr
      have HB := Lib.hid hB
      clear hm hr hB
      go_wp2_with fail
      refine HS.out.mono ?_
      rintro e w2 ⟨rfl, hb⟩
      have hr2 := keptW hb HR.out
      have HB2 := Lib.hid (HB.out.trans (hb.mono HB.out.size))
      clear hb HS HR HB
      go_wp2_with fail
      exact ret_arr2 _ _ rfl rfl rfl rfl (row_new hr2) sz2 ⟨rfl, below_setRow' HB2.out (Nat.le_refl _) _⟩
end Go.Proofs.YtmlacbdonkfbdaaDoor
