/- package mac: key blocks' methods. -/
import Derived.Test.YtmlacbdonkfbdaaDoorWC
import Derived.Test.YtmlacbdonkfbdaaDoorVF
namespace Go.Proofs.YtmlacbdonkfbdaaDoor
open Go.RowKit Go.Shelf

theorem kbA_low {a b : List Nat} (ha : a.length = 64) (i : Nat) (hi : i < 64) : (kbA a b)[0 + i]? = (arr .u8 a)[i]? := by
  unfold kbA; rw [Nat.zero_add, Array.getElem?_append_left (by rw [arr_size]; omega)]
theorem kbA_high {a b : List Nat} (ha : a.length = 64) (i : Nat) : (kbA a b)[64 + i]? = (arr .u8 b)[i]? := by
  unfold kbA; rw [Array.getElem?_append_right (by rw [arr_size]; omega), arr_size, ha, Nat.add_sub_cancel_left]
def kpre (key : List Nat) : Pre := ⟨kbA (blkL 92 key) (blkL 54 key), kbA_size (blkL_len _ _) (blkL_len _ _)⟩
def zpre : Pre := ⟨kbA z64 z64, kbA_size z64_len z64_len⟩
/-- The keyed hash in progress at block g: this key, these bytes. -/
def MacAt (key zs : List Nat) (g : Nat) (W : World) : Prop := HashIn (kpre key) (blkL 54 key ++ zs) g W
theorem keyL_256 {key : List Nat} (h : ∀ x ∈ key, x < 256) : ∀ x ∈ keyL key, x < 256 := by
  unfold keyL
  by_cases hl : 64 < key.length
  · rw [if_pos hl]; exact shaL_256 key
  · rw [if_neg hl]; exact h
theorem blkL_256 {key : List Nat} {m : Nat} (hm : m < 256) (h : ∀ x ∈ key, x < 256) : ∀ x ∈ blkL m key, x < 256 := cmb_256 hm (kbL_256 (keyL_256 h))
theorem blkL_ne {key : List Nat} (h : ∀ x ∈ key, x < 256) : (blkL 92 key).getD 0 0 ≠ (blkL 54 key).getD 0 0 := cmb_ne (by rw [kbL_len (keyL_len key)]; omega) (kbL_256 (keyL_256 h))

set_option maxRecDepth 100000 in
theorem haveKey_gen (g : Nat) (cs : Array Value) (a b : List Nat) (la : a.length = 64) (lb : b.length = 64) (r : Bool) (hr : (List.range 64).all (fun i => a.getD i 0 == b.getD i 0) = r) (w : World) (hrow : rowN w g = some cs)
    (ha : ∀ i, i < 64 → cs[0 + i]? = (arr .u8 a)[i]?) (hb : ∀ i, i < 64 → cs[64 + i]? = (arr .u8 b)[i]?) :
    Calls Tryd.prog 34 #[.pointer (some ⟨g, 0, none⟩)] w fun e w' => e = .returned (.bool (!r)) ∧ Below w.heap.size w w' := by
  have hi : (Tryd.prog.info? 47).map (·.size) = some 64 := by kernel_rfl
  have h0 := load_mid (o := 0) Tryd.underlying47 rfl hi (show rowN w.drew g = some cs from hrow) (sub := arr .u8 a) (by rw [arr_size, la]) ha
  have h1 := load_mid (o := 64) Tryd.underlying47 rfl hi (show rowN w.drew g = some cs from hrow) (sub := arr .u8 b) (by rw [arr_size, lb]) hb
  have hne := fun (x y : Operand) (W : World) => run_arNeq47 x y a b W la lb r hr
  clear ha hb hrow hr
  go_enter Tryd.func34, Tryd.ntmps34
  go_upto_region 1 with fail
  refine wp_region_still_lit (by kernel_rfl) (by kernel_rfl) ?_
  repeat still_step
  refine wpStill_nil ?_
  change Exit.then _ _ _ _ w.drew
  have HD := Lib.hid ((Below.refl w.heap.size w).drew)
  clear h0 h1
  generalize w.drew = V at *
  go_wp2_with fail
  go_ret
  exact ⟨rfl, HD.out⟩
theorem mac_rows {P : Pre} {zs : List Nat} {g : Nat} {W : World} {a b : List Nat} (ha : a.length = 64) (hP : P.a = kbA a b) (h : HashIn P zs g W) : ∃ cs, rowN W g = some cs ∧ (∀ i, i < 64 → cs[0 + i]? = (arr .u8 a)[i]?) ∧ (∀ i, i < 64 → cs[64 + i]? = (arr .u8 b)[i]?) := by
  obtain ⟨st, tl, _, hr⟩ := h
  refine ⟨_, hr, fun i hi => ?_, fun i hi => ?_⟩
  · rw [hashB_pre P _ _ _ _ (by omega), hP, kbA_low ha i hi]
  · rw [hashB_pre P _ _ _ _ (by omega), hP, kbA_high ha i]
theorem haveKey_yes (key zs : List Nat) (g : Nat) (h256 : ∀ x ∈ key, x < 256) (w : World) (h : MacAt key zs g w) :
    Calls Tryd.prog 34 #[.pointer (some ⟨g, 0, none⟩)] w fun e w' => e = .returned (.bool true) ∧ Below w.heap.size w w' := by
  obtain ⟨cs, hr, ha, hb⟩ := mac_rows (blkL_len _ _) rfl h
  exact haveKey_gen g cs _ _ (blkL_len _ _) (blkL_len _ _) false (all_diff (blkL_ne h256)) w hr ha hb
theorem haveKey_no (g : Nat) (cs : Array Value) (w : World) (hr : rowN w g = some cs) (h : ∀ i, i < 128 → cs[i]? = (kbA z64 z64)[i]?) :
    Calls Tryd.prog 34 #[.pointer (some ⟨g, 0, none⟩)] w fun e w' => e = .returned (.bool false) ∧ Below w.heap.size w w' :=
  haveKey_gen g cs z64 z64 z64_len z64_len true (all_same z64) w hr (fun i hi => by rw [h _ (by omega), kbA_low z64_len i hi]) (fun i hi => by rw [h _ (by omega), kbA_high z64_len i])

theorem mac_b {key zs : List Nat} {g : Nat} {W : World} (h256 : ∀ x ∈ key, x < 256) (h : HashIn (kpre key) zs g W) : BytesAt (blkL 54 key) (.slice (some ⟨g, 64, none⟩) 64 64) W :=
  ⟨blkL_256 (by omega) h256, _, 64, by rw [blkL_len], by rw [blkL_len]; omega, .inr ⟨g, 64, rfl, h.lt, fun j hj => by
    rw [blkL_len] at hj
    rw [h.pre (64 + j) (by omega)]
    show (kbA (blkL 92 key) (blkL 54 key))[64 + j]? = _
    rw [kbA_high (blkL_len _ _)]
    exact arr_get .u8 _ j (by rw [blkL_len]; exact hj)⟩⟩
theorem mac_a {key zs : List Nat} {g : Nat} {W : World} (h256 : ∀ x ∈ key, x < 256) (h : HashIn (kpre key) zs g W) : BytesAt (blkL 92 key) (.slice (some ⟨g, 0, none⟩) 64 64) W :=
  ⟨blkL_256 (by omega) h256, _, 64, by rw [blkL_len], by rw [blkL_len]; omega, .inr ⟨g, 0, rfl, h.lt, fun j hj => by
    rw [blkL_len] at hj
    rw [Nat.zero_add, h.pre j (by omega)]
    show (kbA (blkL 92 key) (blkL 54 key))[j]? = _
    have := kbA_low (a := blkL 92 key) (b := blkL 54 key) (blkL_len _ _) j hj
    rw [Nat.zero_add] at this
    rw [this]
    exact arr_get .u8 _ j (by rw [blkL_len]; exact hj)⟩⟩

set_option maxRecDepth 100000 in
theorem begin_any (key : List Nat) (g : Nat) (h256 : ∀ x ∈ key, x < 256) (w : World) (h : HashIn (kpre key) [] g w) (hK : KG w) (hg1 : g ≠ 1) :
    Calls Tryd.prog 24 #[.pointer (some ⟨g, 0, none⟩), .pointer (some ⟨g, 128, none⟩)] w fun e w' => e = .returned (.tuple #[]) ∧ MacAt key [] g w' ∧ w.grownBy w' (some g) := by
  have HW := Lib.hid (write_in (kpre key) g [] (blkL 54 key) _ w h (by rw [blkL_len]; decide) hK hg1 (mac_b h256 h) (fun j hj => absurd hj (by rw [blkL_len]; decide)))
  have hs47 := fun (W : World) (g : Nat) => run_slice47 g 64 W
  clear h hK
  go_enter Tryd.func24, Tryd.ntmps24
  go_wp2_with fail
  refine HW.out.mono ?_
  rintro e w2 ⟨rfl, hh, hg⟩
  have HH := Lib.hid (show MacAt key [] g w2 by unfold MacAt; rw [List.append_nil]; exact hh)
  have HG := Lib.hid hg
  clear hh hg HW
  go_wp2_with fail
  go_end0
  exact ⟨rfl, HH.out, HG.out⟩
end Go.Proofs.YtmlacbdonkfbdaaDoor
