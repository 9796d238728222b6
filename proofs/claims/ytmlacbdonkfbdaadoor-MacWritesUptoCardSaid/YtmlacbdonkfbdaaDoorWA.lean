/- Key blocks: arrays of 64 bytes, pairs of them; the keyed hash. -/
import Derived.Great.FillDense
import Derived.Laws.Tables
import Derived.Test.YtmlacbdonkfbdaaDoorVT
import Derived.Test.YtmlacbdonkfbdaaDoorTH
namespace Go.Proofs.YtmlacbdonkfbdaaDoor
open Go.RowKit Go.Shelf

theorem xor8_lt {a b : Nat} (ha : a < 256) (hb : b < 256) : a ^^^ b < 256 := Nat.xor_lt_two_pow (n := 8) (by omega) (by omega)
theorem or8_lt {a b : Nat} (ha : a < 256) (hb : b < 256) : a ||| b < 256 := Nat.or_lt_two_pow (n := 8) (by omega) (by omega)
theorem u8_nat (a : Nat) (h : a < 256) : (BitVec.ofInt 8 (a : Int)).toNat = a := by
  rw [BitVec.ofInt_natCast, BitVec.toNat_ofNat]; exact Nat.mod_eq_of_lt (by omega)
theorem bits_xor8 (a b : Nat) (ha : a < 256) (hb : b < 256) : bits .xor .u8 (a : Int) (b : Int) = ((a ^^^ b : Nat) : Int) := by
  show IntKind.u8.wrap ((BitVec.ofInt 8 (a : Int) ^^^ BitVec.ofInt 8 (b : Int)).toNat : Int) = _
  have := xor8_lt ha hb
  rw [BitVec.toNat_xor, u8_nat a ha, u8_nat b hb, IntKind.wrap_u8]
  omega
theorem bits_or8 (a b : Nat) (ha : a < 256) (hb : b < 256) : bits .or .u8 (a : Int) (b : Int) = ((a ||| b : Nat) : Int) := by
  show IntKind.u8.wrap ((BitVec.ofInt 8 (a : Int) ||| BitVec.ofInt 8 (b : Int)).toNat : Int) = _
  have := or8_lt ha hb
  rw [BitVec.toNat_or, u8_nat a ha, u8_nat b hb, IntKind.wrap_u8]
  omega

/-! ### the key block, and combined with a byte -/
def kbL (ks : List Nat) : List Nat := splice z64 0 ks
theorem kbL_len {ks : List Nat} (h : ks.length ≤ 64) : (kbL ks).length = 64 := by unfold kbL; rw [splice_len (by rw [z64_len]; omega), z64_len]
theorem z64_256 : ∀ x ∈ z64, x < 256 := by
  intro x hx
  rw [z64_eq] at hx
  have := List.eq_of_mem_replicate hx
  omega
theorem kbL_256 {ks : List Nat} (h : ∀ x ∈ ks, x < 256) : ∀ x ∈ kbL ks, x < 256 := splice_256 z64_256 h
def cmbK (m : Nat) (l : List Nat) (k : Nat) : List Nat := (l.take k).map (· ^^^ m) ++ l.drop k
def cmb (m : Nat) (l : List Nat) : List Nat := l.map (· ^^^ m)
theorem cmb_len (m : Nat) (l : List Nat) : (cmb m l).length = l.length := by unfold cmb; rw [List.length_map]
theorem cmb_256 {m : Nat} {l : List Nat} (hm : m < 256) (h : ∀ x ∈ l, x < 256) : ∀ x ∈ cmb m l, x < 256 := by
  intro x hx
  obtain ⟨y, hy, rfl⟩ := List.mem_map.1 hx
  exact xor8_lt (h y hy) hm
theorem cmbK_zero (m : Nat) (l : List Nat) : cmbK m l 0 = l := by unfold cmbK; simp
theorem cmbK_all {m : Nat} {l : List Nat} {k : Nat} (h : l.length ≤ k) : cmbK m l k = cmb m l := by
  unfold cmbK cmb; rw [List.take_of_length_le h, List.drop_eq_nil_of_le h, List.append_nil]
theorem cmbK_len (m : Nat) (l : List Nat) (k : Nat) : (cmbK m l k).length = l.length := by
  unfold cmbK; rw [List.length_append, List.length_map, List.length_take, List.length_drop]; omega
theorem cmbK_get {m : Nat} {l : List Nat} {k : Nat} (h : k < l.length) : (cmbK m l k).getD k 0 = l.getD k 0 := by
  have h1 : ((l.take k).map (· ^^^ m)).length = k := by rw [List.length_map, List.length_take]; omega
  unfold cmbK
  rw [List.getD, List.getElem?_append_right (by omega), h1, Nat.sub_self, List.getElem?_drop, Nat.add_zero, List.getD]
theorem cmbK_set {m : Nat} {l : List Nat} {k : Nat} (h : k < l.length) : (cmbK m l k).set k (l.getD k 0 ^^^ m) = cmbK m l (k + 1) := by
  have h1 : ((l.take k).map (· ^^^ m)).length = k := by rw [List.length_map, List.length_take]; omega
  unfold cmbK
  rw [List.set_append_right _ _ (by omega), h1, Nat.sub_self, List.drop_eq_getElem_cons h, List.set_cons_zero, List.take_succ_eq_append_getElem h, List.map_append, List.append_assoc]
  simp [List.getD, h]
def keyL (key : List Nat) : List Nat := if 64 < key.length then shaL key else key
theorem shaL_len (zs : List Nat) : (shaL zs).length = 32 := outB_len (absB_len rfl _ _)
theorem keyL_len (key : List Nat) : (keyL key).length ≤ 64 := by
  unfold keyL
  by_cases h : 64 < key.length
  · rw [if_pos h, shaL_len]; omega
  · rw [if_neg h]; omega
def blkL (m : Nat) (key : List Nat) : List Nat := cmb m (kbL (keyL key))
theorem blkL_len (m : Nat) (key : List Nat) : (blkL m key).length = 64 := by unfold blkL; rw [cmb_len, kbL_len (keyL_len key)]
def macL (key zs : List Nat) : List Nat := shaL (blkL 92 key ++ shaL (blkL 54 key ++ zs))
theorem cmb_ne {l : List Nat} (h : 0 < l.length) (h256 : ∀ x ∈ l, x < 256) : (cmb 92 l).getD 0 0 ≠ (cmb 54 l).getD 0 0 := by
  cases l with
  | nil => simp at h
  | cons x l =>
    intro e
    have e2 : x ^^^ 92 = x ^^^ 54 := e
    have e3 := congrArg (fun y => x ^^^ y) e2
    simp only [← Nat.xor_assoc, Nat.xor_self, Nat.zero_xor] at e3
    exact absurd e3 (by decide)

/-! ### type 47: arrays of 64 bytes -/
theorem run_loadVar47 (W : World) (g : Nat) : (loadVar 47 ⟨g, 0, none⟩).run Tryd.prog W = rowLoad 64 47 W g (rowN W g) := run_loadVar_rowLoad 64 47 _ rfl Tryd.underlying47 (by kernel_rfl) W g
theorem run_storeVar47 (W : World) (g : Nat) (l : List Nat) (h : l.length = 64) : (storeVar 47 ⟨g, 0, none⟩ (.agg (arr .u8 l))).run Tryd.prog W = rowStore 64 47 W g (arr .u8 l) (rowN W g) := run_storeVar_rowStore 64 47 (by kernel_rfl) W g _ (by rw [arr_size, h]) (arr_oneCell _ _)
theorem run_zero47 (W : World) : (zeroValue 47).run Tryd.prog W = .ok (.agg (List.replicate 64 (Value.int .u8 ((0 : Nat) : Int))).toArray) W := by kernel_rfl
@[go_sem ↓] theorem run_zeroValue47 (W : World) : (zeroValue 47).run Tryd.prog W = .ok (.agg (arr .u8 z64)) W := by
  rw [run_zero47, arr_lit, z64_eq, List.map_replicate]
section
variable (ρ : Operand → Value) (dst : Option Tmp) (x y : Operand) (ty : TypeId) (pos : String) (after : Array Edge) (guard : Option (Nat × Bool))
@[go_sem ↓] theorem execOp_load47 : execOp ρ { dst, op := .load 47 x, type := ty, pos, after, guard } = arLoad 47 (ρ x) := rfl
@[go_sem ↓] theorem execOp_store47 : execOp ρ { dst, op := .store 47 x y, type := ty, pos, after, guard } = arStore 47 (ρ x) (ρ y) := rfl
@[go_sem ↓] theorem execOp_load49 : execOp ρ { dst, op := .load 49 x, type := ty, pos, after, guard } = arLoad 49 (ρ x) := rfl
@[go_sem ↓] theorem execOp_store49 : execOp ρ { dst, op := .store 49 x y, type := ty, pos, after, guard } = arStore 49 (ρ x) (ρ y) := rfl
end
theorem run_arLoad47 (W : World) (g : Nat) : (arLoad 47 (.pointer (some ⟨g, 0, none⟩))).run Tryd.prog W = (rowLoad 64 47 W g (rowN W g)).andThen fun v w => .ok (.value v) w := run_arLoad run_loadVar47 W g
theorem run_arStore47 (W : World) (g : Nat) (l : List Nat) (h : l.length = 64) : (arStore 47 (.pointer (some ⟨g, 0, none⟩)) (.agg (arr .u8 l))).run Tryd.prog W = (rowStore 64 47 W g (arr .u8 l) (rowN W g)).andThen fun _ w => .ok .skip w := run_arStore (run_storeVar47 W g l h)
theorem load_mid {W : World} {g o n : Nat} {ty : TypeId} {d : TypeDesc} {cs sub : Array Value} (hu : Tryd.prog.underlying ty = some d) (hd : d.isRow = true) (hi : (Tryd.prog.info? ty).map (·.size) = some n) (h : rowN W g = some cs) (hs : sub.size = n)
    (hg : ∀ i, i < n → cs[o + i]? = sub[i]?) : (arLoad ty (.pointer (some ⟨g, o, none⟩))).run Tryd.prog W = .ok (.value (.agg sub)) W := by
  have hr : W.rangeAt g o sub.toList := by
    intro j v hv
    have hj : j < n := by
      have := (List.getElem?_eq_some_iff.1 hv).1
      rw [Array.length_toList, hs] at this; exact this
    rw [(rowN_cell h).1, hg j hj, ← Array.getElem?_toList]; exact hv
  have hl := run_loadVar_mid (P := Tryd.prog) W g o ty sub.toList _ hr hu hd (by rw [hi, Array.length_toList, hs])
  rw [Array.toArray_toList] at hl
  exact run_arLoad_of hl

/-! ### arrays of 64 bytes compared -/
def arNeq47 (x y : Operand) (a b : Value) : Sem Next := do pure (.value (← (do eqGuard .neq 47 x y a b; binOp .neq 47 a b)))
section
variable (ρ : Operand → Value) (dst : Option Tmp) (x y : Operand) (ty yt : TypeId) (pos : String) (after : Array Edge) (guard : Option (Nat × Bool))
@[go_sem ↓] theorem execOp_neq47 : execOp ρ { dst, op := .binOp .neq 47 x y yt, type := ty, pos, after, guard } = arNeq47 x y (ρ x) (ρ y) := rfl
end
theorem eqItems_two (d : Nat) (l l' : List Nat) (n : Nat) (hl : l.length = n) (hl' : l'.length = n) (w : World) : ∀ is : List Nat, (∀ i ∈ is, i < n) → (Op.eqItems (d + 1) 5 1 (arr .u8 l) (arr .u8 l') is).run Tryd.prog w = .ok (is.all fun i => l.getD i 0 == l'.getD i 0) w := by
  have hp : Tryd.prog.plainKey 5 = true := by kernel_rfl
  intro is
  induction is with
  | nil => intro _; rfl
  | cons i is ih =>
    intro h
    have hi : i < n := h i (by simp)
    have ih' := ih fun j hj => h j (by simp [hj])
    simp only [Op.eqItems, Sem.run_bind, Nat.mul_one, run_part_plain w hp (arr_get .u8 l i (by omega)), run_part_plain w hp (arr_get .u8 l' i (by omega)), Result.andThen_ok, run_equalIn_int (P := Tryd.prog) w d 5 .u8 .u8 _ _ Tryd.underlying5, List.all_cons]
    by_cases e : l.getD i 0 = l'.getD i 0
    · rw [e]
      simp only [beq_self_eq_true, Bool.not_true, Bool.false_eq_true, if_false, Bool.true_and]
      exact ih'
    · have e1 : (l.getD i 0 == l'.getD i 0) = false := by simpa using e
      have e2 : (((l.getD i 0 : Nat) : Int) == ((l'.getD i 0 : Nat) : Int)) = false := by
        rw [beq_eq_false_iff_ne]; omega
      rw [e1, e2]
      simp
theorem run_eq47 (d : Nat) (l l' : List Nat) (hl : l.length = 64) (hl' : l'.length = 64) (w : World) : (Op.equalIn (d + 2) 47 (.agg (arr .u8 l)) (.agg (arr .u8 l'))).run Tryd.prog w = .ok ((List.range 64).all fun i => l.getD i 0 == l'.getD i 0) w := by
  obtain ⟨i, hi⟩ : ∃ i, Tryd.prog.info? 5 = some i := by
    have h : (Tryd.prog.info? 5).isSome = true := by kernel_rfl
    exact Option.isSome_iff_exists.1 h
  have hc : Tryd.prog.cellsOf 5 = 1 := by kernel_rfl
  rw [run_equalIn_array (P := Tryd.prog) w (d + 1) (arr .u8 l) (arr .u8 l') Tryd.underlying47 hi, hc]
  exact eqItems_two d l l' 64 hl hl' w _ (fun j hj => by simpa using hj)
theorem run_arNeq47 (x y : Operand) (l l' : List Nat) (w : World) (hl : l.length = 64) (hl' : l'.length = 64) (b : Bool) (hb : (List.range 64).all (fun i => l.getD i 0 == l'.getD i 0) = b) : (arNeq47 x y (.agg (arr .u8 l)) (.agg (arr .u8 l'))).run Tryd.prog w = .ok (.value (.bool (!b))) w := by
  have h0 : Tryd.prog.eqGuardType Tryd.prog.depth 47 = false := by kernel_rfl
  have hg := run_eqGuard_agg (P := Tryd.prog) w .neq 47 x y (arr .u8 l) (arr .u8 l') h0
  have he : ∀ n, n = 9998 + 2 → (Op.equalIn n 47 (.agg (arr .u8 l)) (.agg (arr .u8 l'))).run Tryd.prog w = .ok b w := fun n hn => by rw [hn, run_eq47 9998 l l' hl hl' w, hb]
  have he' := he 10000 (by decide)
  simp only [arNeq47, Sem.run_bind, hg, Result.andThen_ok, run_neq_struct, he', Sem.run_pure]
theorem all_same (l : List Nat) : (List.range 64).all (fun i => l.getD i 0 == l.getD i 0) = true := by simp
theorem all_diff {l l' : List Nat} (h : l.getD 0 0 ≠ l'.getD 0 0) : (List.range 64).all (fun i => l.getD i 0 == l'.getD i 0) = false := by
  rw [List.all_eq_false]
  exact ⟨0, by simp, by simpa using h⟩

/-! ### a value's fields, built -/
theorem fill_step {place : Nat → Option (Nat × Nat)} {cells : Array Value} {i off size : Nat} {v : Value} {rest : List (Nat × Value)} (hp : place i = some (off, size)) (hv : v.cells.size = size) (hle : off + size ≤ cells.size) :
    Instr.fill place cells ((i, v) :: rest) = Instr.fill place (cells.toList.take off ++ v.cells.toList ++ cells.toList.drop (off + size)).toArray rest := by
  conv => lhs; unfold Instr.fill
  simp only [hp]
  rw [if_neg (by simp [hv]; omega)]
  congr 1
  obtain ⟨g1, g2⟩ := Great.foldl_set off v.cells.toList 0 cells
  apply Array.ext_getElem?
  intro k
  have e : Array.foldl (fun cs (x : Value × Nat) => cs.setIfInBounds (off + x.2) x.1) cells v.cells.zipIdx = List.foldl (fun cs (x : Value × Nat) => cs.setIfInBounds (off + x.2) x.1) cells (v.cells.toList.zipIdx 0) := by
    rw [← Array.foldl_toList]; simp
  have hl : v.cells.toList.length = size := by rw [Array.length_toList, hv]
  rw [show (v.cells.zipIdx.foldl (fun cs x => match x with | (c, j) => cs.setIfInBounds (off + j) c) cells) = List.foldl (fun cs (x : Value × Nat) => cs.setIfInBounds (off + x.2) x.1) cells (v.cells.toList.zipIdx 0) from e, g2 k]
  simp only [List.getElem?_toArray, Nat.add_zero, hl]
  have hc : cells.toList.length = cells.size := Array.length_toList
  by_cases h1 : k < off
  · rw [if_neg (by omega), List.append_assoc, List.getElem?_append_left (by rw [List.length_take]; omega), List.getElem?_take, if_pos h1, Array.getElem?_toList]
  · by_cases h2 : k < off + size
    · rw [if_pos (by omega), List.append_assoc, List.getElem?_append_right (by rw [List.length_take]; omega), List.getElem?_append_left (by rw [List.length_take]; omega), List.length_take, Nat.min_eq_left (by omega)]
    · rw [if_neg (by omega), List.getElem?_append_right (by rw [List.length_append, List.length_take]; omega), List.length_append, List.length_take, Nat.min_eq_left (by omega), hl, List.getElem?_drop, show off + size + (k - (off + size)) = k by omega, Array.getElem?_toList]
end Go.Proofs.YtmlacbdonkfbdaaDoor
