/- AES: rotations, doubled. -/
import Derived.StillTailTactics
import Derived.Deep.RegionHeld3
import Derived.Deep.DeepCutAuto
import Derived.Deep.QuietTactic
import Derived.BigQuiet
import Derived.Test.YtjcdbjapadgdfaaDoorAK
namespace Go.Proofs.YtjcdbjapadgdfaaDoor
open Go.RowKit

theorem or_mov1 (x : Nat) (hx : x < 4294967296) : (x * 256 % 4294967296) ||| (x / 16777216) = mov1 x := by
  have e1 : x * 256 % 4294967296 = pk (b1 x) (b2 x) (b3 x) 0 := by unfold pk b1 b2 b3; omega
  have e2 : x / 16777216 = pk 0 0 0 (b0 x) := by unfold pk b0; omega
  rw [e1, e2, pk_or (b2_lt x) (b3_lt x) (by omega) (by omega) (by omega) (b0_lt hx)]
  simp [mov1]
theorem or_mov2 (x : Nat) (hx : x < 4294967296) : (x * 65536 % 4294967296) ||| (x / 65536) = mov2 x := by
  have e1 : x * 65536 % 4294967296 = pk (b2 x) (b3 x) 0 0 := by unfold pk b2 b3; omega
  have e2 : x / 65536 = pk 0 0 (b0 x) (b1 x) := by unfold pk b0 b1; omega
  rw [e1, e2, pk_or (b3_lt x) (by omega) (by omega) (by omega) (b0_lt hx) (b1_lt x)]
  simp [mov2]
theorem or_mov3 (x : Nat) (hx : x < 4294967296) : (x * 16777216 % 4294967296) ||| (x / 256) = mov3 x := by
  have e1 : x * 16777216 % 4294967296 = pk (b3 x) 0 0 0 := by unfold pk b3; omega
  have e2 : x / 256 = pk 0 (b0 x) (b1 x) (b2 x) := by unfold pk b0 b1 b2; omega
  rw [e1, e2, pk_or (by omega) (by omega) (by omega) (b0_lt hx) (b1_lt x) (b2_lt x)]
  simp [mov3]
theorem cast_mov {x m d y : Nat} (h : (x * m % 4294967296) ||| (x / d) = y) (hx : x < 4294967296) :
    bits BinOp.or IntKind.u32 (((x : Nat) : Int) * ((m : Nat) : Int) % 4294967296) (((x : Nat) : Int) / ((d : Nat) : Int)) = ((y : Nat) : Int) := by
  have h1 : (((x : Nat) : Int) * ((m : Nat) : Int) % 4294967296) = ((x * m % 4294967296 : Nat) : Int) := by rw [Int.natCast_emod, Int.natCast_mul]; rfl
  have h2 : (((x : Nat) : Int) / ((d : Nat) : Int)) = ((x / d : Nat) : Int) := by rw [Int.natCast_ediv]
  rw [h1, h2, bits_or32 _ _ (Nat.mod_lt _ (by omega)) (Nat.lt_of_le_of_lt (Nat.div_le_self _ _) hx), h]

set_option maxRecDepth 100000 in
theorem rot8 (x : Nat) (hx : x < 4294967296) (w : World) : Calls Tryd.prog 69 #[.int .u32 (x : Nat), .int .i64 8] w fun e w' => e = .returned (.int .u32 (mov1 x : Nat)) ∧ Below w.heap.size w w' := by
  have h1 : bits BinOp.and IntKind.u64 8 31 = 8 := by kernel_rfl
  have HC := Lib.hid (cast_mov (m := 256) (d := 16777216) (or_mov1 x hx) hx)
  go_enter Tryd.func69, Tryd.ntmps69
  go_wp2_with fail
  go_ret
  exact ⟨ret_eq (congrArg (Value.int .u32) HC.out), Below.refl _ _⟩
set_option maxRecDepth 100000 in
theorem rot16 (x : Nat) (hx : x < 4294967296) (w : World) : Calls Tryd.prog 69 #[.int .u32 (x : Nat), .int .i64 16] w fun e w' => e = .returned (.int .u32 (mov2 x : Nat)) ∧ Below w.heap.size w w' := by
  have h1 : bits BinOp.and IntKind.u64 16 31 = 16 := by kernel_rfl
  have HC := Lib.hid (cast_mov (m := 65536) (d := 65536) (or_mov2 x hx) hx)
  go_enter Tryd.func69, Tryd.ntmps69
  go_wp2_with fail
  go_ret
  exact ⟨ret_eq (congrArg (Value.int .u32) HC.out), Below.refl _ _⟩
set_option maxRecDepth 100000 in
theorem rot24 (x : Nat) (hx : x < 4294967296) (w : World) : Calls Tryd.prog 69 #[.int .u32 (x : Nat), .int .i64 24] w fun e w' => e = .returned (.int .u32 (mov3 x : Nat)) ∧ Below w.heap.size w w' := by
  have h1 : bits BinOp.and IntKind.u64 24 31 = 24 := by kernel_rfl
  have HC := Lib.hid (cast_mov (m := 16777216) (d := 256) (or_mov3 x hx) hx)
  go_enter Tryd.func69, Tryd.ntmps69
  go_wp2_with fail
  go_ret
  exact ⟨ret_eq (congrArg (Value.int .u32) HC.out), Below.refl _ _⟩
set_option maxRecDepth 100000 in
theorem mov1_any (x : Nat) (hx : x < 4294967296) (w : World) : Calls Tryd.prog 62 #[.int .u32 (x : Nat), .int .i64 1] w fun e w' => e = .returned (.int .u32 (mov1 x : Nat)) ∧ Below w.heap.size w w' := by
  have H := Lib.hid (rot8 x hx w)
  go_enter Tryd.func62, Tryd.ntmps62
  go_wp2_with fail
  refine H.out.mono ?_
  rintro e w1 ⟨rfl, hb⟩
  go_wp2_with fail
  go_ret
  exact ⟨rfl, hb⟩
set_option maxRecDepth 100000 in
theorem mov2_any (x : Nat) (hx : x < 4294967296) (w : World) : Calls Tryd.prog 62 #[.int .u32 (x : Nat), .int .i64 2] w fun e w' => e = .returned (.int .u32 (mov2 x : Nat)) ∧ Below w.heap.size w w' := by
  have H := Lib.hid (rot16 x hx w)
  go_enter Tryd.func62, Tryd.ntmps62
  go_wp2_with fail
  refine H.out.mono ?_
  rintro e w1 ⟨rfl, hb⟩
  go_wp2_with fail
  go_ret
  exact ⟨rfl, hb⟩
set_option maxRecDepth 100000 in
theorem mov3_any (x : Nat) (hx : x < 4294967296) (w : World) : Calls Tryd.prog 62 #[.int .u32 (x : Nat), .int .i64 3] w fun e w' => e = .returned (.int .u32 (mov3 x : Nat)) ∧ Below w.heap.size w w' := by
  have H := Lib.hid (rot24 x hx w)
  go_enter Tryd.func62, Tryd.ntmps62
  go_wp2_with fail
  refine H.out.mono ?_
  rintro e w1 ⟨rfl, hb⟩
  go_wp2_with fail
  go_ret
  exact ⟨rfl, hb⟩
theorem bits_andNot (x : Nat) (hx : x < 4294967296) : bits BinOp.andNot IntKind.u32 (x : Int) 2155905152 = ((x &&& 2139062143 : Nat) : Int) := by
  show IntKind.u32.wrap ((BitVec.ofInt 32 (x : Int) &&& ~~~(BitVec.ofInt 32 2155905152)).toNat : Int) = _
  have e : ~~~(BitVec.ofInt 32 2155905152) = BitVec.ofInt 32 ((2139062143 : Nat) : Int) := by decide
  have := and32 x 2139062143 (by omega)
  rw [e, BitVec.toNat_and, u32_nat x hx, u32_nat _ (by omega), IntKind.wrap_u32]
  omega
theorem and128 : ∀ x, x < 256 → x &&& 128 = 128 * (x / 128) := by decide +kernel
theorem and127 (x : Nat) : x &&& 127 = x % 128 := Nat.and_two_pow_sub_one_eq_mod x 7
theorem dbl_bits (x : Nat) (hx : x < 4294967296) : bits BinOp.xor IntKind.u32 (bits BinOp.andNot IntKind.u32 (x : Int) 2155905152 * 2 % 4294967296) (bits BinOp.and IntKind.u32 (x : Int) 2155905152 / 128 * 27 % 4294967296) = ((dblW x : Nat) : Int) := by
  have h0 := b0_lt hx
  have h1 := b1_lt x
  have h2 := b2_lt x
  have h3 := b3_lt x
  have e1 : x &&& 2139062143 = pk (b0 x % 128) (b1 x % 128) (b2 x % 128) (b3 x % 128) := by
    rw [show (2139062143 : Nat) = pk 127 127 127 127 by rfl]
    conv => lhs; rw [← pk_b x]
    rw [pk_and h1 h2 h3 (by omega) (by omega) (by omega), and127, and127, and127, and127]
  have e2 : x &&& 2155905152 = pk (128 * (b0 x / 128)) (128 * (b1 x / 128)) (128 * (b2 x / 128)) (128 * (b3 x / 128)) := by
    rw [show (2155905152 : Nat) = pk 128 128 128 128 by rfl]
    conv => lhs; rw [← pk_b x]
    rw [pk_and h1 h2 h3 (by omega) (by omega) (by omega), and128 _ h0, and128 _ h1, and128 _ h2, and128 _ h3]
  have f1 : bits BinOp.andNot IntKind.u32 (x : Int) 2155905152 * 2 % 4294967296 = ((pk (2 * (b0 x % 128)) (2 * (b1 x % 128)) (2 * (b2 x % 128)) (2 * (b3 x % 128)) : Nat) : Int) := by
    rw [bits_andNot x hx, e1]; unfold pk; omega
  have f2 : bits BinOp.and IntKind.u32 (x : Int) 2155905152 / 128 * 27 % 4294967296 = ((pk (27 * (b0 x / 128)) (27 * (b1 x / 128)) (27 * (b2 x / 128)) (27 * (b3 x / 128)) : Nat) : Int) := by
    rw [show (2155905152 : Int) = ((2155905152 : Nat) : Int) from rfl, bits_and32 _ _ hx (by omega), e2]; unfold pk; omega
  rw [f1, f2, bits_xor32 _ _ (pk_lt (by omega) (by omega) (by omega) (by omega)) (pk_lt (by omega) (by omega) (by omega) (by omega)), pk_xor (by omega) (by omega) (by omega) (by omega) (by omega) (by omega), xt_byte _ h0, xt_byte _ h1, xt_byte _ h2, xt_byte _ h3]
  rfl
set_option maxRecDepth 100000 in
theorem dbl_any (x : Nat) (hx : x < 4294967296) (w : World) : Calls Tryd.prog 61 #[.int .u32 (x : Nat)] w fun e w' => e = .returned (.int .u32 (dblW x : Nat)) ∧ Below w.heap.size w w' := by
  have HC := Lib.hid (dbl_bits x hx)
  go_enter Tryd.func61, Tryd.ntmps61
  go_wp2_with fail
  go_ret
  exact ⟨ret_eq (congrArg (Value.int .u32) HC.out), Below.refl _ _⟩
set_option maxRecDepth 100000 in
theorem mix1_any (x : Nat) (hx : x < 4294967296) (w : World) : Calls Tryd.prog 65 #[.int .u32 (x : Nat)] w fun e w' => e = .returned (.int .u32 (mixW x : Nat)) ∧ Below w.heap.size w w' := by
  have hd := dblW_lt hx
  have HD := Lib.hid (dbl_any x hx w)
  have H1 := Lib.hid (fun W => mov1_any (dblW x ^^^ x) (xor32 hd hx) W)
  have H2 := Lib.hid (fun W => mov2_any x hx W)
  have H3 := Lib.hid (fun W => mov3_any x hx W)
  have hx1 := bits_xor32 _ _ hd hx
  have hx2 := bits_xor32 _ _ hd (mov1_lt (xor32 hd hx))
  have hx3 := bits_xor32 _ _ (xor32 hd (mov1_lt (xor32 hd hx))) (mov2_lt hx)
  have HX4 := Lib.hid (bits_xor32 _ _ (xor32 (xor32 hd (mov1_lt (xor32 hd hx))) (mov2_lt hx)) (mov3_lt hx))
  have HM := Lib.hid (show dblW x ^^^ mov1 (dblW x ^^^ x) ^^^ mov2 x ^^^ mov3 x = mixW x from rfl)
  obtain ⟨y, hy⟩ : ∃ y, dblW x = y := ⟨_, rfl⟩
  rw [hy] at HD H1 hx1 hx2 hx3 HX4 HM
  obtain ⟨z, hz⟩ : ∃ z, y ^^^ x = z := ⟨_, rfl⟩
  rw [hz] at H1 hx1 hx2 hx3 HX4 HM
  clear hy hz hd
  go_enter Tryd.func65, Tryd.ntmps65
  go_wp2_with fail
  refine HD.out.mono ?_
  rintro e w1 ⟨rfl, hb⟩
  have HB1 := Lib.hid hb
  clear hb HD
  go_wp2_with fail
  refine (H1.out _).mono ?_
  rintro e w2 ⟨rfl, hb⟩
  have HB2 := Lib.hid (bthen HB1.out hb)
  clear hb H1 HB1
  go_wp2_with fail
  refine (H2.out _).mono ?_
  rintro e w3 ⟨rfl, hb⟩
  have HB3 := Lib.hid (bthen HB2.out hb)
  clear hb H2 HB2
  go_wp2_with fail
  refine (H3.out _).mono ?_
  rintro e w4 ⟨rfl, hb⟩
  have HB4 := Lib.hid (bthen HB3.out hb)
  clear hb H3 HB3
  go_wp2_with fail
  go_ret
  exact ⟨ret_eq (congrArg (Value.int .u32) (by first | (rw [HX4.out, HM.out]) | trace_state)), HB4.out⟩
set_option maxRecDepth 100000 in
theorem um1_any (x : Nat) (hx : x < 4294967296) (w : World) : Calls Tryd.prog 60 #[.int .u32 (x : Nat)] w fun e w' => e = .returned (.int .u32 (umW x : Nat)) ∧ Below w.heap.size w w' := by
  have hm := mov2_lt hx
  have H2 := Lib.hid (mov2_any x hx w)
  have HD1 := Lib.hid (fun W => dbl_any (x ^^^ mov2 x) (xor32 hx hm) W)
  have HD2 := Lib.hid (fun W => dbl_any (dblW (x ^^^ mov2 x)) (dblW_lt (xor32 hx hm)) W)
  have hx1 := bits_xor32 _ _ hx hm
  have HX2 := Lib.hid (bits_xor32 _ _ hx (dblW_lt (dblW_lt (xor32 hx hm))))
  have HM := Lib.hid (show x ^^^ dblW (dblW (x ^^^ mov2 x)) = umW x from rfl)
  obtain ⟨y, hy⟩ : ∃ y, mov2 x = y := ⟨_, rfl⟩
  rw [hy] at H2 HD1 HD2 hx1 HX2 HM
  obtain ⟨z, hz⟩ : ∃ z, x ^^^ y = z := ⟨_, rfl⟩
  rw [hz] at HD1 HD2 hx1 HX2 HM
  clear hy hz hm
  go_enter Tryd.func60, Tryd.ntmps60
  go_wp2_with fail
  refine H2.out.mono ?_
  rintro e w1 ⟨rfl, hb⟩
  have HB1 := Lib.hid hb
  clear hb H2
  go_wp2_with fail
  refine (HD1.out _).mono ?_
  rintro e w2 ⟨rfl, hb⟩
  have HB2 := Lib.hid (bthen HB1.out hb)
  clear hb HD1 HB1
  go_wp2_with fail
  refine (HD2.out _).mono ?_
  rintro e w3 ⟨rfl, hb⟩
  have HB3 := Lib.hid (bthen HB2.out hb)
  clear hb HD2 HB2
  go_wp2_with fail
  go_ret
  exact ⟨ret_eq (congrArg (Value.int .u32) (by first | (rw [HX2.out, HM.out]) | trace_state)), HB3.out⟩

theorem or_pk {a b c d : Nat} (ha : a < 256) (hb : b < 256) (hc : c < 256) (hd : d < 256) : bits BinOp.or IntKind.u32 (bits BinOp.or IntKind.u32 (bits BinOp.or IntKind.u32 ((a : Int) * 16777216) ((b : Int) * 65536)) ((c : Int) * 256)) (d : Int) = ((pk a b c d : Nat) : Int) := by
  have f0 : ((a : Int) * 16777216) = ((pk a 0 0 0 : Nat) : Int) := by unfold pk; omega
  have f1 : ((b : Int) * 65536) = ((pk 0 b 0 0 : Nat) : Int) := by unfold pk; omega
  have f2 : ((c : Int) * 256) = ((pk 0 0 c 0 : Nat) : Int) := by unfold pk; omega
  have f3 : (d : Int) = ((pk 0 0 0 d : Nat) : Int) := by unfold pk; omega
  have z : (0 : Nat) < 256 := by omega
  rw [f0, f1, f2, f3, bits_or32 _ _ (pk_lt ha z z z) (pk_lt z hb z z), pk_or z z z hb z z, bits_or32 _ _ (pk_lt (by simpa using ha) (by simpa using hb) (by simp) (by simp)) (pk_lt z z hc z), pk_or (by simpa using hb) (by simp) (by simp) z hc z, bits_or32 _ _ (pk_lt (by simpa using ha) (by simpa using hb) (by simpa using hc) (by simp)) (pk_lt z z z hd), pk_or (by simpa using hb) (by simpa using hc) (by simp) z z hd]
  simp

/-! Tables. -/
def TabAt (t : List Nat) (g o : Nat) (W : World) : Prop := (∀ x ∈ t, x < 256) ∧ g < W.heap.size ∧ ∀ i, i < 256 → W.cell? ⟨g, o + i, none⟩ = some (.int .u8 (tb t i : Nat))
theorem TabAt.kept {t : List Nat} {g o : Nat} {W V : World} (h : TabAt t g o W) (hb : Below W.heap.size W V) : TabAt t g o V :=
  ⟨h.1, Nat.lt_of_lt_of_le h.2.1 hb.size, fun i hi => (hb.cell (p := ⟨g, o + i, none⟩) h.2.1).trans (h.2.2 i hi)⟩
theorem TabAt.grown {t : List Nat} {g o : Nat} {W V : World} {row : Option Nat} (h : TabAt t g o W) (hb : W.grownBy V row) (hr : row ≠ some g) : TabAt t g o V :=
  ⟨h.1, Nat.lt_of_lt_of_le h.2.1 hb.size, fun i hi => by
    have hc := h.2.2 i hi
    unfold World.cell? at hc ⊢
    rw [hb.block g h.2.1 (fun e => hr e.symm)]
    exact hc⟩
set_option maxRecDepth 100000 in
theorem of_any (t : List Nat) (g o x : Nat) (hx : x < 4294967296) (w : World) (hT : TabAt t g o w) : Calls Tryd.prog 68 #[.pointer (some ⟨g, o, none⟩), .int .u32 (x : Nat)] w fun e w' => e = .returned (.int .u32 (subW t x : Nat)) ∧ Below w.heap.size w w' := by
  have h0 := b0_lt hx
  have h1 := b1_lt x
  have h2 := b2_lt x
  have h3 := b3_lt x
  have c0 := hT.2.2 _ h0
  have c1 := hT.2.2 _ h1
  have c2 := hT.2.2 _ h2
  have c3 := hT.2.2 _ h3
  have t0 := tb_256 hT.1 (b0 x)
  have t1 := tb_256 hT.1 (b1 x)
  have t2 := tb_256 hT.1 (b2 x)
  have t3 := tb_256 hT.1 (b3 x)
  have e0 : IntKind.u8.wrap (((x : Nat) : Int) / 16777216) = ((b0 x : Nat) : Int) := by rw [IntKind.wrap_u8]; unfold b0; omega
  have e1 : IntKind.u8.wrap (((x : Nat) : Int) / 65536) = ((b1 x : Nat) : Int) := by rw [IntKind.wrap_u8]; unfold b1; omega
  have e2 : IntKind.u8.wrap (((x : Nat) : Int) / 256) = ((b2 x : Nat) : Int) := by rw [IntKind.wrap_u8]; unfold b2; omega
  have e3 : IntKind.u8.wrap ((x : Nat) : Int) = ((b3 x : Nat) : Int) := by rw [IntKind.wrap_u8]; unfold b3; omega
  obtain ⟨a0, ha0⟩ : ∃ z, b0 x = z := ⟨_, rfl⟩
  obtain ⟨a1, ha1⟩ : ∃ z, b1 x = z := ⟨_, rfl⟩
  obtain ⟨a2, ha2⟩ : ∃ z, b2 x = z := ⟨_, rfl⟩
  obtain ⟨a3, ha3⟩ : ∃ z, b3 x = z := ⟨_, rfl⟩
  have HR := Lib.hid (show pk (tb t (b0 x)) (tb t (b1 x)) (tb t (b2 x)) (tb t (b3 x)) = subW t x from rfl)
  rw [ha0] at h0 c0 t0 e0 HR
  rw [ha1] at h1 c1 t1 e1 HR
  rw [ha2] at h2 c2 t2 e2 HR
  rw [ha3] at h3 c3 t3 e3 HR
  obtain ⟨s0, hs0⟩ : ∃ z, tb t a0 = z := ⟨_, rfl⟩
  obtain ⟨s1, hs1⟩ : ∃ z, tb t a1 = z := ⟨_, rfl⟩
  obtain ⟨s2, hs2⟩ : ∃ z, tb t a2 = z := ⟨_, rfl⟩
  obtain ⟨s3, hs3⟩ : ∃ z, tb t a3 = z := ⟨_, rfl⟩
  rw [hs0] at c0 t0 HR
  rw [hs1] at c1 t1 HR
  rw [hs2] at c2 t2 HR
  rw [hs3] at c3 t3 HR
  clear ha0 ha1 ha2 ha3 hs0 hs1 hs2 hs3 hT
  have i0 : ((a0 : Nat) : Int) < 256 := by omega
  have i1 : ((a1 : Nat) : Int) < 256 := by omega
  have i2 : ((a2 : Nat) : Int) < 256 := by omega
  have i3 : ((a3 : Nat) : Int) < 256 := by omega
  have d0 : w.drew.cell? ⟨g, o + a0, none⟩ = some (.int .u8 (s0 : Nat)) := c0
  have d1 : w.drew.cell? ⟨g, o + a1, none⟩ = some (.int .u8 (s1 : Nat)) := c1
  have HC2 := Lib.hid c2
  have HC3 := Lib.hid c3
  clear c0 c1 c2 c3
  have HB0 := Lib.hid (show Below w.heap.size w w.drew from (Below.refl _ _).drew)
  go_enter Tryd.func68, Tryd.ntmps68
  go_upto_region 1 with fail
  refine wp_region_still_lit (by kernel_rfl) (by kernel_rfl) ?_
  repeat still_step
  refine wpStill_nil ?_
  change Exit.then _ _ Exit.normal _ w.drew
  obtain ⟨V, hV⟩ : ∃ V, w.drew = V := ⟨_, rfl⟩
  have d2 : V.drew.cell? ⟨g, o + a2, none⟩ = some (.int .u8 (s2 : Nat)) := by rw [← hV]; exact HC2.out
  have d3 : V.drew.cell? ⟨g, o + a3, none⟩ = some (.int .u8 (s3 : Nat)) := by rw [← hV]; exact HC3.out
  rw [hV] at HB0 ⊢
  clear d0 d1 hV HC2 HC3
  go_upto_region 2 with fail
  refine wp_region_still_lit (by kernel_rfl) (by kernel_rfl) ?_
  repeat still_step
  refine wpStill_nil ?_
  change Exit.then _ _ Exit.normal _ V.drew
  have HB1 := Lib.hid (show Below w.heap.size w V.drew from HB0.out.drew)
  clear d2 d3 HB0
  generalize V.drew = U at *
  go_wp2_with fail
  go_ret
  exact ⟨ret_eq (congrArg (Value.int .u32) (by first | (exact (or_pk t0 t1 t2 t3).trans (by rw [HR.out])) | trace_state)), HB1.out⟩
set_option maxRecDepth 100000 in
theorem sub_any (t : List Nat) (g x : Nat) (hx : x < 4294967296) (w : World) (hT : TabAt t g 0 w) : Calls Tryd.prog 63 #[.pointer (some ⟨g, 0, none⟩), .int .u32 (x : Nat)] w fun e w' => e = .returned (.int .u32 (subW t x : Nat)) ∧ Below w.heap.size w w' := by
  have H := Lib.hid (of_any t g 0 x hx w hT)
  clear hT
  go_enter Tryd.func63, Tryd.ntmps63
  go_wp2_with fail
  refine H.out.mono ?_
  rintro e w1 ⟨rfl, hb⟩
  go_wp2_with fail
  go_ret
  exact ⟨rfl, hb⟩
set_option maxRecDepth 100000 in
theorem org_any (t : List Nat) (g x : Nat) (hx : x < 4294967296) (w : World) (hT : TabAt t g 256 w) : Calls Tryd.prog 59 #[.pointer (some ⟨g, 0, none⟩), .int .u32 (x : Nat)] w fun e w' => e = .returned (.int .u32 (subW t x : Nat)) ∧ Below w.heap.size w w' := by
  have H := Lib.hid (of_any t g 256 x hx w hT)
  clear hT
  go_enter Tryd.func59, Tryd.ntmps59
  go_wp2_with fail
  refine H.out.mono ?_
  rintro e w1 ⟨rfl, hb⟩
  go_wp2_with fail
  go_ret
  exact ⟨rfl, hb⟩
end Go.Proofs.YtjcdbjapadgdfaaDoor
