/- Whatever the three strings of bytes, NatHolds returns true, and its arguments read behind the call as they read before. Conditions: none. The walk lies ahead of it in this text. -/
import Derived.Test.YtkegdjndmeialaaP4
import Derived.Test.YtkegdjndmeialaaRows
import Derived.Test.YtkegdjndmeialaaN1
import Derived.WalkKit
import Derived.ProofKit
import Derived.OpenShut
import Derived.ShutString
import Derived.ChangeOld
import Derived.Below
namespace Go.Proofs.Ytkegdjndmeialaa
open Go.RowKit

theorem holds_bounds {x y z M T : Nat} (hx : x < M) (hy : y < M) (hz : z < M) (hM : 3 ≤ M) (hT : M * M * M ≤ T) :
    (x < T ∧ y < T ∧ z < T) ∧ (x + y < T ∧ y + z < T ∧ x + y + z < T) ∧ (x * y < T ∧ x * y * z < T ∧ y * z < T ∧ x * z < T) ∧ x * (y + z) < T := by
  have h1 : 3 * M ≤ M * M := Nat.mul_le_mul_right _ hM
  have h2 : M * M * 3 ≤ M * M * M := Nat.mul_le_mul_left _ hM
  have hxy : x * y < M * M := Nat.mul_lt_mul'' hx hy
  have hxyz : x * y * z < M * M * M := Nat.mul_lt_mul'' hxy hz
  have hyz : y * z < M * M := Nat.mul_lt_mul'' hy hz
  have hxz : x * z < M * M := Nat.mul_lt_mul'' hx hz
  have hd : x * (y + z) < M * (M * M) := Nat.mul_lt_mul'' hx (by omega)
  rw [← Nat.mul_assoc] at hd
  generalize M * M * M = K at *
  generalize M * M = L at *
  omega

theorem holds_M : 256 ^ 40 * 256 ^ 40 * 256 ^ 40 ≤ P64 ^ 16 := by
  rw [P64_16, ← Nat.pow_add, ← Nat.pow_add]
  exact Nat.pow_le_pow_right (by omega) (by omega)
theorem short40 {zs : List Nat} (h256 : ∀ x ∈ zs, x < 256) (h : zs.length ≤ 40) : valBE 256 zs < 256 ^ 40 :=
  Nat.lt_of_lt_of_le (valBE_lt 256 (by omega) zs h256) (Nat.pow_le_pow_right (by omega) h)
theorem neq_self {v : Nat} (h : v < P64 ^ 16) : natEq v v = true := by rw [natEq_iff h h]; simp

theorem fb40 (zs : List Nat) (s : Value) (W : World) (h : BytesAt zs s W) (hn : zs.length ≤ 1000000) (x : Nat) (ex : valBE 256 zs = x) (hf : x < P64 ^ 16) :
    Calls Try.prog 12 #[s] W fun e w' => e = .returned (.tuple #[.agg (natA x), .int .i64 0]) ∧ Below W.heap.size W w' := by
  obtain ⟨e1, e2⟩ := info_fb_fits (zs := zs) (by rw [ex]; exact hf)
  have := fromBytes_any zs s W h hn
  rw [e1, e2, ex] at this
  exact this

theorem isZ_false (y : Nat) (hy : y < P64 ^ 16) (h : 0 < y) (w : World) : Calls Try.prog 15 #[.agg (natA y)] w fun e w' => e = .returned (.bool false) ∧ Below w.heap.size w w' := by
  have := isZero_any y w
  rwa [show natEq y 0 = false by rw [natEq_iff hy (Nat.pow_pos P64_pos)]; simp; omega] at this
theorem isZ_true (y : Nat) (h : y = 0) (w : World) : Calls Try.prog 15 #[.agg (natA y)] w fun e w' => e = .returned (.bool true) ∧ Below w.heap.size w w' := by
  subst h
  exact isZero0 w
theorem cmp_less (t y : Nat) (hy : y < P64 ^ 16) (h : t < y) (w : World) : Calls Try.prog 31 #[.agg (natA t), .agg (natA y)] w fun e w' => e = .returned (.int .i64 (-1)) ∧ Below w.heap.size w w' := by
  have := compare_any t y (Nat.lt_trans h hy) hy w
  rwa [show cmpN t y = -1 by unfold cmpN; simp [h]] at this
theorem valBE_range (s : Nat) : ∀ n v : Nat, valBE (2 ^ s) ((List.range n).map fun i => v / 2 ^ ((n - 1 - i) * s) % 2 ^ s) = v % (2 ^ s) ^ n := by
  intro n
  induction n with
  | zero => intro v; rw [Nat.pow_zero, Nat.mod_one]; rfl
  | succ n ih =>
    intro v
    rw [List.range_succ, List.map_append, List.map_cons, List.map_nil, valBE_snoc]
    have h1 : (List.range n).map (fun i => v / 2 ^ ((n + 1 - 1 - i) * s) % 2 ^ s) = (List.range n).map (fun i => v / 2 ^ s / 2 ^ ((n - 1 - i) * s) % 2 ^ s) := by
      refine List.map_congr_left fun i hi => ?_
      have hi' : i < n := List.mem_range.1 hi
      rw [Nat.div_div_eq_div_mul, ← Nat.pow_add, show n + 1 - 1 - i = (n - 1 - i) + 1 by omega, Nat.add_mul, Nat.one_mul, Nat.add_comm s]
    rw [h1, ih, show n + 1 - 1 - n = 0 by omega, Nat.zero_mul, Nat.pow_zero, Nat.div_one, show (2 ^ s) ^ (n + 1) = 2 ^ s * (2 ^ s) ^ n by rw [Nat.pow_succ, Nat.mul_comm], Nat.mod_mul, Nat.mul_comm (2 ^ s), Nat.add_comm]
theorem nBytes_le {v : Nat} (hv : v < P64 ^ 16) : nBytes v ≤ 128 := by
  have := dlen2_le hv
  unfold nBytes
  omega
theorem bytesN_len {v : Nat} (hv : v < P64 ^ 16) : (bytesN v).length ≤ 128 := by rw [bytesN_length]; exact nBytes_le hv
theorem lt_pow8 (v : Nat) : v < (2 ^ 8) ^ nBytes v := by
  have h := lt_dlen (show 2 ≤ 2 by omega) v
  rw [← Nat.pow_mul]
  exact Nat.lt_of_lt_of_le h (Nat.pow_le_pow_right (by omega) (by unfold nBytes; omega))
theorem lt_pow4 (v : Nat) : v < (2 ^ 4) ^ nHex v := by
  have h := lt_dlen (show 2 ≤ 2 by omega) v
  rw [← Nat.pow_mul]
  exact Nat.lt_of_lt_of_le h (Nat.pow_le_pow_right (by omega) (by unfold nHex; omega))
theorem valBE_bytesN (v : Nat) : valBE 256 (bytesN v) = v := by
  have h := valBE_range 8 (nBytes v) v
  rw [Nat.mod_eq_of_lt (lt_pow8 v)] at h
  exact h
theorem bytesN_lt (v : Nat) : ∀ x ∈ bytesN v, x < 256 := by
  intro x hx
  unfold bytesN at hx
  obtain ⟨i, _, rfl⟩ := List.mem_map.1 hx
  exact Nat.mod_lt _ (by omega)
theorem bytes_at (v : Nat) (hv : v < P64 ^ 16) (w : World) : Calls Try.prog 45 #[.agg (natA v)] w fun e w' => ∃ s, e = .returned s ∧ BytesAt (bytesN v) s w' ∧ Below w.heap.size w w' := by
  refine (bytes_any v hv w).mono ?_
  rintro e w' ⟨s, rfl, ho, hb⟩
  refine ⟨s, rfl, ⟨bytesN_lt v, ?_⟩, hb⟩
  obtain ⟨_, ⟨rfl, h0⟩ | ⟨g, cap, cur, rfl, hg, hh, hn, hm, hs, ht⟩⟩ := ho
  · exact ⟨none, 0, by rw [h0], by omega, .inl h0⟩
  · refine ⟨_, cap, rfl, hn, .inr ⟨g, 0, rfl, ?_, fun j hj => ?_⟩⟩
    · rcases Nat.lt_or_ge g w'.heap.size with h | h
      · exact h
      · rw [Array.getElem?_eq_none h] at hh; cases hh
    · have h1 : cur.toList[j]? = some (.int .u8 ((bytesN v).getD j 0 : Nat)) := by
        have h2 : (cur.toList.take ((bytesN v).length * 1))[j]? = cur.toList[j]? := by rw [List.getElem?_take, if_pos (by omega)]
        rw [← h2, ht, List.getElem?_map, List.getElem?_eq_getElem hj, Option.map_some, List.getD, List.getElem?_eq_getElem hj, Option.getD_some]
      rw [Nat.zero_add, World.cell?]
      simp [hh]
      rw [← Array.getElem?_toList]
      simpa using h1
theorem hexc_lt {d : Nat} (h : d < 16) : hexc d < 256 := by unfold hexc; split <;> omega
theorem numV_hexc {d : Nat} (h : d < 16) : (numV (hexc d : Nat)).toNat = d := by
  unfold numV hexc
  split <;> split <;> omega
theorem isNumB_hexc {d : Nat} (h : d < 16) : isNumB (hexc d : Nat) = true := by
  unfold isNumB hexc
  split <;> simp <;> omega
theorem hexN_lt (v : Nat) : ∀ x ∈ hexN v, x < 256 := by
  intro x hx
  unfold hexN at hx
  obtain ⟨i, _, rfl⟩ := List.mem_map.1 hx
  exact hexc_lt (Nat.mod_lt _ (by omega))
theorem digs_hexN (v : Nat) : valBE 16 (digs (strOf (hexN v))) = v := by
  unfold digs
  rw [natsOf_strOf _ (hexN_lt v)]
  unfold hexN
  rw [List.map_map]
  have h := valBE_range 4 (nHex v) v
  rw [Nat.mod_eq_of_lt (lt_pow4 v)] at h
  refine Eq.trans (congrArg (valBE 16) (List.map_congr_left fun i _ => ?_)) h
  exact numV_hexc (Nat.mod_lt _ (by omega))
theorem nHex_le {v : Nat} (hv : v < P64 ^ 16) : nHex v ≤ 256 := by
  have := dlen2_le hv
  unfold nHex
  omega
theorem nHex_pos (v : Nat) : 1 ≤ nHex v := by unfold nHex; omega
theorem isText_hexN (v : Nat) : isTextB (strOf (hexN v)) = true := by
  have hl : (strOf (hexN v)).size = nHex v := by rw [strOf_size, hexN_length]
  have hp := nHex_pos v
  unfold isTextB allNum
  rw [natsOf_strOf _ (hexN_lt v), hl]
  simp only [Bool.and_eq_true, decide_eq_true_eq, Bool.or_eq_true, bne_iff_ne, beq_iff_eq, List.all_eq_true]
  refine ⟨⟨by omega, ?_⟩, fun x hx => ?_⟩
  · rcases Nat.lt_or_ge 1 (nHex v) with h1 | h1
    · left
      have hd : dlen 2 v ≠ 0 := by unfold nHex at h1; omega
      have hv0 : v ≠ 0 := by rintro rfl; exact hd rfl
      obtain ⟨_, h2⟩ := dlen_le_of (B := 2) (by omega) hv0
      have e : (hexN v).getD 0 0 = hexc (v / 2 ^ ((nHex v - 1) * 4) % 16) := by
        unfold hexN
        rw [List.getD, List.getElem?_map, List.getElem?_range (by omega)]
        rfl
      rw [e]
      have h4 := lt_pow4 v
      rw [← Nat.pow_mul] at h4
      have h3 : 1 ≤ v / 2 ^ ((nHex v - 1) * 4) := by
        refine Nat.div_pos (Nat.le_trans (Nat.pow_le_pow_right (by omega) ?_) h2) (Nat.two_pow_pos _)
        unfold nHex at h1 ⊢
        omega
      have h5 : v / 2 ^ ((nHex v - 1) * 4) < 16 := by
        rw [Nat.div_lt_iff_lt_mul (Nat.two_pow_pos _), show (16 : Nat) = 2 ^ 4 by decide, ← Nat.pow_add, show 4 + (nHex v - 1) * 4 = 4 * nHex v by omega]
        exact h4
      rw [Nat.mod_eq_of_lt h5]
      unfold hexc
      split <;> omega
    · right; omega
  · unfold hexN at hx
    obtain ⟨i, _, rfl⟩ := List.mem_map.1 hx
    exact isNumB_hexc (Nat.mod_lt _ (by omega))
theorem parse_text {v : Nat} (hv : v < P64 ^ 16) (w : World) : Calls Try.prog 19 #[.string (strOf (hexN v))] w fun e w' => e = .returned (.tuple #[.agg (natA v), .int .i64 0]) ∧ Below w.heap.size w w' := by
  have h := parse_ok (strOf (hexN v)) (isText_hexN v) (by rw [strOf_size, hexN_length]; exact nHex_le hv) w
  rwa [digs_hexN] at h

set_option maxRecDepth 100000 in
set_option maxHeartbeats 4000000 in
theorem holds_pos (zs ys xs : List Nat) (a a' a'' : Option Addr) (c c' c'' : Nat) (w : World) (hz : BytesAt zs (.slice a zs.length c) w) (hy : BytesAt ys (.slice a' ys.length c') w) (hx : BytesAt xs (.slice a'' xs.length c'') w)
    (h1 : zs.length ≤ 40) (h2 : ys.length ≤ 40) (h3 : xs.length ≤ 40) (x y z : Nat) (ex : valBE 256 zs = x) (ey : valBE 256 ys = y) (ez : valBE 256 xs = z) (h0 : 0 < y) :
    Calls Try.prog 10 #[.slice a zs.length c, .slice a' ys.length c', .slice a'' xs.length c''] w fun e w' => e = .returned (.bool true) ∧ Below w.heap.size w w' := by
  have hxM : x < 256 ^ 40 := by rw [← ex]; exact short40 hz.1 h1
  have hyM : y < 256 ^ 40 := by rw [← ey]; exact short40 hy.1 h2
  have hzM : z < 256 ^ 40 := by rw [← ez]; exact short40 hx.1 h3
  obtain ⟨⟨bx, by_, bz⟩, ⟨bxy, byz, bxyz⟩, ⟨mxy, mxyz, myz, mxz⟩, md⟩ := holds_bounds hxM hyM hzM (by decide) holds_M
  have HFX := Lib.hid (fun W hW => fb40 zs (.slice a zs.length c) W hW (by omega) x ex bx)
  have HFY := Lib.hid (fun W hW => fb40 ys (.slice a' ys.length c') W hW (by omega) y ey by_)
  have HFZ := Lib.hid (fun W hW => fb40 xs (.slice a'' xs.length c'') W hW (by omega) z ez bz)
  have A1 := add_fits x y bx by_ bxy
  have A2 := add_fits y x by_ bx (by rw [Nat.add_comm]; exact bxy)
  have A3 := add_fits (x + y) z bxy bz bxyz
  have A4 := add_fits y z by_ bz byz
  have A5 := add_fits x (y + z) bx byz (by rw [← Nat.add_assoc]; exact bxyz)
  have M1 := mul_fits x y bx by_ mxy
  have M2 := mul_fits y x by_ bx (by rw [Nat.mul_comm]; exact mxy)
  have M3 := mul_fits (x * y) z mxy bz mxyz
  have M4 := mul_fits y z by_ bz myz
  have M5 := mul_fits x (y * z) bx myz (by rw [← Nat.mul_assoc]; exact mxyz)
  have M6 := mul_fits x (y + z) bx byz md
  have M7 := mul_fits x z bx bz mxz
  have A6 := add_fits (x * y) (x * z) mxy mxz (by rw [← Nat.mul_add]; exact md)
  have S1 := sub_fits (x + y) y bxy by_ (Nat.le_add_left y x)
  rw [Nat.add_comm y x] at A2
  rw [← Nat.add_assoc] at A5
  rw [Nat.mul_comm y x] at M2
  rw [← Nat.mul_assoc] at M5
  rw [← Nat.mul_add] at A6
  rw [Nat.add_sub_cancel] at S1
  have Nab := neq_self bxy
  have Nabc := neq_self bxyz
  have Np := neq_self mxy
  have Nr := neq_self mxyz
  have Nd := neq_self md
  have Nx := neq_self bx
  have BR := Lib.hid mxyz
  have BY := Lib.hid (bytes_at (x * y * z) mxyz)
  have FB := Lib.hid (fun W s hs => fb40 (bytesN (x * y * z)) s W hs (by have := bytesN_len mxyz; omega) (x * y * z) (valBE_bytesN _) mxyz)
  have TX := Lib.hid (text_any (x * y * z) mxyz)
  have PA := Lib.hid (parse_text mxyz)
  have IZ := Lib.hid (isZ_false y by_ h0)
  have DV := divide_full (x * y * z) y mxyz by_ h0
  have hqt := Nat.div_add_mod (x * y * z) y
  have htl := Nat.mod_lt (x * y * z) h0
  rw [Nat.mul_comm] at hqt
  obtain ⟨quo, hquo⟩ : ∃ v, x * y * z / y = v := ⟨_, rfl⟩
  obtain ⟨t, ht⟩ : ∃ v, x * y * z % y = v := ⟨_, rfl⟩
  rw [hquo, ht] at DV hqt
  rw [ht] at htl
  clear hquo ht
  obtain ⟨whole, hwh⟩ : ∃ v, quo * y = v := ⟨_, rfl⟩
  have bq : quo < P64 ^ 16 := Nat.lt_of_le_of_lt (by
    have h1 : quo * 1 ≤ quo * y := Nat.mul_le_mul_left _ h0
    omega) mxyz
  have M8 := mul_fits quo y bq by_ (by omega)
  rw [hwh] at M8 hqt
  have A7 := add_fits whole t (by omega) (by omega) (by omega)
  rw [hqt] at A7
  have CM := Lib.hid (cmp_less t y by_ htl)
  clear hqt htl hwh bq
  obtain ⟨ab, hab⟩ : ∃ v, x + y = v := ⟨_, rfl⟩
  obtain ⟨bc, hbc⟩ : ∃ v, y + z = v := ⟨_, rfl⟩
  rw [hab] at A1 A2 A3 A5 S1 Nab Nabc
  rw [hbc] at A4 A5 M6 A6 Nd
  obtain ⟨abc, habc⟩ : ∃ v, ab + z = v := ⟨_, rfl⟩
  rw [habc] at A3 A5 Nabc
  obtain ⟨p, hp⟩ : ∃ v, x * y = v := ⟨_, rfl⟩
  rw [hp] at M1 M2 M3 M5 A6 Np Nr BR
  obtain ⟨r, hr⟩ : ∃ v, p * z = v := ⟨_, rfl⟩
  rw [hr] at M3 M5 Nr BR
  obtain ⟨s, hs⟩ : ∃ v, y * z = v := ⟨_, rfl⟩
  rw [hs] at M4 M5
  obtain ⟨d, hd⟩ : ∃ v, x * bc = v := ⟨_, rfl⟩
  rw [hd] at M6 A6 Nd
  obtain ⟨xz, hxz⟩ : ∃ v, x * z = v := ⟨_, rfl⟩
  rw [hxz] at M7 A6
  rw [hp, hr] at DV A7
  replace DV := Lib.hid DV
  replace M8 := Lib.hid M8
  replace A7 := Lib.hid A7
  rw [hp, hr] at BY FB TX PA
  replace A1 := Lib.hid A1
  replace A2 := Lib.hid A2
  replace A3 := Lib.hid A3
  replace A4 := Lib.hid A4
  replace A5 := Lib.hid A5
  replace A6 := Lib.hid A6
  replace M1 := Lib.hid M1
  replace M2 := Lib.hid M2
  replace M3 := Lib.hid M3
  replace M4 := Lib.hid M4
  replace M5 := Lib.hid M5
  replace M6 := Lib.hid M6
  replace M7 := Lib.hid M7
  replace S1 := Lib.hid S1
  have HBX := Lib.hid hz
  have HBY := Lib.hid hy
  have HBZ := Lib.hid hx
  obtain ⟨n, hlzs⟩ : ∃ n, zs.length = n := ⟨_, rfl⟩
  obtain ⟨n', hlys⟩ : ∃ n, ys.length = n := ⟨_, rfl⟩
  obtain ⟨n'', hlxs⟩ : ∃ n, xs.length = n := ⟨_, rfl⟩
  rw [hlzs] at HBX HFX h1 ⊢
  rw [hlys] at HBY HFY h2 ⊢
  rw [hlxs] at HBZ HFZ h3 ⊢
  clear hlzs hlys hlxs hz hy hx ex ey ez hxM hyM hzM bx by_ bz bxy byz bxyz mxy mxyz myz mxz md hab hbc habc hp hr hs hd hxz
  go_enter Try.func10, Try.ntmps10
  go_wp2_with fail
  refine (HFX.out _ HBX.out).mono ?_
  rintro e w1 ⟨rfl, hb⟩
  replace HBY := Lib.hid (HBY.out.kept hb)
  replace HBZ := Lib.hid (HBZ.out.kept hb)
  have HB := Lib.hid hb
  clear hb
  have R_x := Lib.hid (row_st0 w1 x)
  replace HB := Lib.hid (HB.out.trans ((bel_st0 w1 x).mono HB.out.size))
  replace HBY := Lib.hid (HBY.out.kept (bel_st0 w1 x))
  replace HBZ := Lib.hid (HBZ.out.kept (bel_st0 w1 x))
  go_wp2_with fail
  obtain ⟨W1, hW⟩ : ∃ W, (w1.alloc (.cells (natA 0) 28)).setRow w1.heap.size (natA x) = W := ⟨_, rfl⟩
  rw [hW] at HB R_x HBY HBZ ⊢
  obtain ⟨gx, hbn⟩ : ∃ b, w1.heap.size = b := ⟨_, rfl⟩
  rw [hbn] at R_x ⊢
  clear hW hbn w1
  refine (HFY.out _ HBY.out).mono ?_
  rintro e w2 ⟨rfl, hb⟩
  replace R_x := Lib.hid (keptW hb R_x.out)
  replace HBZ := Lib.hid (HBZ.out.kept hb)
  replace HB := Lib.hid (HB.out.trans (hb.mono HB.out.size))
  clear hb
  replace R_x := Lib.hid (row_st0_other w2 y _ _ R_x.out)
  have R_y := Lib.hid (row_st0 w2 y)
  replace HB := Lib.hid (HB.out.trans ((bel_st0 w2 y).mono HB.out.size))
  replace HBZ := Lib.hid (HBZ.out.kept (bel_st0 w2 y))
  go_wp2_with fail
  obtain ⟨W2, hW⟩ : ∃ W, (w2.alloc (.cells (natA 0) 28)).setRow w2.heap.size (natA y) = W := ⟨_, rfl⟩
  rw [hW] at HB R_x R_y HBZ ⊢
  obtain ⟨gy, hbn⟩ : ∃ b, w2.heap.size = b := ⟨_, rfl⟩
  rw [hbn] at R_y ⊢
  clear hW hbn w2
  refine (HFZ.out _ HBZ.out).mono ?_
  rintro e w3 ⟨rfl, hb⟩
  replace R_x := Lib.hid (keptW hb R_x.out)
  replace R_y := Lib.hid (keptW hb R_y.out)
  replace HB := Lib.hid (HB.out.trans (hb.mono HB.out.size))
  clear hb
  have q_x := R_x.out
  have l_x := rowN_lt q_x
  have q_y := R_y.out
  have l_y := rowN_lt q_y
  replace R_x := Lib.hid (row_st0_other w3 z _ _ R_x.out)
  replace R_y := Lib.hid (row_st0_other w3 z _ _ R_y.out)
  have R_z := Lib.hid (row_st0 w3 z)
  replace HB := Lib.hid (HB.out.trans ((bel_st0 w3 z).mono HB.out.size))
  go_wp2_with fail
  clear q_x l_x q_y l_y
  obtain ⟨W3, hW⟩ : ∃ W, (w3.alloc (.cells (natA 0) 28)).setRow w3.heap.size (natA z) = W := ⟨_, rfl⟩
  rw [hW] at HB R_x R_y R_z ⊢
  obtain ⟨gz, hbn⟩ : ∃ b, w3.heap.size = b := ⟨_, rfl⟩
  rw [hbn] at R_z ⊢
  clear hW hbn w3
  refine (A1.out _).mono ?_
  rintro e w4 ⟨rfl, hb⟩
  replace R_x := Lib.hid (keptW hb R_x.out)
  replace R_y := Lib.hid (keptW hb R_y.out)
  replace R_z := Lib.hid (keptW hb R_z.out)
  replace HB := Lib.hid (HB.out.trans (hb.mono HB.out.size))
  clear hb
  have q_y := R_y.out
  have l_y := rowN_lt q_y
  have q_x := R_x.out
  have l_x := rowN_lt q_x
  replace R_x := Lib.hid (row_st0_other w4 ab _ _ R_x.out)
  replace R_y := Lib.hid (row_st0_other w4 ab _ _ R_y.out)
  replace R_z := Lib.hid (row_st0_other w4 ab _ _ R_z.out)
  have R_ab := Lib.hid (row_st0 w4 ab)
  replace HB := Lib.hid (HB.out.trans ((bel_st0 w4 ab).mono HB.out.size))
  go_wp2_with fail
  clear q_y l_y q_x l_x
  obtain ⟨W4, hW⟩ : ∃ W, (w4.alloc (.cells (natA 0) 28)).setRow w4.heap.size (natA ab) = W := ⟨_, rfl⟩
  rw [hW] at HB R_x R_y R_z R_ab ⊢
  obtain ⟨gab, hbn⟩ : ∃ b, w4.heap.size = b := ⟨_, rfl⟩
  rw [hbn] at R_ab ⊢
  clear hW hbn w4
  refine (A2.out _).mono ?_
  rintro e w5 ⟨rfl, hb⟩
  replace R_x := Lib.hid (keptW hb R_x.out)
  replace R_y := Lib.hid (keptW hb R_y.out)
  replace R_z := Lib.hid (keptW hb R_z.out)
  replace R_ab := Lib.hid (keptW hb R_ab.out)
  replace HB := Lib.hid (HB.out.trans (hb.mono HB.out.size))
  clear hb
  have q_ab := R_ab.out
  have l_ab := rowN_lt q_ab
  have q_z := R_z.out
  have l_z := rowN_lt q_z
  replace R_x := Lib.hid (row_st0_other w5 ab _ _ R_x.out)
  replace R_y := Lib.hid (row_st0_other w5 ab _ _ R_y.out)
  replace R_z := Lib.hid (row_st0_other w5 ab _ _ R_z.out)
  replace R_ab := Lib.hid (row_st0_other w5 ab _ _ R_ab.out)
  have R_ba := Lib.hid (row_st0 w5 ab)
  replace HB := Lib.hid (HB.out.trans ((bel_st0 w5 ab).mono HB.out.size))
  go_wp2_with fail
  clear q_ab l_ab q_z l_z
  obtain ⟨W5, hW⟩ : ∃ W, (w5.alloc (.cells (natA 0) 28)).setRow w5.heap.size (natA ab) = W := ⟨_, rfl⟩
  rw [hW] at HB R_x R_y R_z R_ab R_ba ⊢
  obtain ⟨gba, hbn⟩ : ∃ b, w5.heap.size = b := ⟨_, rfl⟩
  rw [hbn] at R_ba ⊢
  clear hW hbn w5
  refine (A3.out _).mono ?_
  rintro e w6 ⟨rfl, hb⟩
  replace R_x := Lib.hid (keptW hb R_x.out)
  replace R_y := Lib.hid (keptW hb R_y.out)
  replace R_z := Lib.hid (keptW hb R_z.out)
  replace R_ab := Lib.hid (keptW hb R_ab.out)
  replace R_ba := Lib.hid (keptW hb R_ba.out)
  replace HB := Lib.hid (HB.out.trans (hb.mono HB.out.size))
  clear hb
  have q_y := R_y.out
  have l_y := rowN_lt q_y
  have q_z := R_z.out
  have l_z := rowN_lt q_z
  replace R_x := Lib.hid (row_st0_other w6 abc _ _ R_x.out)
  replace R_y := Lib.hid (row_st0_other w6 abc _ _ R_y.out)
  replace R_z := Lib.hid (row_st0_other w6 abc _ _ R_z.out)
  replace R_ab := Lib.hid (row_st0_other w6 abc _ _ R_ab.out)
  replace R_ba := Lib.hid (row_st0_other w6 abc _ _ R_ba.out)
  have R_abc := Lib.hid (row_st0 w6 abc)
  replace HB := Lib.hid (HB.out.trans ((bel_st0 w6 abc).mono HB.out.size))
  go_wp2_with fail
  clear q_y l_y q_z l_z
  obtain ⟨W6, hW⟩ : ∃ W, (w6.alloc (.cells (natA 0) 28)).setRow w6.heap.size (natA abc) = W := ⟨_, rfl⟩
  rw [hW] at HB R_x R_y R_z R_ab R_ba R_abc ⊢
  obtain ⟨gabc, hbn⟩ : ∃ b, w6.heap.size = b := ⟨_, rfl⟩
  rw [hbn] at R_abc ⊢
  clear hW hbn w6
  refine (A4.out _).mono ?_
  rintro e w7 ⟨rfl, hb⟩
  replace R_x := Lib.hid (keptW hb R_x.out)
  replace R_y := Lib.hid (keptW hb R_y.out)
  replace R_z := Lib.hid (keptW hb R_z.out)
  replace R_ab := Lib.hid (keptW hb R_ab.out)
  replace R_ba := Lib.hid (keptW hb R_ba.out)
  replace R_abc := Lib.hid (keptW hb R_abc.out)
  replace HB := Lib.hid (HB.out.trans (hb.mono HB.out.size))
  clear hb
  have q_x := R_x.out
  have l_x := rowN_lt q_x
  replace R_x := Lib.hid (row_st0_other w7 bc _ _ R_x.out)
  replace R_y := Lib.hid (row_st0_other w7 bc _ _ R_y.out)
  replace R_z := Lib.hid (row_st0_other w7 bc _ _ R_z.out)
  replace R_ab := Lib.hid (row_st0_other w7 bc _ _ R_ab.out)
  replace R_ba := Lib.hid (row_st0_other w7 bc _ _ R_ba.out)
  replace R_abc := Lib.hid (row_st0_other w7 bc _ _ R_abc.out)
  have R_bc := Lib.hid (row_st0 w7 bc)
  replace HB := Lib.hid (HB.out.trans ((bel_st0 w7 bc).mono HB.out.size))
  go_wp2_with fail
  clear q_x l_x
  obtain ⟨W7, hW⟩ : ∃ W, (w7.alloc (.cells (natA 0) 28)).setRow w7.heap.size (natA bc) = W := ⟨_, rfl⟩
  rw [hW] at HB R_x R_y R_z R_ab R_ba R_abc R_bc ⊢
  obtain ⟨gbc, hbn⟩ : ∃ b, w7.heap.size = b := ⟨_, rfl⟩
  rw [hbn] at R_bc ⊢
  clear hW hbn w7
  refine (A5.out _).mono ?_
  rintro e w8 ⟨rfl, hb⟩
  replace R_x := Lib.hid (keptW hb R_x.out)
  replace R_y := Lib.hid (keptW hb R_y.out)
  replace R_z := Lib.hid (keptW hb R_z.out)
  replace R_ab := Lib.hid (keptW hb R_ab.out)
  replace R_ba := Lib.hid (keptW hb R_ba.out)
  replace R_abc := Lib.hid (keptW hb R_abc.out)
  replace R_bc := Lib.hid (keptW hb R_bc.out)
  replace HB := Lib.hid (HB.out.trans (hb.mono HB.out.size))
  clear hb
  have q_ab := R_ab.out
  have l_ab := rowN_lt q_ab
  have q_ba := R_ba.out
  have l_ba := rowN_lt q_ba
  have q_abc := R_abc.out
  have l_abc := rowN_lt q_abc
  have q_x := R_x.out
  have l_x := rowN_lt q_x
  have q_y := R_y.out
  have l_y := rowN_lt q_y
  replace R_x := Lib.hid (row_st0_other w8 abc _ _ R_x.out)
  replace R_y := Lib.hid (row_st0_other w8 abc _ _ R_y.out)
  replace R_z := Lib.hid (row_st0_other w8 abc _ _ R_z.out)
  replace R_ab := Lib.hid (row_st0_other w8 abc _ _ R_ab.out)
  replace R_ba := Lib.hid (row_st0_other w8 abc _ _ R_ba.out)
  replace R_abc := Lib.hid (row_st0_other w8 abc _ _ R_abc.out)
  replace R_bc := Lib.hid (row_st0_other w8 abc _ _ R_bc.out)
  have R_cab := Lib.hid (row_st0 w8 abc)
  replace HB := Lib.hid (HB.out.trans ((bel_st0 w8 abc).mono HB.out.size))
  go_wp2_with fail
  clear q_ab l_ab q_ba l_ba q_abc l_abc q_x l_x q_y l_y
  obtain ⟨W8, hW⟩ : ∃ W, (w8.alloc (.cells (natA 0) 28)).setRow w8.heap.size (natA abc) = W := ⟨_, rfl⟩
  rw [hW] at HB R_x R_y R_z R_ab R_ba R_abc R_bc R_cab ⊢
  obtain ⟨gcab, hbn⟩ : ∃ b, w8.heap.size = b := ⟨_, rfl⟩
  rw [hbn] at R_cab ⊢
  clear hW hbn w8
  refine (M1.out _).mono ?_
  rintro e w9 ⟨rfl, hb⟩
  replace R_x := Lib.hid (keptW hb R_x.out)
  replace R_y := Lib.hid (keptW hb R_y.out)
  replace R_z := Lib.hid (keptW hb R_z.out)
  replace R_ab := Lib.hid (keptW hb R_ab.out)
  replace R_ba := Lib.hid (keptW hb R_ba.out)
  replace R_abc := Lib.hid (keptW hb R_abc.out)
  replace R_bc := Lib.hid (keptW hb R_bc.out)
  replace R_cab := Lib.hid (keptW hb R_cab.out)
  replace HB := Lib.hid (HB.out.trans (hb.mono HB.out.size))
  clear hb
  have q_y := R_y.out
  have l_y := rowN_lt q_y
  have q_x := R_x.out
  have l_x := rowN_lt q_x
  replace R_x := Lib.hid (row_st0_other w9 p _ _ R_x.out)
  replace R_y := Lib.hid (row_st0_other w9 p _ _ R_y.out)
  replace R_z := Lib.hid (row_st0_other w9 p _ _ R_z.out)
  replace R_ab := Lib.hid (row_st0_other w9 p _ _ R_ab.out)
  replace R_ba := Lib.hid (row_st0_other w9 p _ _ R_ba.out)
  replace R_abc := Lib.hid (row_st0_other w9 p _ _ R_abc.out)
  replace R_bc := Lib.hid (row_st0_other w9 p _ _ R_bc.out)
  replace R_cab := Lib.hid (row_st0_other w9 p _ _ R_cab.out)
  have R_p := Lib.hid (row_st0 w9 p)
  replace HB := Lib.hid (HB.out.trans ((bel_st0 w9 p).mono HB.out.size))
  go_wp2_with fail
  clear q_y l_y q_x l_x
  obtain ⟨W9, hW⟩ : ∃ W, (w9.alloc (.cells (natA 0) 28)).setRow w9.heap.size (natA p) = W := ⟨_, rfl⟩
  rw [hW] at HB R_x R_y R_z R_ab R_ba R_abc R_bc R_cab R_p ⊢
  obtain ⟨gp, hbn⟩ : ∃ b, w9.heap.size = b := ⟨_, rfl⟩
  rw [hbn] at R_p ⊢
  clear hW hbn w9
  refine (M2.out _).mono ?_
  rintro e w10 ⟨rfl, hb⟩
  replace R_x := Lib.hid (keptW hb R_x.out)
  replace R_y := Lib.hid (keptW hb R_y.out)
  replace R_z := Lib.hid (keptW hb R_z.out)
  replace R_ab := Lib.hid (keptW hb R_ab.out)
  replace R_ba := Lib.hid (keptW hb R_ba.out)
  replace R_abc := Lib.hid (keptW hb R_abc.out)
  replace R_bc := Lib.hid (keptW hb R_bc.out)
  replace R_cab := Lib.hid (keptW hb R_cab.out)
  replace R_p := Lib.hid (keptW hb R_p.out)
  replace HB := Lib.hid (HB.out.trans (hb.mono HB.out.size))
  clear hb
  have q_p := R_p.out
  have l_p := rowN_lt q_p
  have q_z := R_z.out
  have l_z := rowN_lt q_z
  replace R_x := Lib.hid (row_st0_other w10 p _ _ R_x.out)
  replace R_y := Lib.hid (row_st0_other w10 p _ _ R_y.out)
  replace R_z := Lib.hid (row_st0_other w10 p _ _ R_z.out)
  replace R_ab := Lib.hid (row_st0_other w10 p _ _ R_ab.out)
  replace R_ba := Lib.hid (row_st0_other w10 p _ _ R_ba.out)
  replace R_abc := Lib.hid (row_st0_other w10 p _ _ R_abc.out)
  replace R_bc := Lib.hid (row_st0_other w10 p _ _ R_bc.out)
  replace R_cab := Lib.hid (row_st0_other w10 p _ _ R_cab.out)
  replace R_p := Lib.hid (row_st0_other w10 p _ _ R_p.out)
  have R_q := Lib.hid (row_st0 w10 p)
  replace HB := Lib.hid (HB.out.trans ((bel_st0 w10 p).mono HB.out.size))
  go_wp2_with fail
  clear q_p l_p q_z l_z
  obtain ⟨W10, hW⟩ : ∃ W, (w10.alloc (.cells (natA 0) 28)).setRow w10.heap.size (natA p) = W := ⟨_, rfl⟩
  rw [hW] at HB R_x R_y R_z R_ab R_ba R_abc R_bc R_cab R_p R_q ⊢
  obtain ⟨gq, hbn⟩ : ∃ b, w10.heap.size = b := ⟨_, rfl⟩
  rw [hbn] at R_q ⊢
  clear hW hbn w10
  refine (M3.out _).mono ?_
  rintro e w11 ⟨rfl, hb⟩
  replace R_x := Lib.hid (keptW hb R_x.out)
  replace R_y := Lib.hid (keptW hb R_y.out)
  replace R_z := Lib.hid (keptW hb R_z.out)
  replace R_ab := Lib.hid (keptW hb R_ab.out)
  replace R_ba := Lib.hid (keptW hb R_ba.out)
  replace R_abc := Lib.hid (keptW hb R_abc.out)
  replace R_bc := Lib.hid (keptW hb R_bc.out)
  replace R_cab := Lib.hid (keptW hb R_cab.out)
  replace R_p := Lib.hid (keptW hb R_p.out)
  replace R_q := Lib.hid (keptW hb R_q.out)
  replace HB := Lib.hid (HB.out.trans (hb.mono HB.out.size))
  clear hb
  have q_y := R_y.out
  have l_y := rowN_lt q_y
  have q_z := R_z.out
  have l_z := rowN_lt q_z
  replace R_x := Lib.hid (row_st0_other w11 r _ _ R_x.out)
  replace R_y := Lib.hid (row_st0_other w11 r _ _ R_y.out)
  replace R_z := Lib.hid (row_st0_other w11 r _ _ R_z.out)
  replace R_ab := Lib.hid (row_st0_other w11 r _ _ R_ab.out)
  replace R_ba := Lib.hid (row_st0_other w11 r _ _ R_ba.out)
  replace R_abc := Lib.hid (row_st0_other w11 r _ _ R_abc.out)
  replace R_bc := Lib.hid (row_st0_other w11 r _ _ R_bc.out)
  replace R_cab := Lib.hid (row_st0_other w11 r _ _ R_cab.out)
  replace R_p := Lib.hid (row_st0_other w11 r _ _ R_p.out)
  replace R_q := Lib.hid (row_st0_other w11 r _ _ R_q.out)
  have R_r := Lib.hid (row_st0 w11 r)
  replace HB := Lib.hid (HB.out.trans ((bel_st0 w11 r).mono HB.out.size))
  go_wp2_with fail
  clear q_y l_y q_z l_z
  obtain ⟨W11, hW⟩ : ∃ W, (w11.alloc (.cells (natA 0) 28)).setRow w11.heap.size (natA r) = W := ⟨_, rfl⟩
  rw [hW] at HB R_x R_y R_z R_ab R_ba R_abc R_bc R_cab R_p R_q R_r ⊢
  obtain ⟨gr, hbn⟩ : ∃ b, w11.heap.size = b := ⟨_, rfl⟩
  rw [hbn] at R_r ⊢
  clear hW hbn w11
  refine (M4.out _).mono ?_
  rintro e w12 ⟨rfl, hb⟩
  replace R_x := Lib.hid (keptW hb R_x.out)
  replace R_y := Lib.hid (keptW hb R_y.out)
  replace R_z := Lib.hid (keptW hb R_z.out)
  replace R_ab := Lib.hid (keptW hb R_ab.out)
  replace R_ba := Lib.hid (keptW hb R_ba.out)
  replace R_abc := Lib.hid (keptW hb R_abc.out)
  replace R_bc := Lib.hid (keptW hb R_bc.out)
  replace R_cab := Lib.hid (keptW hb R_cab.out)
  replace R_p := Lib.hid (keptW hb R_p.out)
  replace R_q := Lib.hid (keptW hb R_q.out)
  replace R_r := Lib.hid (keptW hb R_r.out)
  replace HB := Lib.hid (HB.out.trans (hb.mono HB.out.size))
  clear hb
  have q_x := R_x.out
  have l_x := rowN_lt q_x
  replace R_x := Lib.hid (row_st0_other w12 s _ _ R_x.out)
  replace R_y := Lib.hid (row_st0_other w12 s _ _ R_y.out)
  replace R_z := Lib.hid (row_st0_other w12 s _ _ R_z.out)
  replace R_ab := Lib.hid (row_st0_other w12 s _ _ R_ab.out)
  replace R_ba := Lib.hid (row_st0_other w12 s _ _ R_ba.out)
  replace R_abc := Lib.hid (row_st0_other w12 s _ _ R_abc.out)
  replace R_bc := Lib.hid (row_st0_other w12 s _ _ R_bc.out)
  replace R_cab := Lib.hid (row_st0_other w12 s _ _ R_cab.out)
  replace R_p := Lib.hid (row_st0_other w12 s _ _ R_p.out)
  replace R_q := Lib.hid (row_st0_other w12 s _ _ R_q.out)
  replace R_r := Lib.hid (row_st0_other w12 s _ _ R_r.out)
  have R_s := Lib.hid (row_st0 w12 s)
  replace HB := Lib.hid (HB.out.trans ((bel_st0 w12 s).mono HB.out.size))
  go_wp2_with fail
  clear q_x l_x
  obtain ⟨W12, hW⟩ : ∃ W, (w12.alloc (.cells (natA 0) 28)).setRow w12.heap.size (natA s) = W := ⟨_, rfl⟩
  rw [hW] at HB R_x R_y R_z R_ab R_ba R_abc R_bc R_cab R_p R_q R_r R_s ⊢
  obtain ⟨gs, hbn⟩ : ∃ b, w12.heap.size = b := ⟨_, rfl⟩
  rw [hbn] at R_s ⊢
  clear hW hbn w12
  refine (M5.out _).mono ?_
  rintro e w13 ⟨rfl, hb⟩
  replace R_x := Lib.hid (keptW hb R_x.out)
  replace R_y := Lib.hid (keptW hb R_y.out)
  replace R_z := Lib.hid (keptW hb R_z.out)
  replace R_ab := Lib.hid (keptW hb R_ab.out)
  replace R_ba := Lib.hid (keptW hb R_ba.out)
  replace R_abc := Lib.hid (keptW hb R_abc.out)
  replace R_bc := Lib.hid (keptW hb R_bc.out)
  replace R_cab := Lib.hid (keptW hb R_cab.out)
  replace R_p := Lib.hid (keptW hb R_p.out)
  replace R_q := Lib.hid (keptW hb R_q.out)
  replace R_r := Lib.hid (keptW hb R_r.out)
  replace R_s := Lib.hid (keptW hb R_s.out)
  replace HB := Lib.hid (HB.out.trans (hb.mono HB.out.size))
  clear hb
  have q_x := R_x.out
  have l_x := rowN_lt q_x
  have q_bc := R_bc.out
  have l_bc := rowN_lt q_bc
  replace R_x := Lib.hid (row_st0_other w13 r _ _ R_x.out)
  replace R_y := Lib.hid (row_st0_other w13 r _ _ R_y.out)
  replace R_z := Lib.hid (row_st0_other w13 r _ _ R_z.out)
  replace R_ab := Lib.hid (row_st0_other w13 r _ _ R_ab.out)
  replace R_ba := Lib.hid (row_st0_other w13 r _ _ R_ba.out)
  replace R_abc := Lib.hid (row_st0_other w13 r _ _ R_abc.out)
  replace R_bc := Lib.hid (row_st0_other w13 r _ _ R_bc.out)
  replace R_cab := Lib.hid (row_st0_other w13 r _ _ R_cab.out)
  replace R_p := Lib.hid (row_st0_other w13 r _ _ R_p.out)
  replace R_q := Lib.hid (row_st0_other w13 r _ _ R_q.out)
  replace R_r := Lib.hid (row_st0_other w13 r _ _ R_r.out)
  replace R_s := Lib.hid (row_st0_other w13 r _ _ R_s.out)
  have R_u := Lib.hid (row_st0 w13 r)
  replace HB := Lib.hid (HB.out.trans ((bel_st0 w13 r).mono HB.out.size))
  go_wp2_with fail
  clear q_x l_x q_bc l_bc
  obtain ⟨W13, hW⟩ : ∃ W, (w13.alloc (.cells (natA 0) 28)).setRow w13.heap.size (natA r) = W := ⟨_, rfl⟩
  rw [hW] at HB R_x R_y R_z R_ab R_ba R_abc R_bc R_cab R_p R_q R_r R_s R_u ⊢
  obtain ⟨gu, hbn⟩ : ∃ b, w13.heap.size = b := ⟨_, rfl⟩
  rw [hbn] at R_u ⊢
  clear hW hbn w13
  refine (M6.out _).mono ?_
  rintro e w14 ⟨rfl, hb⟩
  replace R_x := Lib.hid (keptW hb R_x.out)
  replace R_y := Lib.hid (keptW hb R_y.out)
  replace R_z := Lib.hid (keptW hb R_z.out)
  replace R_ab := Lib.hid (keptW hb R_ab.out)
  replace R_ba := Lib.hid (keptW hb R_ba.out)
  replace R_abc := Lib.hid (keptW hb R_abc.out)
  replace R_bc := Lib.hid (keptW hb R_bc.out)
  replace R_cab := Lib.hid (keptW hb R_cab.out)
  replace R_p := Lib.hid (keptW hb R_p.out)
  replace R_q := Lib.hid (keptW hb R_q.out)
  replace R_r := Lib.hid (keptW hb R_r.out)
  replace R_s := Lib.hid (keptW hb R_s.out)
  replace R_u := Lib.hid (keptW hb R_u.out)
  replace HB := Lib.hid (HB.out.trans (hb.mono HB.out.size))
  clear hb
  have q_x := R_x.out
  have l_x := rowN_lt q_x
  have q_z := R_z.out
  have l_z := rowN_lt q_z
  replace R_x := Lib.hid (row_st0_other w14 d _ _ R_x.out)
  replace R_y := Lib.hid (row_st0_other w14 d _ _ R_y.out)
  replace R_z := Lib.hid (row_st0_other w14 d _ _ R_z.out)
  replace R_ab := Lib.hid (row_st0_other w14 d _ _ R_ab.out)
  replace R_ba := Lib.hid (row_st0_other w14 d _ _ R_ba.out)
  replace R_abc := Lib.hid (row_st0_other w14 d _ _ R_abc.out)
  replace R_bc := Lib.hid (row_st0_other w14 d _ _ R_bc.out)
  replace R_cab := Lib.hid (row_st0_other w14 d _ _ R_cab.out)
  replace R_p := Lib.hid (row_st0_other w14 d _ _ R_p.out)
  replace R_q := Lib.hid (row_st0_other w14 d _ _ R_q.out)
  replace R_r := Lib.hid (row_st0_other w14 d _ _ R_r.out)
  replace R_s := Lib.hid (row_st0_other w14 d _ _ R_s.out)
  replace R_u := Lib.hid (row_st0_other w14 d _ _ R_u.out)
  have R_v := Lib.hid (row_st0 w14 d)
  replace HB := Lib.hid (HB.out.trans ((bel_st0 w14 d).mono HB.out.size))
  go_wp2_with fail
  clear q_x l_x q_z l_z
  obtain ⟨W14, hW⟩ : ∃ W, (w14.alloc (.cells (natA 0) 28)).setRow w14.heap.size (natA d) = W := ⟨_, rfl⟩
  rw [hW] at HB R_x R_y R_z R_ab R_ba R_abc R_bc R_cab R_p R_q R_r R_s R_u R_v ⊢
  obtain ⟨gv, hbn⟩ : ∃ b, w14.heap.size = b := ⟨_, rfl⟩
  rw [hbn] at R_v ⊢
  clear hW hbn w14
  refine (M7.out _).mono ?_
  rintro e w15 ⟨rfl, hb⟩
  replace R_x := Lib.hid (keptW hb R_x.out)
  replace R_y := Lib.hid (keptW hb R_y.out)
  replace R_z := Lib.hid (keptW hb R_z.out)
  replace R_ab := Lib.hid (keptW hb R_ab.out)
  replace R_ba := Lib.hid (keptW hb R_ba.out)
  replace R_abc := Lib.hid (keptW hb R_abc.out)
  replace R_bc := Lib.hid (keptW hb R_bc.out)
  replace R_cab := Lib.hid (keptW hb R_cab.out)
  replace R_p := Lib.hid (keptW hb R_p.out)
  replace R_q := Lib.hid (keptW hb R_q.out)
  replace R_r := Lib.hid (keptW hb R_r.out)
  replace R_s := Lib.hid (keptW hb R_s.out)
  replace R_u := Lib.hid (keptW hb R_u.out)
  replace R_v := Lib.hid (keptW hb R_v.out)
  replace HB := Lib.hid (HB.out.trans (hb.mono HB.out.size))
  clear hb
  have q_p := R_p.out
  have l_p := rowN_lt q_p
  replace R_x := Lib.hid (row_st0_other w15 xz _ _ R_x.out)
  replace R_y := Lib.hid (row_st0_other w15 xz _ _ R_y.out)
  replace R_z := Lib.hid (row_st0_other w15 xz _ _ R_z.out)
  replace R_ab := Lib.hid (row_st0_other w15 xz _ _ R_ab.out)
  replace R_ba := Lib.hid (row_st0_other w15 xz _ _ R_ba.out)
  replace R_abc := Lib.hid (row_st0_other w15 xz _ _ R_abc.out)
  replace R_bc := Lib.hid (row_st0_other w15 xz _ _ R_bc.out)
  replace R_cab := Lib.hid (row_st0_other w15 xz _ _ R_cab.out)
  replace R_p := Lib.hid (row_st0_other w15 xz _ _ R_p.out)
  replace R_q := Lib.hid (row_st0_other w15 xz _ _ R_q.out)
  replace R_r := Lib.hid (row_st0_other w15 xz _ _ R_r.out)
  replace R_s := Lib.hid (row_st0_other w15 xz _ _ R_s.out)
  replace R_u := Lib.hid (row_st0_other w15 xz _ _ R_u.out)
  replace R_v := Lib.hid (row_st0_other w15 xz _ _ R_v.out)
  have R_xz := Lib.hid (row_st0 w15 xz)
  replace HB := Lib.hid (HB.out.trans ((bel_st0 w15 xz).mono HB.out.size))
  go_wp2_with fail
  clear q_p l_p
  obtain ⟨W15, hW⟩ : ∃ W, (w15.alloc (.cells (natA 0) 28)).setRow w15.heap.size (natA xz) = W := ⟨_, rfl⟩
  rw [hW] at HB R_x R_y R_z R_ab R_ba R_abc R_bc R_cab R_p R_q R_r R_s R_u R_v R_xz ⊢
  obtain ⟨gxz, hbn⟩ : ∃ b, w15.heap.size = b := ⟨_, rfl⟩
  rw [hbn] at R_xz ⊢
  clear hW hbn w15
  refine (A6.out _).mono ?_
  rintro e w16 ⟨rfl, hb⟩
  replace R_x := Lib.hid (keptW hb R_x.out)
  replace R_y := Lib.hid (keptW hb R_y.out)
  replace R_z := Lib.hid (keptW hb R_z.out)
  replace R_ab := Lib.hid (keptW hb R_ab.out)
  replace R_ba := Lib.hid (keptW hb R_ba.out)
  replace R_abc := Lib.hid (keptW hb R_abc.out)
  replace R_bc := Lib.hid (keptW hb R_bc.out)
  replace R_cab := Lib.hid (keptW hb R_cab.out)
  replace R_p := Lib.hid (keptW hb R_p.out)
  replace R_q := Lib.hid (keptW hb R_q.out)
  replace R_r := Lib.hid (keptW hb R_r.out)
  replace R_s := Lib.hid (keptW hb R_s.out)
  replace R_u := Lib.hid (keptW hb R_u.out)
  replace R_v := Lib.hid (keptW hb R_v.out)
  replace R_xz := Lib.hid (keptW hb R_xz.out)
  replace HB := Lib.hid (HB.out.trans (hb.mono HB.out.size))
  clear hb
  have q_p := R_p.out
  have l_p := rowN_lt q_p
  have q_q := R_q.out
  have l_q := rowN_lt q_q
  have q_r := R_r.out
  have l_r := rowN_lt q_r
  have q_u := R_u.out
  have l_u := rowN_lt q_u
  have q_v := R_v.out
  have l_v := rowN_lt q_v
  have q_ab := R_ab.out
  have l_ab := rowN_lt q_ab
  have q_y := R_y.out
  have l_y := rowN_lt q_y
  replace R_x := Lib.hid (row_st0_other w16 d _ _ R_x.out)
  replace R_y := Lib.hid (row_st0_other w16 d _ _ R_y.out)
  replace R_z := Lib.hid (row_st0_other w16 d _ _ R_z.out)
  replace R_ab := Lib.hid (row_st0_other w16 d _ _ R_ab.out)
  replace R_ba := Lib.hid (row_st0_other w16 d _ _ R_ba.out)
  replace R_abc := Lib.hid (row_st0_other w16 d _ _ R_abc.out)
  replace R_bc := Lib.hid (row_st0_other w16 d _ _ R_bc.out)
  replace R_cab := Lib.hid (row_st0_other w16 d _ _ R_cab.out)
  replace R_p := Lib.hid (row_st0_other w16 d _ _ R_p.out)
  replace R_q := Lib.hid (row_st0_other w16 d _ _ R_q.out)
  replace R_r := Lib.hid (row_st0_other w16 d _ _ R_r.out)
  replace R_s := Lib.hid (row_st0_other w16 d _ _ R_s.out)
  replace R_u := Lib.hid (row_st0_other w16 d _ _ R_u.out)
  replace R_v := Lib.hid (row_st0_other w16 d _ _ R_v.out)
  replace R_xz := Lib.hid (row_st0_other w16 d _ _ R_xz.out)
  have R_sum := Lib.hid (row_st0 w16 d)
  replace HB := Lib.hid (HB.out.trans ((bel_st0 w16 d).mono HB.out.size))
  go_wp2_with fail
  clear q_p l_p q_q l_q q_r l_r q_u l_u q_v l_v q_ab l_ab q_y l_y
  obtain ⟨W16, hW⟩ : ∃ W, (w16.alloc (.cells (natA 0) 28)).setRow w16.heap.size (natA d) = W := ⟨_, rfl⟩
  rw [hW] at HB R_x R_y R_z R_ab R_ba R_abc R_bc R_cab R_p R_q R_r R_s R_u R_v R_xz R_sum ⊢
  obtain ⟨gsum, hbn⟩ : ∃ b, w16.heap.size = b := ⟨_, rfl⟩
  rw [hbn] at R_sum ⊢
  clear hW hbn w16
  refine (S1.out _).mono ?_
  rintro e w17 ⟨rfl, hb⟩
  replace R_x := Lib.hid (keptW hb R_x.out)
  replace R_y := Lib.hid (keptW hb R_y.out)
  replace R_z := Lib.hid (keptW hb R_z.out)
  replace R_ab := Lib.hid (keptW hb R_ab.out)
  replace R_ba := Lib.hid (keptW hb R_ba.out)
  replace R_abc := Lib.hid (keptW hb R_abc.out)
  replace R_bc := Lib.hid (keptW hb R_bc.out)
  replace R_cab := Lib.hid (keptW hb R_cab.out)
  replace R_p := Lib.hid (keptW hb R_p.out)
  replace R_q := Lib.hid (keptW hb R_q.out)
  replace R_r := Lib.hid (keptW hb R_r.out)
  replace R_s := Lib.hid (keptW hb R_s.out)
  replace R_u := Lib.hid (keptW hb R_u.out)
  replace R_v := Lib.hid (keptW hb R_v.out)
  replace R_xz := Lib.hid (keptW hb R_xz.out)
  replace R_sum := Lib.hid (keptW hb R_sum.out)
  replace HB := Lib.hid (HB.out.trans (hb.mono HB.out.size))
  clear hb
  have q_x := R_x.out
  have l_x := rowN_lt q_x
  have q_y := R_y.out
  have l_y := rowN_lt q_y
  replace R_x := Lib.hid (row_st0_other w17 x _ _ R_x.out)
  replace R_y := Lib.hid (row_st0_other w17 x _ _ R_y.out)
  replace R_z := Lib.hid (row_st0_other w17 x _ _ R_z.out)
  replace R_ab := Lib.hid (row_st0_other w17 x _ _ R_ab.out)
  replace R_ba := Lib.hid (row_st0_other w17 x _ _ R_ba.out)
  replace R_abc := Lib.hid (row_st0_other w17 x _ _ R_abc.out)
  replace R_bc := Lib.hid (row_st0_other w17 x _ _ R_bc.out)
  replace R_cab := Lib.hid (row_st0_other w17 x _ _ R_cab.out)
  replace R_p := Lib.hid (row_st0_other w17 x _ _ R_p.out)
  replace R_q := Lib.hid (row_st0_other w17 x _ _ R_q.out)
  replace R_r := Lib.hid (row_st0_other w17 x _ _ R_r.out)
  replace R_s := Lib.hid (row_st0_other w17 x _ _ R_s.out)
  replace R_u := Lib.hid (row_st0_other w17 x _ _ R_u.out)
  replace R_v := Lib.hid (row_st0_other w17 x _ _ R_v.out)
  replace R_xz := Lib.hid (row_st0_other w17 x _ _ R_xz.out)
  replace R_sum := Lib.hid (row_st0_other w17 x _ _ R_sum.out)
  have R_back := Lib.hid (row_st0 w17 x)
  replace HB := Lib.hid (HB.out.trans ((bel_st0 w17 x).mono HB.out.size))
  go_wp2_with fail
  clear q_x l_x q_y l_y
  obtain ⟨W17, hW⟩ : ∃ W, (w17.alloc (.cells (natA 0) 28)).setRow w17.heap.size (natA x) = W := ⟨_, rfl⟩
  rw [hW] at HB R_x R_y R_z R_ab R_ba R_abc R_bc R_cab R_p R_q R_r R_s R_u R_v R_xz R_sum R_back ⊢
  obtain ⟨gback, hbn⟩ : ∃ b, w17.heap.size = b := ⟨_, rfl⟩
  rw [hbn] at R_back ⊢
  clear hW hbn w17
  refine (IZ.out _).mono ?_
  rintro e w18 ⟨rfl, hb⟩
  replace R_x := Lib.hid (keptW hb R_x.out)
  replace R_y := Lib.hid (keptW hb R_y.out)
  replace R_z := Lib.hid (keptW hb R_z.out)
  replace R_ab := Lib.hid (keptW hb R_ab.out)
  replace R_ba := Lib.hid (keptW hb R_ba.out)
  replace R_abc := Lib.hid (keptW hb R_abc.out)
  replace R_bc := Lib.hid (keptW hb R_bc.out)
  replace R_cab := Lib.hid (keptW hb R_cab.out)
  replace R_p := Lib.hid (keptW hb R_p.out)
  replace R_q := Lib.hid (keptW hb R_q.out)
  replace R_r := Lib.hid (keptW hb R_r.out)
  replace R_s := Lib.hid (keptW hb R_s.out)
  replace R_u := Lib.hid (keptW hb R_u.out)
  replace R_v := Lib.hid (keptW hb R_v.out)
  replace R_xz := Lib.hid (keptW hb R_xz.out)
  replace R_sum := Lib.hid (keptW hb R_sum.out)
  replace R_back := Lib.hid (keptW hb R_back.out)
  replace HB := Lib.hid (HB.out.trans (hb.mono HB.out.size))
  clear hb
  have q_r := R_r.out
  have l_r := rowN_lt q_r
  have q_y := R_y.out
  have l_y := rowN_lt q_y
  go_wp2_with fail
  clear q_r l_r q_y l_y
  refine (DV.out _).mono ?_
  rintro e w19 ⟨rfl, hb⟩
  replace R_x := Lib.hid (keptW hb R_x.out)
  replace R_y := Lib.hid (keptW hb R_y.out)
  replace R_z := Lib.hid (keptW hb R_z.out)
  replace R_ab := Lib.hid (keptW hb R_ab.out)
  replace R_ba := Lib.hid (keptW hb R_ba.out)
  replace R_abc := Lib.hid (keptW hb R_abc.out)
  replace R_bc := Lib.hid (keptW hb R_bc.out)
  replace R_cab := Lib.hid (keptW hb R_cab.out)
  replace R_p := Lib.hid (keptW hb R_p.out)
  replace R_q := Lib.hid (keptW hb R_q.out)
  replace R_r := Lib.hid (keptW hb R_r.out)
  replace R_s := Lib.hid (keptW hb R_s.out)
  replace R_u := Lib.hid (keptW hb R_u.out)
  replace R_v := Lib.hid (keptW hb R_v.out)
  replace R_xz := Lib.hid (keptW hb R_xz.out)
  replace R_sum := Lib.hid (keptW hb R_sum.out)
  replace R_back := Lib.hid (keptW hb R_back.out)
  replace HB := Lib.hid (HB.out.trans (hb.mono HB.out.size))
  clear hb
  have q_y := R_y.out
  have l_y := rowN_lt q_y
  obtain ⟨hn1, hn2, hb⟩ := two_st0 w19 quo t
  replace R_x := Lib.hid (keptW hb R_x.out)
  replace R_y := Lib.hid (keptW hb R_y.out)
  replace R_z := Lib.hid (keptW hb R_z.out)
  replace R_ab := Lib.hid (keptW hb R_ab.out)
  replace R_ba := Lib.hid (keptW hb R_ba.out)
  replace R_abc := Lib.hid (keptW hb R_abc.out)
  replace R_bc := Lib.hid (keptW hb R_bc.out)
  replace R_cab := Lib.hid (keptW hb R_cab.out)
  replace R_p := Lib.hid (keptW hb R_p.out)
  replace R_q := Lib.hid (keptW hb R_q.out)
  replace R_r := Lib.hid (keptW hb R_r.out)
  replace R_s := Lib.hid (keptW hb R_s.out)
  replace R_u := Lib.hid (keptW hb R_u.out)
  replace R_v := Lib.hid (keptW hb R_v.out)
  replace R_xz := Lib.hid (keptW hb R_xz.out)
  replace R_sum := Lib.hid (keptW hb R_sum.out)
  replace R_back := Lib.hid (keptW hb R_back.out)
  have R_quo := Lib.hid hn1
  have R_rest := Lib.hid hn2
  replace HB := Lib.hid (HB.out.trans (hb.mono HB.out.size))
  clear hb hn1 hn2
  go_wp2_with fail
  clear q_y l_y
  obtain ⟨W19, hW⟩ : ∃ W, (((w19.alloc (.cells (natA 0) 28)).alloc (.cells (natA 0) 28)).setRow w19.heap.size (natA quo)).setRow (w19.heap.size + 1) (natA t) = W := ⟨_, rfl⟩
  rw [hW] at HB R_x R_y R_z R_ab R_ba R_abc R_bc R_cab R_p R_q R_r R_s R_u R_v R_xz R_sum R_back R_quo R_rest ⊢
  obtain ⟨gquo, hbn⟩ : ∃ b, w19.heap.size = b := ⟨_, rfl⟩
  rw [hbn] at R_quo R_rest ⊢
  clear hW hbn w19
  refine (M8.out _).mono ?_
  rintro e w20 ⟨rfl, hb⟩
  replace R_x := Lib.hid (keptW hb R_x.out)
  replace R_y := Lib.hid (keptW hb R_y.out)
  replace R_z := Lib.hid (keptW hb R_z.out)
  replace R_ab := Lib.hid (keptW hb R_ab.out)
  replace R_ba := Lib.hid (keptW hb R_ba.out)
  replace R_abc := Lib.hid (keptW hb R_abc.out)
  replace R_bc := Lib.hid (keptW hb R_bc.out)
  replace R_cab := Lib.hid (keptW hb R_cab.out)
  replace R_p := Lib.hid (keptW hb R_p.out)
  replace R_q := Lib.hid (keptW hb R_q.out)
  replace R_r := Lib.hid (keptW hb R_r.out)
  replace R_s := Lib.hid (keptW hb R_s.out)
  replace R_u := Lib.hid (keptW hb R_u.out)
  replace R_v := Lib.hid (keptW hb R_v.out)
  replace R_xz := Lib.hid (keptW hb R_xz.out)
  replace R_sum := Lib.hid (keptW hb R_sum.out)
  replace R_back := Lib.hid (keptW hb R_back.out)
  replace R_quo := Lib.hid (keptW hb R_quo.out)
  replace R_rest := Lib.hid (keptW hb R_rest.out)
  replace HB := Lib.hid (HB.out.trans (hb.mono HB.out.size))
  clear hb
  have q_rest := R_rest.out
  have l_rest := rowN_lt q_rest
  replace R_x := Lib.hid (row_st0_other w20 whole _ _ R_x.out)
  replace R_y := Lib.hid (row_st0_other w20 whole _ _ R_y.out)
  replace R_z := Lib.hid (row_st0_other w20 whole _ _ R_z.out)
  replace R_ab := Lib.hid (row_st0_other w20 whole _ _ R_ab.out)
  replace R_ba := Lib.hid (row_st0_other w20 whole _ _ R_ba.out)
  replace R_abc := Lib.hid (row_st0_other w20 whole _ _ R_abc.out)
  replace R_bc := Lib.hid (row_st0_other w20 whole _ _ R_bc.out)
  replace R_cab := Lib.hid (row_st0_other w20 whole _ _ R_cab.out)
  replace R_p := Lib.hid (row_st0_other w20 whole _ _ R_p.out)
  replace R_q := Lib.hid (row_st0_other w20 whole _ _ R_q.out)
  replace R_r := Lib.hid (row_st0_other w20 whole _ _ R_r.out)
  replace R_s := Lib.hid (row_st0_other w20 whole _ _ R_s.out)
  replace R_u := Lib.hid (row_st0_other w20 whole _ _ R_u.out)
  replace R_v := Lib.hid (row_st0_other w20 whole _ _ R_v.out)
  replace R_xz := Lib.hid (row_st0_other w20 whole _ _ R_xz.out)
  replace R_sum := Lib.hid (row_st0_other w20 whole _ _ R_sum.out)
  replace R_back := Lib.hid (row_st0_other w20 whole _ _ R_back.out)
  replace R_quo := Lib.hid (row_st0_other w20 whole _ _ R_quo.out)
  replace R_rest := Lib.hid (row_st0_other w20 whole _ _ R_rest.out)
  have R_whole := Lib.hid (row_st0 w20 whole)
  replace HB := Lib.hid (HB.out.trans ((bel_st0 w20 whole).mono HB.out.size))
  go_wp2_with fail
  clear q_rest l_rest
  obtain ⟨W20, hW⟩ : ∃ W, (w20.alloc (.cells (natA 0) 28)).setRow w20.heap.size (natA whole) = W := ⟨_, rfl⟩
  rw [hW] at HB R_x R_y R_z R_ab R_ba R_abc R_bc R_cab R_p R_q R_r R_s R_u R_v R_xz R_sum R_back R_quo R_rest R_whole ⊢
  obtain ⟨gwhole, hbn⟩ : ∃ b, w20.heap.size = b := ⟨_, rfl⟩
  rw [hbn] at R_whole ⊢
  clear hW hbn w20
  refine (A7.out _).mono ?_
  rintro e w21 ⟨rfl, hb⟩
  replace R_x := Lib.hid (keptW hb R_x.out)
  replace R_y := Lib.hid (keptW hb R_y.out)
  replace R_z := Lib.hid (keptW hb R_z.out)
  replace R_ab := Lib.hid (keptW hb R_ab.out)
  replace R_ba := Lib.hid (keptW hb R_ba.out)
  replace R_abc := Lib.hid (keptW hb R_abc.out)
  replace R_bc := Lib.hid (keptW hb R_bc.out)
  replace R_cab := Lib.hid (keptW hb R_cab.out)
  replace R_p := Lib.hid (keptW hb R_p.out)
  replace R_q := Lib.hid (keptW hb R_q.out)
  replace R_r := Lib.hid (keptW hb R_r.out)
  replace R_s := Lib.hid (keptW hb R_s.out)
  replace R_u := Lib.hid (keptW hb R_u.out)
  replace R_v := Lib.hid (keptW hb R_v.out)
  replace R_xz := Lib.hid (keptW hb R_xz.out)
  replace R_sum := Lib.hid (keptW hb R_sum.out)
  replace R_back := Lib.hid (keptW hb R_back.out)
  replace R_quo := Lib.hid (keptW hb R_quo.out)
  replace R_rest := Lib.hid (keptW hb R_rest.out)
  replace R_whole := Lib.hid (keptW hb R_whole.out)
  replace HB := Lib.hid (HB.out.trans (hb.mono HB.out.size))
  clear hb
  have q_r := R_r.out
  have l_r := rowN_lt q_r
  have q_rest := R_rest.out
  have l_rest := rowN_lt q_rest
  have q_y := R_y.out
  have l_y := rowN_lt q_y
  replace R_x := Lib.hid (row_st0_other w21 r _ _ R_x.out)
  replace R_y := Lib.hid (row_st0_other w21 r _ _ R_y.out)
  replace R_z := Lib.hid (row_st0_other w21 r _ _ R_z.out)
  replace R_ab := Lib.hid (row_st0_other w21 r _ _ R_ab.out)
  replace R_ba := Lib.hid (row_st0_other w21 r _ _ R_ba.out)
  replace R_abc := Lib.hid (row_st0_other w21 r _ _ R_abc.out)
  replace R_bc := Lib.hid (row_st0_other w21 r _ _ R_bc.out)
  replace R_cab := Lib.hid (row_st0_other w21 r _ _ R_cab.out)
  replace R_p := Lib.hid (row_st0_other w21 r _ _ R_p.out)
  replace R_q := Lib.hid (row_st0_other w21 r _ _ R_q.out)
  replace R_r := Lib.hid (row_st0_other w21 r _ _ R_r.out)
  replace R_s := Lib.hid (row_st0_other w21 r _ _ R_s.out)
  replace R_u := Lib.hid (row_st0_other w21 r _ _ R_u.out)
  replace R_v := Lib.hid (row_st0_other w21 r _ _ R_v.out)
  replace R_xz := Lib.hid (row_st0_other w21 r _ _ R_xz.out)
  replace R_sum := Lib.hid (row_st0_other w21 r _ _ R_sum.out)
  replace R_back := Lib.hid (row_st0_other w21 r _ _ R_back.out)
  replace R_quo := Lib.hid (row_st0_other w21 r _ _ R_quo.out)
  replace R_rest := Lib.hid (row_st0_other w21 r _ _ R_rest.out)
  replace R_whole := Lib.hid (row_st0_other w21 r _ _ R_whole.out)
  have R_again := Lib.hid (row_st0 w21 r)
  replace HB := Lib.hid (HB.out.trans ((bel_st0 w21 r).mono HB.out.size))
  go_wp2_with fail
  clear q_r l_r q_rest l_rest q_y l_y
  obtain ⟨W21, hW⟩ : ∃ W, (w21.alloc (.cells (natA 0) 28)).setRow w21.heap.size (natA r) = W := ⟨_, rfl⟩
  rw [hW] at HB R_x R_y R_z R_ab R_ba R_abc R_bc R_cab R_p R_q R_r R_s R_u R_v R_xz R_sum R_back R_quo R_rest R_whole R_again ⊢
  obtain ⟨gagain, hbn⟩ : ∃ b, w21.heap.size = b := ⟨_, rfl⟩
  rw [hbn] at R_again ⊢
  clear hW hbn w21
  refine (CM.out _).mono ?_
  rintro e w22 ⟨rfl, hb⟩
  replace R_x := Lib.hid (keptW hb R_x.out)
  replace R_y := Lib.hid (keptW hb R_y.out)
  replace R_z := Lib.hid (keptW hb R_z.out)
  replace R_ab := Lib.hid (keptW hb R_ab.out)
  replace R_ba := Lib.hid (keptW hb R_ba.out)
  replace R_abc := Lib.hid (keptW hb R_abc.out)
  replace R_bc := Lib.hid (keptW hb R_bc.out)
  replace R_cab := Lib.hid (keptW hb R_cab.out)
  replace R_p := Lib.hid (keptW hb R_p.out)
  replace R_q := Lib.hid (keptW hb R_q.out)
  replace R_r := Lib.hid (keptW hb R_r.out)
  replace R_s := Lib.hid (keptW hb R_s.out)
  replace R_u := Lib.hid (keptW hb R_u.out)
  replace R_v := Lib.hid (keptW hb R_v.out)
  replace R_xz := Lib.hid (keptW hb R_xz.out)
  replace R_sum := Lib.hid (keptW hb R_sum.out)
  replace R_back := Lib.hid (keptW hb R_back.out)
  replace R_quo := Lib.hid (keptW hb R_quo.out)
  replace R_rest := Lib.hid (keptW hb R_rest.out)
  replace R_whole := Lib.hid (keptW hb R_whole.out)
  replace R_again := Lib.hid (keptW hb R_again.out)
  replace HB := Lib.hid (HB.out.trans (hb.mono HB.out.size))
  clear hb
  have q_r := R_r.out
  have l_r := rowN_lt q_r
  go_wp2_with fail
  clear q_r l_r
  refine (BY.out _).mono ?_
  rintro e wB ⟨sB, rfl, ht, hb⟩
  have HBB := Lib.hid ht
  replace R_x := Lib.hid (keptW hb R_x.out)
  replace R_y := Lib.hid (keptW hb R_y.out)
  replace R_z := Lib.hid (keptW hb R_z.out)
  replace R_ab := Lib.hid (keptW hb R_ab.out)
  replace R_ba := Lib.hid (keptW hb R_ba.out)
  replace R_abc := Lib.hid (keptW hb R_abc.out)
  replace R_bc := Lib.hid (keptW hb R_bc.out)
  replace R_cab := Lib.hid (keptW hb R_cab.out)
  replace R_p := Lib.hid (keptW hb R_p.out)
  replace R_q := Lib.hid (keptW hb R_q.out)
  replace R_r := Lib.hid (keptW hb R_r.out)
  replace R_s := Lib.hid (keptW hb R_s.out)
  replace R_u := Lib.hid (keptW hb R_u.out)
  replace R_v := Lib.hid (keptW hb R_v.out)
  replace R_xz := Lib.hid (keptW hb R_xz.out)
  replace R_sum := Lib.hid (keptW hb R_sum.out)
  replace R_back := Lib.hid (keptW hb R_back.out)
  replace R_quo := Lib.hid (keptW hb R_quo.out)
  replace R_rest := Lib.hid (keptW hb R_rest.out)
  replace R_whole := Lib.hid (keptW hb R_whole.out)
  replace R_again := Lib.hid (keptW hb R_again.out)
  replace HB := Lib.hid (HB.out.trans (hb.mono HB.out.size))
  clear hb ht
  go_wp2_with fail
  refine (FB.out _ _ HBB.out).mono ?_
  rintro e w24 ⟨rfl, hb⟩
  replace R_x := Lib.hid (keptW hb R_x.out)
  replace R_y := Lib.hid (keptW hb R_y.out)
  replace R_z := Lib.hid (keptW hb R_z.out)
  replace R_ab := Lib.hid (keptW hb R_ab.out)
  replace R_ba := Lib.hid (keptW hb R_ba.out)
  replace R_abc := Lib.hid (keptW hb R_abc.out)
  replace R_bc := Lib.hid (keptW hb R_bc.out)
  replace R_cab := Lib.hid (keptW hb R_cab.out)
  replace R_p := Lib.hid (keptW hb R_p.out)
  replace R_q := Lib.hid (keptW hb R_q.out)
  replace R_r := Lib.hid (keptW hb R_r.out)
  replace R_s := Lib.hid (keptW hb R_s.out)
  replace R_u := Lib.hid (keptW hb R_u.out)
  replace R_v := Lib.hid (keptW hb R_v.out)
  replace R_xz := Lib.hid (keptW hb R_xz.out)
  replace R_sum := Lib.hid (keptW hb R_sum.out)
  replace R_back := Lib.hid (keptW hb R_back.out)
  replace R_quo := Lib.hid (keptW hb R_quo.out)
  replace R_rest := Lib.hid (keptW hb R_rest.out)
  replace R_whole := Lib.hid (keptW hb R_whole.out)
  replace R_again := Lib.hid (keptW hb R_again.out)
  replace HB := Lib.hid (HB.out.trans (hb.mono HB.out.size))
  clear hb
  have q_r := R_r.out
  have l_r := rowN_lt q_r
  replace R_x := Lib.hid (row_st0_other w24 r _ _ R_x.out)
  replace R_y := Lib.hid (row_st0_other w24 r _ _ R_y.out)
  replace R_z := Lib.hid (row_st0_other w24 r _ _ R_z.out)
  replace R_ab := Lib.hid (row_st0_other w24 r _ _ R_ab.out)
  replace R_ba := Lib.hid (row_st0_other w24 r _ _ R_ba.out)
  replace R_abc := Lib.hid (row_st0_other w24 r _ _ R_abc.out)
  replace R_bc := Lib.hid (row_st0_other w24 r _ _ R_bc.out)
  replace R_cab := Lib.hid (row_st0_other w24 r _ _ R_cab.out)
  replace R_p := Lib.hid (row_st0_other w24 r _ _ R_p.out)
  replace R_q := Lib.hid (row_st0_other w24 r _ _ R_q.out)
  replace R_r := Lib.hid (row_st0_other w24 r _ _ R_r.out)
  replace R_s := Lib.hid (row_st0_other w24 r _ _ R_s.out)
  replace R_u := Lib.hid (row_st0_other w24 r _ _ R_u.out)
  replace R_v := Lib.hid (row_st0_other w24 r _ _ R_v.out)
  replace R_xz := Lib.hid (row_st0_other w24 r _ _ R_xz.out)
  replace R_sum := Lib.hid (row_st0_other w24 r _ _ R_sum.out)
  replace R_back := Lib.hid (row_st0_other w24 r _ _ R_back.out)
  replace R_quo := Lib.hid (row_st0_other w24 r _ _ R_quo.out)
  replace R_rest := Lib.hid (row_st0_other w24 r _ _ R_rest.out)
  replace R_whole := Lib.hid (row_st0_other w24 r _ _ R_whole.out)
  replace R_again := Lib.hid (row_st0_other w24 r _ _ R_again.out)
  have R_one := Lib.hid (row_st0 w24 r)
  replace HB := Lib.hid (HB.out.trans ((bel_st0 w24 r).mono HB.out.size))
  go_wp2_with fail
  clear q_r l_r
  obtain ⟨W24, hW⟩ : ∃ W, (w24.alloc (.cells (natA 0) 28)).setRow w24.heap.size (natA r) = W := ⟨_, rfl⟩
  rw [hW] at HB R_x R_y R_z R_ab R_ba R_abc R_bc R_cab R_p R_q R_r R_s R_u R_v R_xz R_sum R_back R_quo R_rest R_whole R_again R_one ⊢
  obtain ⟨gone, hbn⟩ : ∃ b, w24.heap.size = b := ⟨_, rfl⟩
  rw [hbn] at R_one ⊢
  clear hW hbn w24
  refine (TX.out _).mono ?_
  rintro e w25 ⟨rfl, hb⟩
  replace R_x := Lib.hid (keptW hb R_x.out)
  replace R_y := Lib.hid (keptW hb R_y.out)
  replace R_z := Lib.hid (keptW hb R_z.out)
  replace R_ab := Lib.hid (keptW hb R_ab.out)
  replace R_ba := Lib.hid (keptW hb R_ba.out)
  replace R_abc := Lib.hid (keptW hb R_abc.out)
  replace R_bc := Lib.hid (keptW hb R_bc.out)
  replace R_cab := Lib.hid (keptW hb R_cab.out)
  replace R_p := Lib.hid (keptW hb R_p.out)
  replace R_q := Lib.hid (keptW hb R_q.out)
  replace R_r := Lib.hid (keptW hb R_r.out)
  replace R_s := Lib.hid (keptW hb R_s.out)
  replace R_u := Lib.hid (keptW hb R_u.out)
  replace R_v := Lib.hid (keptW hb R_v.out)
  replace R_xz := Lib.hid (keptW hb R_xz.out)
  replace R_sum := Lib.hid (keptW hb R_sum.out)
  replace R_back := Lib.hid (keptW hb R_back.out)
  replace R_quo := Lib.hid (keptW hb R_quo.out)
  replace R_rest := Lib.hid (keptW hb R_rest.out)
  replace R_whole := Lib.hid (keptW hb R_whole.out)
  replace R_again := Lib.hid (keptW hb R_again.out)
  replace R_one := Lib.hid (keptW hb R_one.out)
  replace HB := Lib.hid (HB.out.trans (hb.mono HB.out.size))
  clear hb
  go_wp2_with fail
  refine (PA.out _).mono ?_
  rintro e w26 ⟨rfl, hb⟩
  replace R_x := Lib.hid (keptW hb R_x.out)
  replace R_y := Lib.hid (keptW hb R_y.out)
  replace R_z := Lib.hid (keptW hb R_z.out)
  replace R_ab := Lib.hid (keptW hb R_ab.out)
  replace R_ba := Lib.hid (keptW hb R_ba.out)
  replace R_abc := Lib.hid (keptW hb R_abc.out)
  replace R_bc := Lib.hid (keptW hb R_bc.out)
  replace R_cab := Lib.hid (keptW hb R_cab.out)
  replace R_p := Lib.hid (keptW hb R_p.out)
  replace R_q := Lib.hid (keptW hb R_q.out)
  replace R_r := Lib.hid (keptW hb R_r.out)
  replace R_s := Lib.hid (keptW hb R_s.out)
  replace R_u := Lib.hid (keptW hb R_u.out)
  replace R_v := Lib.hid (keptW hb R_v.out)
  replace R_xz := Lib.hid (keptW hb R_xz.out)
  replace R_sum := Lib.hid (keptW hb R_sum.out)
  replace R_back := Lib.hid (keptW hb R_back.out)
  replace R_quo := Lib.hid (keptW hb R_quo.out)
  replace R_rest := Lib.hid (keptW hb R_rest.out)
  replace R_whole := Lib.hid (keptW hb R_whole.out)
  replace R_again := Lib.hid (keptW hb R_again.out)
  replace R_one := Lib.hid (keptW hb R_one.out)
  replace HB := Lib.hid (HB.out.trans (hb.mono HB.out.size))
  clear hb
  have q_one := R_one.out
  have l_one := rowN_lt q_one
  have q_r := R_r.out
  have l_r := rowN_lt q_r
  replace R_x := Lib.hid (row_st0_other w26 r _ _ R_x.out)
  replace R_y := Lib.hid (row_st0_other w26 r _ _ R_y.out)
  replace R_z := Lib.hid (row_st0_other w26 r _ _ R_z.out)
  replace R_ab := Lib.hid (row_st0_other w26 r _ _ R_ab.out)
  replace R_ba := Lib.hid (row_st0_other w26 r _ _ R_ba.out)
  replace R_abc := Lib.hid (row_st0_other w26 r _ _ R_abc.out)
  replace R_bc := Lib.hid (row_st0_other w26 r _ _ R_bc.out)
  replace R_cab := Lib.hid (row_st0_other w26 r _ _ R_cab.out)
  replace R_p := Lib.hid (row_st0_other w26 r _ _ R_p.out)
  replace R_q := Lib.hid (row_st0_other w26 r _ _ R_q.out)
  replace R_r := Lib.hid (row_st0_other w26 r _ _ R_r.out)
  replace R_s := Lib.hid (row_st0_other w26 r _ _ R_s.out)
  replace R_u := Lib.hid (row_st0_other w26 r _ _ R_u.out)
  replace R_v := Lib.hid (row_st0_other w26 r _ _ R_v.out)
  replace R_xz := Lib.hid (row_st0_other w26 r _ _ R_xz.out)
  replace R_sum := Lib.hid (row_st0_other w26 r _ _ R_sum.out)
  replace R_back := Lib.hid (row_st0_other w26 r _ _ R_back.out)
  replace R_quo := Lib.hid (row_st0_other w26 r _ _ R_quo.out)
  replace R_rest := Lib.hid (row_st0_other w26 r _ _ R_rest.out)
  replace R_whole := Lib.hid (row_st0_other w26 r _ _ R_whole.out)
  replace R_again := Lib.hid (row_st0_other w26 r _ _ R_again.out)
  replace R_one := Lib.hid (row_st0_other w26 r _ _ R_one.out)
  have R_two := Lib.hid (row_st0 w26 r)
  replace HB := Lib.hid (HB.out.trans ((bel_st0 w26 r).mono HB.out.size))
  go_wp2_with fail
  clear q_one l_one q_r l_r
  obtain ⟨W26, hW⟩ : ∃ W, (w26.alloc (.cells (natA 0) 28)).setRow w26.heap.size (natA r) = W := ⟨_, rfl⟩
  rw [hW] at HB R_x R_y R_z R_ab R_ba R_abc R_bc R_cab R_p R_q R_r R_s R_u R_v R_xz R_sum R_back R_quo R_rest R_whole R_again R_one R_two ⊢
  obtain ⟨gtwo, hbn⟩ : ∃ b, w26.heap.size = b := ⟨_, rfl⟩
  rw [hbn] at R_two ⊢
  clear hW hbn w26
  refine (known_any _).mono ?_
  rintro e wK ⟨rfl, hb⟩
  have HBK := Lib.hid (HB.out.trans (hb.mono HB.out.size))
  clear hb
  go_wp2_with fail
  go_ret
  exact ⟨rfl, HBK.out⟩

set_option maxRecDepth 100000 in
set_option maxHeartbeats 4000000 in
theorem holds_zero (zs ys xs : List Nat) (a a' a'' : Option Addr) (c c' c'' : Nat) (w : World) (hz : BytesAt zs (.slice a zs.length c) w) (hy : BytesAt ys (.slice a' ys.length c') w) (hx : BytesAt xs (.slice a'' xs.length c'') w)
    (h1 : zs.length ≤ 40) (h2 : ys.length ≤ 40) (h3 : xs.length ≤ 40) (x y z : Nat) (ex : valBE 256 zs = x) (ey : valBE 256 ys = y) (ez : valBE 256 xs = z) (h0 : y = 0) :
    Calls Try.prog 10 #[.slice a zs.length c, .slice a' ys.length c', .slice a'' xs.length c''] w fun e w' => e = .returned (.bool true) ∧ Below w.heap.size w w' := by
  have hxM : x < 256 ^ 40 := by rw [← ex]; exact short40 hz.1 h1
  have hyM : y < 256 ^ 40 := by rw [← ey]; exact short40 hy.1 h2
  have hzM : z < 256 ^ 40 := by rw [← ez]; exact short40 hx.1 h3
  obtain ⟨⟨bx, by_, bz⟩, ⟨bxy, byz, bxyz⟩, ⟨mxy, mxyz, myz, mxz⟩, md⟩ := holds_bounds hxM hyM hzM (by decide) holds_M
  have HFX := Lib.hid (fun W hW => fb40 zs (.slice a zs.length c) W hW (by omega) x ex bx)
  have HFY := Lib.hid (fun W hW => fb40 ys (.slice a' ys.length c') W hW (by omega) y ey by_)
  have HFZ := Lib.hid (fun W hW => fb40 xs (.slice a'' xs.length c'') W hW (by omega) z ez bz)
  have A1 := add_fits x y bx by_ bxy
  have A2 := add_fits y x by_ bx (by rw [Nat.add_comm]; exact bxy)
  have A3 := add_fits (x + y) z bxy bz bxyz
  have A4 := add_fits y z by_ bz byz
  have A5 := add_fits x (y + z) bx byz (by rw [← Nat.add_assoc]; exact bxyz)
  have M1 := mul_fits x y bx by_ mxy
  have M2 := mul_fits y x by_ bx (by rw [Nat.mul_comm]; exact mxy)
  have M3 := mul_fits (x * y) z mxy bz mxyz
  have M4 := mul_fits y z by_ bz myz
  have M5 := mul_fits x (y * z) bx myz (by rw [← Nat.mul_assoc]; exact mxyz)
  have M6 := mul_fits x (y + z) bx byz md
  have M7 := mul_fits x z bx bz mxz
  have A6 := add_fits (x * y) (x * z) mxy mxz (by rw [← Nat.mul_add]; exact md)
  have S1 := sub_fits (x + y) y bxy by_ (Nat.le_add_left y x)
  rw [Nat.add_comm y x] at A2
  rw [← Nat.add_assoc] at A5
  rw [Nat.mul_comm y x] at M2
  rw [← Nat.mul_assoc] at M5
  rw [← Nat.mul_add] at A6
  rw [Nat.add_sub_cancel] at S1
  have Nab := neq_self bxy
  have Nabc := neq_self bxyz
  have Np := neq_self mxy
  have Nr := neq_self mxyz
  have Nd := neq_self md
  have Nx := neq_self bx
  have BR := Lib.hid mxyz
  have BY := Lib.hid (bytes_at (x * y * z) mxyz)
  have FB := Lib.hid (fun W s hs => fb40 (bytesN (x * y * z)) s W hs (by have := bytesN_len mxyz; omega) (x * y * z) (valBE_bytesN _) mxyz)
  have TX := Lib.hid (text_any (x * y * z) mxyz)
  have PA := Lib.hid (parse_text mxyz)
  have IZ := Lib.hid (isZ_true y h0)
  clear h0
  obtain ⟨ab, hab⟩ : ∃ v, x + y = v := ⟨_, rfl⟩
  obtain ⟨bc, hbc⟩ : ∃ v, y + z = v := ⟨_, rfl⟩
  rw [hab] at A1 A2 A3 A5 S1 Nab Nabc
  rw [hbc] at A4 A5 M6 A6 Nd
  obtain ⟨abc, habc⟩ : ∃ v, ab + z = v := ⟨_, rfl⟩
  rw [habc] at A3 A5 Nabc
  obtain ⟨p, hp⟩ : ∃ v, x * y = v := ⟨_, rfl⟩
  rw [hp] at M1 M2 M3 M5 A6 Np Nr BR
  obtain ⟨r, hr⟩ : ∃ v, p * z = v := ⟨_, rfl⟩
  rw [hr] at M3 M5 Nr BR
  obtain ⟨s, hs⟩ : ∃ v, y * z = v := ⟨_, rfl⟩
  rw [hs] at M4 M5
  obtain ⟨d, hd⟩ : ∃ v, x * bc = v := ⟨_, rfl⟩
  rw [hd] at M6 A6 Nd
  obtain ⟨xz, hxz⟩ : ∃ v, x * z = v := ⟨_, rfl⟩
  rw [hxz] at M7 A6
  rw [hp, hr] at BY FB TX PA
  replace A1 := Lib.hid A1
  replace A2 := Lib.hid A2
  replace A3 := Lib.hid A3
  replace A4 := Lib.hid A4
  replace A5 := Lib.hid A5
  replace A6 := Lib.hid A6
  replace M1 := Lib.hid M1
  replace M2 := Lib.hid M2
  replace M3 := Lib.hid M3
  replace M4 := Lib.hid M4
  replace M5 := Lib.hid M5
  replace M6 := Lib.hid M6
  replace M7 := Lib.hid M7
  replace S1 := Lib.hid S1
  have HBX := Lib.hid hz
  have HBY := Lib.hid hy
  have HBZ := Lib.hid hx
  obtain ⟨n, hlzs⟩ : ∃ n, zs.length = n := ⟨_, rfl⟩
  obtain ⟨n', hlys⟩ : ∃ n, ys.length = n := ⟨_, rfl⟩
  obtain ⟨n'', hlxs⟩ : ∃ n, xs.length = n := ⟨_, rfl⟩
  rw [hlzs] at HBX HFX h1 ⊢
  rw [hlys] at HBY HFY h2 ⊢
  rw [hlxs] at HBZ HFZ h3 ⊢
  clear hlzs hlys hlxs hz hy hx ex ey ez hxM hyM hzM bx by_ bz bxy byz bxyz mxy mxyz myz mxz md hab hbc habc hp hr hs hd hxz
  go_enter Try.func10, Try.ntmps10
  go_wp2_with fail
  refine (HFX.out _ HBX.out).mono ?_
  rintro e w1 ⟨rfl, hb⟩
  replace HBY := Lib.hid (HBY.out.kept hb)
  replace HBZ := Lib.hid (HBZ.out.kept hb)
  have HB := Lib.hid hb
  clear hb
  have R_x := Lib.hid (row_st0 w1 x)
  replace HB := Lib.hid (HB.out.trans ((bel_st0 w1 x).mono HB.out.size))
  replace HBY := Lib.hid (HBY.out.kept (bel_st0 w1 x))
  replace HBZ := Lib.hid (HBZ.out.kept (bel_st0 w1 x))
  go_wp2_with fail
  obtain ⟨W1, hW⟩ : ∃ W, (w1.alloc (.cells (natA 0) 28)).setRow w1.heap.size (natA x) = W := ⟨_, rfl⟩
  rw [hW] at HB R_x HBY HBZ ⊢
  obtain ⟨gx, hbn⟩ : ∃ b, w1.heap.size = b := ⟨_, rfl⟩
  rw [hbn] at R_x ⊢
  clear hW hbn w1
  refine (HFY.out _ HBY.out).mono ?_
  rintro e w2 ⟨rfl, hb⟩
  replace R_x := Lib.hid (keptW hb R_x.out)
  replace HBZ := Lib.hid (HBZ.out.kept hb)
  replace HB := Lib.hid (HB.out.trans (hb.mono HB.out.size))
  clear hb
  replace R_x := Lib.hid (row_st0_other w2 y _ _ R_x.out)
  have R_y := Lib.hid (row_st0 w2 y)
  replace HB := Lib.hid (HB.out.trans ((bel_st0 w2 y).mono HB.out.size))
  replace HBZ := Lib.hid (HBZ.out.kept (bel_st0 w2 y))
  go_wp2_with fail
  obtain ⟨W2, hW⟩ : ∃ W, (w2.alloc (.cells (natA 0) 28)).setRow w2.heap.size (natA y) = W := ⟨_, rfl⟩
  rw [hW] at HB R_x R_y HBZ ⊢
  obtain ⟨gy, hbn⟩ : ∃ b, w2.heap.size = b := ⟨_, rfl⟩
  rw [hbn] at R_y ⊢
  clear hW hbn w2
  refine (HFZ.out _ HBZ.out).mono ?_
  rintro e w3 ⟨rfl, hb⟩
  replace R_x := Lib.hid (keptW hb R_x.out)
  replace R_y := Lib.hid (keptW hb R_y.out)
  replace HB := Lib.hid (HB.out.trans (hb.mono HB.out.size))
  clear hb
  have q_x := R_x.out
  have l_x := rowN_lt q_x
  have q_y := R_y.out
  have l_y := rowN_lt q_y
  replace R_x := Lib.hid (row_st0_other w3 z _ _ R_x.out)
  replace R_y := Lib.hid (row_st0_other w3 z _ _ R_y.out)
  have R_z := Lib.hid (row_st0 w3 z)
  replace HB := Lib.hid (HB.out.trans ((bel_st0 w3 z).mono HB.out.size))
  go_wp2_with fail
  clear q_x l_x q_y l_y
  obtain ⟨W3, hW⟩ : ∃ W, (w3.alloc (.cells (natA 0) 28)).setRow w3.heap.size (natA z) = W := ⟨_, rfl⟩
  rw [hW] at HB R_x R_y R_z ⊢
  obtain ⟨gz, hbn⟩ : ∃ b, w3.heap.size = b := ⟨_, rfl⟩
  rw [hbn] at R_z ⊢
  clear hW hbn w3
  refine (A1.out _).mono ?_
  rintro e w4 ⟨rfl, hb⟩
  replace R_x := Lib.hid (keptW hb R_x.out)
  replace R_y := Lib.hid (keptW hb R_y.out)
  replace R_z := Lib.hid (keptW hb R_z.out)
  replace HB := Lib.hid (HB.out.trans (hb.mono HB.out.size))
  clear hb
  have q_y := R_y.out
  have l_y := rowN_lt q_y
  have q_x := R_x.out
  have l_x := rowN_lt q_x
  replace R_x := Lib.hid (row_st0_other w4 ab _ _ R_x.out)
  replace R_y := Lib.hid (row_st0_other w4 ab _ _ R_y.out)
  replace R_z := Lib.hid (row_st0_other w4 ab _ _ R_z.out)
  have R_ab := Lib.hid (row_st0 w4 ab)
  replace HB := Lib.hid (HB.out.trans ((bel_st0 w4 ab).mono HB.out.size))
  go_wp2_with fail
  clear q_y l_y q_x l_x
  obtain ⟨W4, hW⟩ : ∃ W, (w4.alloc (.cells (natA 0) 28)).setRow w4.heap.size (natA ab) = W := ⟨_, rfl⟩
  rw [hW] at HB R_x R_y R_z R_ab ⊢
  obtain ⟨gab, hbn⟩ : ∃ b, w4.heap.size = b := ⟨_, rfl⟩
  rw [hbn] at R_ab ⊢
  clear hW hbn w4
  refine (A2.out _).mono ?_
  rintro e w5 ⟨rfl, hb⟩
  replace R_x := Lib.hid (keptW hb R_x.out)
  replace R_y := Lib.hid (keptW hb R_y.out)
  replace R_z := Lib.hid (keptW hb R_z.out)
  replace R_ab := Lib.hid (keptW hb R_ab.out)
  replace HB := Lib.hid (HB.out.trans (hb.mono HB.out.size))
  clear hb
  have q_ab := R_ab.out
  have l_ab := rowN_lt q_ab
  have q_z := R_z.out
  have l_z := rowN_lt q_z
  replace R_x := Lib.hid (row_st0_other w5 ab _ _ R_x.out)
  replace R_y := Lib.hid (row_st0_other w5 ab _ _ R_y.out)
  replace R_z := Lib.hid (row_st0_other w5 ab _ _ R_z.out)
  replace R_ab := Lib.hid (row_st0_other w5 ab _ _ R_ab.out)
  have R_ba := Lib.hid (row_st0 w5 ab)
  replace HB := Lib.hid (HB.out.trans ((bel_st0 w5 ab).mono HB.out.size))
  go_wp2_with fail
  clear q_ab l_ab q_z l_z
  obtain ⟨W5, hW⟩ : ∃ W, (w5.alloc (.cells (natA 0) 28)).setRow w5.heap.size (natA ab) = W := ⟨_, rfl⟩
  rw [hW] at HB R_x R_y R_z R_ab R_ba ⊢
  obtain ⟨gba, hbn⟩ : ∃ b, w5.heap.size = b := ⟨_, rfl⟩
  rw [hbn] at R_ba ⊢
  clear hW hbn w5
  refine (A3.out _).mono ?_
  rintro e w6 ⟨rfl, hb⟩
  replace R_x := Lib.hid (keptW hb R_x.out)
  replace R_y := Lib.hid (keptW hb R_y.out)
  replace R_z := Lib.hid (keptW hb R_z.out)
  replace R_ab := Lib.hid (keptW hb R_ab.out)
  replace R_ba := Lib.hid (keptW hb R_ba.out)
  replace HB := Lib.hid (HB.out.trans (hb.mono HB.out.size))
  clear hb
  have q_y := R_y.out
  have l_y := rowN_lt q_y
  have q_z := R_z.out
  have l_z := rowN_lt q_z
  replace R_x := Lib.hid (row_st0_other w6 abc _ _ R_x.out)
  replace R_y := Lib.hid (row_st0_other w6 abc _ _ R_y.out)
  replace R_z := Lib.hid (row_st0_other w6 abc _ _ R_z.out)
  replace R_ab := Lib.hid (row_st0_other w6 abc _ _ R_ab.out)
  replace R_ba := Lib.hid (row_st0_other w6 abc _ _ R_ba.out)
  have R_abc := Lib.hid (row_st0 w6 abc)
  replace HB := Lib.hid (HB.out.trans ((bel_st0 w6 abc).mono HB.out.size))
  go_wp2_with fail
  clear q_y l_y q_z l_z
  obtain ⟨W6, hW⟩ : ∃ W, (w6.alloc (.cells (natA 0) 28)).setRow w6.heap.size (natA abc) = W := ⟨_, rfl⟩
  rw [hW] at HB R_x R_y R_z R_ab R_ba R_abc ⊢
  obtain ⟨gabc, hbn⟩ : ∃ b, w6.heap.size = b := ⟨_, rfl⟩
  rw [hbn] at R_abc ⊢
  clear hW hbn w6
  refine (A4.out _).mono ?_
  rintro e w7 ⟨rfl, hb⟩
  replace R_x := Lib.hid (keptW hb R_x.out)
  replace R_y := Lib.hid (keptW hb R_y.out)
  replace R_z := Lib.hid (keptW hb R_z.out)
  replace R_ab := Lib.hid (keptW hb R_ab.out)
  replace R_ba := Lib.hid (keptW hb R_ba.out)
  replace R_abc := Lib.hid (keptW hb R_abc.out)
  replace HB := Lib.hid (HB.out.trans (hb.mono HB.out.size))
  clear hb
  have q_x := R_x.out
  have l_x := rowN_lt q_x
  replace R_x := Lib.hid (row_st0_other w7 bc _ _ R_x.out)
  replace R_y := Lib.hid (row_st0_other w7 bc _ _ R_y.out)
  replace R_z := Lib.hid (row_st0_other w7 bc _ _ R_z.out)
  replace R_ab := Lib.hid (row_st0_other w7 bc _ _ R_ab.out)
  replace R_ba := Lib.hid (row_st0_other w7 bc _ _ R_ba.out)
  replace R_abc := Lib.hid (row_st0_other w7 bc _ _ R_abc.out)
  have R_bc := Lib.hid (row_st0 w7 bc)
  replace HB := Lib.hid (HB.out.trans ((bel_st0 w7 bc).mono HB.out.size))
  go_wp2_with fail
  clear q_x l_x
  obtain ⟨W7, hW⟩ : ∃ W, (w7.alloc (.cells (natA 0) 28)).setRow w7.heap.size (natA bc) = W := ⟨_, rfl⟩
  rw [hW] at HB R_x R_y R_z R_ab R_ba R_abc R_bc ⊢
  obtain ⟨gbc, hbn⟩ : ∃ b, w7.heap.size = b := ⟨_, rfl⟩
  rw [hbn] at R_bc ⊢
  clear hW hbn w7
  refine (A5.out _).mono ?_
  rintro e w8 ⟨rfl, hb⟩
  replace R_x := Lib.hid (keptW hb R_x.out)
  replace R_y := Lib.hid (keptW hb R_y.out)
  replace R_z := Lib.hid (keptW hb R_z.out)
  replace R_ab := Lib.hid (keptW hb R_ab.out)
  replace R_ba := Lib.hid (keptW hb R_ba.out)
  replace R_abc := Lib.hid (keptW hb R_abc.out)
  replace R_bc := Lib.hid (keptW hb R_bc.out)
  replace HB := Lib.hid (HB.out.trans (hb.mono HB.out.size))
  clear hb
  have q_ab := R_ab.out
  have l_ab := rowN_lt q_ab
  have q_ba := R_ba.out
  have l_ba := rowN_lt q_ba
  have q_abc := R_abc.out
  have l_abc := rowN_lt q_abc
  have q_x := R_x.out
  have l_x := rowN_lt q_x
  have q_y := R_y.out
  have l_y := rowN_lt q_y
  replace R_x := Lib.hid (row_st0_other w8 abc _ _ R_x.out)
  replace R_y := Lib.hid (row_st0_other w8 abc _ _ R_y.out)
  replace R_z := Lib.hid (row_st0_other w8 abc _ _ R_z.out)
  replace R_ab := Lib.hid (row_st0_other w8 abc _ _ R_ab.out)
  replace R_ba := Lib.hid (row_st0_other w8 abc _ _ R_ba.out)
  replace R_abc := Lib.hid (row_st0_other w8 abc _ _ R_abc.out)
  replace R_bc := Lib.hid (row_st0_other w8 abc _ _ R_bc.out)
  have R_cab := Lib.hid (row_st0 w8 abc)
  replace HB := Lib.hid (HB.out.trans ((bel_st0 w8 abc).mono HB.out.size))
  go_wp2_with fail
  clear q_ab l_ab q_ba l_ba q_abc l_abc q_x l_x q_y l_y
  obtain ⟨W8, hW⟩ : ∃ W, (w8.alloc (.cells (natA 0) 28)).setRow w8.heap.size (natA abc) = W := ⟨_, rfl⟩
  rw [hW] at HB R_x R_y R_z R_ab R_ba R_abc R_bc R_cab ⊢
  obtain ⟨gcab, hbn⟩ : ∃ b, w8.heap.size = b := ⟨_, rfl⟩
  rw [hbn] at R_cab ⊢
  clear hW hbn w8
  refine (M1.out _).mono ?_
  rintro e w9 ⟨rfl, hb⟩
  replace R_x := Lib.hid (keptW hb R_x.out)
  replace R_y := Lib.hid (keptW hb R_y.out)
  replace R_z := Lib.hid (keptW hb R_z.out)
  replace R_ab := Lib.hid (keptW hb R_ab.out)
  replace R_ba := Lib.hid (keptW hb R_ba.out)
  replace R_abc := Lib.hid (keptW hb R_abc.out)
  replace R_bc := Lib.hid (keptW hb R_bc.out)
  replace R_cab := Lib.hid (keptW hb R_cab.out)
  replace HB := Lib.hid (HB.out.trans (hb.mono HB.out.size))
  clear hb
  have q_y := R_y.out
  have l_y := rowN_lt q_y
  have q_x := R_x.out
  have l_x := rowN_lt q_x
  replace R_x := Lib.hid (row_st0_other w9 p _ _ R_x.out)
  replace R_y := Lib.hid (row_st0_other w9 p _ _ R_y.out)
  replace R_z := Lib.hid (row_st0_other w9 p _ _ R_z.out)
  replace R_ab := Lib.hid (row_st0_other w9 p _ _ R_ab.out)
  replace R_ba := Lib.hid (row_st0_other w9 p _ _ R_ba.out)
  replace R_abc := Lib.hid (row_st0_other w9 p _ _ R_abc.out)
  replace R_bc := Lib.hid (row_st0_other w9 p _ _ R_bc.out)
  replace R_cab := Lib.hid (row_st0_other w9 p _ _ R_cab.out)
  have R_p := Lib.hid (row_st0 w9 p)
  replace HB := Lib.hid (HB.out.trans ((bel_st0 w9 p).mono HB.out.size))
  go_wp2_with fail
  clear q_y l_y q_x l_x
  obtain ⟨W9, hW⟩ : ∃ W, (w9.alloc (.cells (natA 0) 28)).setRow w9.heap.size (natA p) = W := ⟨_, rfl⟩
  rw [hW] at HB R_x R_y R_z R_ab R_ba R_abc R_bc R_cab R_p ⊢
  obtain ⟨gp, hbn⟩ : ∃ b, w9.heap.size = b := ⟨_, rfl⟩
  rw [hbn] at R_p ⊢
  clear hW hbn w9
  refine (M2.out _).mono ?_
  rintro e w10 ⟨rfl, hb⟩
  replace R_x := Lib.hid (keptW hb R_x.out)
  replace R_y := Lib.hid (keptW hb R_y.out)
  replace R_z := Lib.hid (keptW hb R_z.out)
  replace R_ab := Lib.hid (keptW hb R_ab.out)
  replace R_ba := Lib.hid (keptW hb R_ba.out)
  replace R_abc := Lib.hid (keptW hb R_abc.out)
  replace R_bc := Lib.hid (keptW hb R_bc.out)
  replace R_cab := Lib.hid (keptW hb R_cab.out)
  replace R_p := Lib.hid (keptW hb R_p.out)
  replace HB := Lib.hid (HB.out.trans (hb.mono HB.out.size))
  clear hb
  have q_p := R_p.out
  have l_p := rowN_lt q_p
  have q_z := R_z.out
  have l_z := rowN_lt q_z
  replace R_x := Lib.hid (row_st0_other w10 p _ _ R_x.out)
  replace R_y := Lib.hid (row_st0_other w10 p _ _ R_y.out)
  replace R_z := Lib.hid (row_st0_other w10 p _ _ R_z.out)
  replace R_ab := Lib.hid (row_st0_other w10 p _ _ R_ab.out)
  replace R_ba := Lib.hid (row_st0_other w10 p _ _ R_ba.out)
  replace R_abc := Lib.hid (row_st0_other w10 p _ _ R_abc.out)
  replace R_bc := Lib.hid (row_st0_other w10 p _ _ R_bc.out)
  replace R_cab := Lib.hid (row_st0_other w10 p _ _ R_cab.out)
  replace R_p := Lib.hid (row_st0_other w10 p _ _ R_p.out)
  have R_q := Lib.hid (row_st0 w10 p)
  replace HB := Lib.hid (HB.out.trans ((bel_st0 w10 p).mono HB.out.size))
  go_wp2_with fail
  clear q_p l_p q_z l_z
  obtain ⟨W10, hW⟩ : ∃ W, (w10.alloc (.cells (natA 0) 28)).setRow w10.heap.size (natA p) = W := ⟨_, rfl⟩
  rw [hW] at HB R_x R_y R_z R_ab R_ba R_abc R_bc R_cab R_p R_q ⊢
  obtain ⟨gq, hbn⟩ : ∃ b, w10.heap.size = b := ⟨_, rfl⟩
  rw [hbn] at R_q ⊢
  clear hW hbn w10
  refine (M3.out _).mono ?_
  rintro e w11 ⟨rfl, hb⟩
  replace R_x := Lib.hid (keptW hb R_x.out)
  replace R_y := Lib.hid (keptW hb R_y.out)
  replace R_z := Lib.hid (keptW hb R_z.out)
  replace R_ab := Lib.hid (keptW hb R_ab.out)
  replace R_ba := Lib.hid (keptW hb R_ba.out)
  replace R_abc := Lib.hid (keptW hb R_abc.out)
  replace R_bc := Lib.hid (keptW hb R_bc.out)
  replace R_cab := Lib.hid (keptW hb R_cab.out)
  replace R_p := Lib.hid (keptW hb R_p.out)
  replace R_q := Lib.hid (keptW hb R_q.out)
  replace HB := Lib.hid (HB.out.trans (hb.mono HB.out.size))
  clear hb
  have q_y := R_y.out
  have l_y := rowN_lt q_y
  have q_z := R_z.out
  have l_z := rowN_lt q_z
  replace R_x := Lib.hid (row_st0_other w11 r _ _ R_x.out)
  replace R_y := Lib.hid (row_st0_other w11 r _ _ R_y.out)
  replace R_z := Lib.hid (row_st0_other w11 r _ _ R_z.out)
  replace R_ab := Lib.hid (row_st0_other w11 r _ _ R_ab.out)
  replace R_ba := Lib.hid (row_st0_other w11 r _ _ R_ba.out)
  replace R_abc := Lib.hid (row_st0_other w11 r _ _ R_abc.out)
  replace R_bc := Lib.hid (row_st0_other w11 r _ _ R_bc.out)
  replace R_cab := Lib.hid (row_st0_other w11 r _ _ R_cab.out)
  replace R_p := Lib.hid (row_st0_other w11 r _ _ R_p.out)
  replace R_q := Lib.hid (row_st0_other w11 r _ _ R_q.out)
  have R_r := Lib.hid (row_st0 w11 r)
  replace HB := Lib.hid (HB.out.trans ((bel_st0 w11 r).mono HB.out.size))
  go_wp2_with fail
  clear q_y l_y q_z l_z
  obtain ⟨W11, hW⟩ : ∃ W, (w11.alloc (.cells (natA 0) 28)).setRow w11.heap.size (natA r) = W := ⟨_, rfl⟩
  rw [hW] at HB R_x R_y R_z R_ab R_ba R_abc R_bc R_cab R_p R_q R_r ⊢
  obtain ⟨gr, hbn⟩ : ∃ b, w11.heap.size = b := ⟨_, rfl⟩
  rw [hbn] at R_r ⊢
  clear hW hbn w11
  refine (M4.out _).mono ?_
  rintro e w12 ⟨rfl, hb⟩
  replace R_x := Lib.hid (keptW hb R_x.out)
  replace R_y := Lib.hid (keptW hb R_y.out)
  replace R_z := Lib.hid (keptW hb R_z.out)
  replace R_ab := Lib.hid (keptW hb R_ab.out)
  replace R_ba := Lib.hid (keptW hb R_ba.out)
  replace R_abc := Lib.hid (keptW hb R_abc.out)
  replace R_bc := Lib.hid (keptW hb R_bc.out)
  replace R_cab := Lib.hid (keptW hb R_cab.out)
  replace R_p := Lib.hid (keptW hb R_p.out)
  replace R_q := Lib.hid (keptW hb R_q.out)
  replace R_r := Lib.hid (keptW hb R_r.out)
  replace HB := Lib.hid (HB.out.trans (hb.mono HB.out.size))
  clear hb
  have q_x := R_x.out
  have l_x := rowN_lt q_x
  replace R_x := Lib.hid (row_st0_other w12 s _ _ R_x.out)
  replace R_y := Lib.hid (row_st0_other w12 s _ _ R_y.out)
  replace R_z := Lib.hid (row_st0_other w12 s _ _ R_z.out)
  replace R_ab := Lib.hid (row_st0_other w12 s _ _ R_ab.out)
  replace R_ba := Lib.hid (row_st0_other w12 s _ _ R_ba.out)
  replace R_abc := Lib.hid (row_st0_other w12 s _ _ R_abc.out)
  replace R_bc := Lib.hid (row_st0_other w12 s _ _ R_bc.out)
  replace R_cab := Lib.hid (row_st0_other w12 s _ _ R_cab.out)
  replace R_p := Lib.hid (row_st0_other w12 s _ _ R_p.out)
  replace R_q := Lib.hid (row_st0_other w12 s _ _ R_q.out)
  replace R_r := Lib.hid (row_st0_other w12 s _ _ R_r.out)
  have R_s := Lib.hid (row_st0 w12 s)
  replace HB := Lib.hid (HB.out.trans ((bel_st0 w12 s).mono HB.out.size))
  go_wp2_with fail
  clear q_x l_x
  obtain ⟨W12, hW⟩ : ∃ W, (w12.alloc (.cells (natA 0) 28)).setRow w12.heap.size (natA s) = W := ⟨_, rfl⟩
  rw [hW] at HB R_x R_y R_z R_ab R_ba R_abc R_bc R_cab R_p R_q R_r R_s ⊢
  obtain ⟨gs, hbn⟩ : ∃ b, w12.heap.size = b := ⟨_, rfl⟩
  rw [hbn] at R_s ⊢
  clear hW hbn w12
  refine (M5.out _).mono ?_
  rintro e w13 ⟨rfl, hb⟩
  replace R_x := Lib.hid (keptW hb R_x.out)
  replace R_y := Lib.hid (keptW hb R_y.out)
  replace R_z := Lib.hid (keptW hb R_z.out)
  replace R_ab := Lib.hid (keptW hb R_ab.out)
  replace R_ba := Lib.hid (keptW hb R_ba.out)
  replace R_abc := Lib.hid (keptW hb R_abc.out)
  replace R_bc := Lib.hid (keptW hb R_bc.out)
  replace R_cab := Lib.hid (keptW hb R_cab.out)
  replace R_p := Lib.hid (keptW hb R_p.out)
  replace R_q := Lib.hid (keptW hb R_q.out)
  replace R_r := Lib.hid (keptW hb R_r.out)
  replace R_s := Lib.hid (keptW hb R_s.out)
  replace HB := Lib.hid (HB.out.trans (hb.mono HB.out.size))
  clear hb
  have q_x := R_x.out
  have l_x := rowN_lt q_x
  have q_bc := R_bc.out
  have l_bc := rowN_lt q_bc
  replace R_x := Lib.hid (row_st0_other w13 r _ _ R_x.out)
  replace R_y := Lib.hid (row_st0_other w13 r _ _ R_y.out)
  replace R_z := Lib.hid (row_st0_other w13 r _ _ R_z.out)
  replace R_ab := Lib.hid (row_st0_other w13 r _ _ R_ab.out)
  replace R_ba := Lib.hid (row_st0_other w13 r _ _ R_ba.out)
  replace R_abc := Lib.hid (row_st0_other w13 r _ _ R_abc.out)
  replace R_bc := Lib.hid (row_st0_other w13 r _ _ R_bc.out)
  replace R_cab := Lib.hid (row_st0_other w13 r _ _ R_cab.out)
  replace R_p := Lib.hid (row_st0_other w13 r _ _ R_p.out)
  replace R_q := Lib.hid (row_st0_other w13 r _ _ R_q.out)
  replace R_r := Lib.hid (row_st0_other w13 r _ _ R_r.out)
  replace R_s := Lib.hid (row_st0_other w13 r _ _ R_s.out)
  have R_u := Lib.hid (row_st0 w13 r)
  replace HB := Lib.hid (HB.out.trans ((bel_st0 w13 r).mono HB.out.size))
  go_wp2_with fail
  clear q_x l_x q_bc l_bc
  obtain ⟨W13, hW⟩ : ∃ W, (w13.alloc (.cells (natA 0) 28)).setRow w13.heap.size (natA r) = W := ⟨_, rfl⟩
  rw [hW] at HB R_x R_y R_z R_ab R_ba R_abc R_bc R_cab R_p R_q R_r R_s R_u ⊢
  obtain ⟨gu, hbn⟩ : ∃ b, w13.heap.size = b := ⟨_, rfl⟩
  rw [hbn] at R_u ⊢
  clear hW hbn w13
  refine (M6.out _).mono ?_
  rintro e w14 ⟨rfl, hb⟩
  replace R_x := Lib.hid (keptW hb R_x.out)
  replace R_y := Lib.hid (keptW hb R_y.out)
  replace R_z := Lib.hid (keptW hb R_z.out)
  replace R_ab := Lib.hid (keptW hb R_ab.out)
  replace R_ba := Lib.hid (keptW hb R_ba.out)
  replace R_abc := Lib.hid (keptW hb R_abc.out)
  replace R_bc := Lib.hid (keptW hb R_bc.out)
  replace R_cab := Lib.hid (keptW hb R_cab.out)
  replace R_p := Lib.hid (keptW hb R_p.out)
  replace R_q := Lib.hid (keptW hb R_q.out)
  replace R_r := Lib.hid (keptW hb R_r.out)
  replace R_s := Lib.hid (keptW hb R_s.out)
  replace R_u := Lib.hid (keptW hb R_u.out)
  replace HB := Lib.hid (HB.out.trans (hb.mono HB.out.size))
  clear hb
  have q_x := R_x.out
  have l_x := rowN_lt q_x
  have q_z := R_z.out
  have l_z := rowN_lt q_z
  replace R_x := Lib.hid (row_st0_other w14 d _ _ R_x.out)
  replace R_y := Lib.hid (row_st0_other w14 d _ _ R_y.out)
  replace R_z := Lib.hid (row_st0_other w14 d _ _ R_z.out)
  replace R_ab := Lib.hid (row_st0_other w14 d _ _ R_ab.out)
  replace R_ba := Lib.hid (row_st0_other w14 d _ _ R_ba.out)
  replace R_abc := Lib.hid (row_st0_other w14 d _ _ R_abc.out)
  replace R_bc := Lib.hid (row_st0_other w14 d _ _ R_bc.out)
  replace R_cab := Lib.hid (row_st0_other w14 d _ _ R_cab.out)
  replace R_p := Lib.hid (row_st0_other w14 d _ _ R_p.out)
  replace R_q := Lib.hid (row_st0_other w14 d _ _ R_q.out)
  replace R_r := Lib.hid (row_st0_other w14 d _ _ R_r.out)
  replace R_s := Lib.hid (row_st0_other w14 d _ _ R_s.out)
  replace R_u := Lib.hid (row_st0_other w14 d _ _ R_u.out)
  have R_v := Lib.hid (row_st0 w14 d)
  replace HB := Lib.hid (HB.out.trans ((bel_st0 w14 d).mono HB.out.size))
  go_wp2_with fail
  clear q_x l_x q_z l_z
  obtain ⟨W14, hW⟩ : ∃ W, (w14.alloc (.cells (natA 0) 28)).setRow w14.heap.size (natA d) = W := ⟨_, rfl⟩
  rw [hW] at HB R_x R_y R_z R_ab R_ba R_abc R_bc R_cab R_p R_q R_r R_s R_u R_v ⊢
  obtain ⟨gv, hbn⟩ : ∃ b, w14.heap.size = b := ⟨_, rfl⟩
  rw [hbn] at R_v ⊢
  clear hW hbn w14
  refine (M7.out _).mono ?_
  rintro e w15 ⟨rfl, hb⟩
  replace R_x := Lib.hid (keptW hb R_x.out)
  replace R_y := Lib.hid (keptW hb R_y.out)
  replace R_z := Lib.hid (keptW hb R_z.out)
  replace R_ab := Lib.hid (keptW hb R_ab.out)
  replace R_ba := Lib.hid (keptW hb R_ba.out)
  replace R_abc := Lib.hid (keptW hb R_abc.out)
  replace R_bc := Lib.hid (keptW hb R_bc.out)
  replace R_cab := Lib.hid (keptW hb R_cab.out)
  replace R_p := Lib.hid (keptW hb R_p.out)
  replace R_q := Lib.hid (keptW hb R_q.out)
  replace R_r := Lib.hid (keptW hb R_r.out)
  replace R_s := Lib.hid (keptW hb R_s.out)
  replace R_u := Lib.hid (keptW hb R_u.out)
  replace R_v := Lib.hid (keptW hb R_v.out)
  replace HB := Lib.hid (HB.out.trans (hb.mono HB.out.size))
  clear hb
  have q_p := R_p.out
  have l_p := rowN_lt q_p
  replace R_x := Lib.hid (row_st0_other w15 xz _ _ R_x.out)
  replace R_y := Lib.hid (row_st0_other w15 xz _ _ R_y.out)
  replace R_z := Lib.hid (row_st0_other w15 xz _ _ R_z.out)
  replace R_ab := Lib.hid (row_st0_other w15 xz _ _ R_ab.out)
  replace R_ba := Lib.hid (row_st0_other w15 xz _ _ R_ba.out)
  replace R_abc := Lib.hid (row_st0_other w15 xz _ _ R_abc.out)
  replace R_bc := Lib.hid (row_st0_other w15 xz _ _ R_bc.out)
  replace R_cab := Lib.hid (row_st0_other w15 xz _ _ R_cab.out)
  replace R_p := Lib.hid (row_st0_other w15 xz _ _ R_p.out)
  replace R_q := Lib.hid (row_st0_other w15 xz _ _ R_q.out)
  replace R_r := Lib.hid (row_st0_other w15 xz _ _ R_r.out)
  replace R_s := Lib.hid (row_st0_other w15 xz _ _ R_s.out)
  replace R_u := Lib.hid (row_st0_other w15 xz _ _ R_u.out)
  replace R_v := Lib.hid (row_st0_other w15 xz _ _ R_v.out)
  have R_xz := Lib.hid (row_st0 w15 xz)
  replace HB := Lib.hid (HB.out.trans ((bel_st0 w15 xz).mono HB.out.size))
  go_wp2_with fail
  clear q_p l_p
  obtain ⟨W15, hW⟩ : ∃ W, (w15.alloc (.cells (natA 0) 28)).setRow w15.heap.size (natA xz) = W := ⟨_, rfl⟩
  rw [hW] at HB R_x R_y R_z R_ab R_ba R_abc R_bc R_cab R_p R_q R_r R_s R_u R_v R_xz ⊢
  obtain ⟨gxz, hbn⟩ : ∃ b, w15.heap.size = b := ⟨_, rfl⟩
  rw [hbn] at R_xz ⊢
  clear hW hbn w15
  refine (A6.out _).mono ?_
  rintro e w16 ⟨rfl, hb⟩
  replace R_x := Lib.hid (keptW hb R_x.out)
  replace R_y := Lib.hid (keptW hb R_y.out)
  replace R_z := Lib.hid (keptW hb R_z.out)
  replace R_ab := Lib.hid (keptW hb R_ab.out)
  replace R_ba := Lib.hid (keptW hb R_ba.out)
  replace R_abc := Lib.hid (keptW hb R_abc.out)
  replace R_bc := Lib.hid (keptW hb R_bc.out)
  replace R_cab := Lib.hid (keptW hb R_cab.out)
  replace R_p := Lib.hid (keptW hb R_p.out)
  replace R_q := Lib.hid (keptW hb R_q.out)
  replace R_r := Lib.hid (keptW hb R_r.out)
  replace R_s := Lib.hid (keptW hb R_s.out)
  replace R_u := Lib.hid (keptW hb R_u.out)
  replace R_v := Lib.hid (keptW hb R_v.out)
  replace R_xz := Lib.hid (keptW hb R_xz.out)
  replace HB := Lib.hid (HB.out.trans (hb.mono HB.out.size))
  clear hb
  have q_p := R_p.out
  have l_p := rowN_lt q_p
  have q_q := R_q.out
  have l_q := rowN_lt q_q
  have q_r := R_r.out
  have l_r := rowN_lt q_r
  have q_u := R_u.out
  have l_u := rowN_lt q_u
  have q_v := R_v.out
  have l_v := rowN_lt q_v
  have q_ab := R_ab.out
  have l_ab := rowN_lt q_ab
  have q_y := R_y.out
  have l_y := rowN_lt q_y
  replace R_x := Lib.hid (row_st0_other w16 d _ _ R_x.out)
  replace R_y := Lib.hid (row_st0_other w16 d _ _ R_y.out)
  replace R_z := Lib.hid (row_st0_other w16 d _ _ R_z.out)
  replace R_ab := Lib.hid (row_st0_other w16 d _ _ R_ab.out)
  replace R_ba := Lib.hid (row_st0_other w16 d _ _ R_ba.out)
  replace R_abc := Lib.hid (row_st0_other w16 d _ _ R_abc.out)
  replace R_bc := Lib.hid (row_st0_other w16 d _ _ R_bc.out)
  replace R_cab := Lib.hid (row_st0_other w16 d _ _ R_cab.out)
  replace R_p := Lib.hid (row_st0_other w16 d _ _ R_p.out)
  replace R_q := Lib.hid (row_st0_other w16 d _ _ R_q.out)
  replace R_r := Lib.hid (row_st0_other w16 d _ _ R_r.out)
  replace R_s := Lib.hid (row_st0_other w16 d _ _ R_s.out)
  replace R_u := Lib.hid (row_st0_other w16 d _ _ R_u.out)
  replace R_v := Lib.hid (row_st0_other w16 d _ _ R_v.out)
  replace R_xz := Lib.hid (row_st0_other w16 d _ _ R_xz.out)
  have R_sum := Lib.hid (row_st0 w16 d)
  replace HB := Lib.hid (HB.out.trans ((bel_st0 w16 d).mono HB.out.size))
  go_wp2_with fail
  clear q_p l_p q_q l_q q_r l_r q_u l_u q_v l_v q_ab l_ab q_y l_y
  obtain ⟨W16, hW⟩ : ∃ W, (w16.alloc (.cells (natA 0) 28)).setRow w16.heap.size (natA d) = W := ⟨_, rfl⟩
  rw [hW] at HB R_x R_y R_z R_ab R_ba R_abc R_bc R_cab R_p R_q R_r R_s R_u R_v R_xz R_sum ⊢
  obtain ⟨gsum, hbn⟩ : ∃ b, w16.heap.size = b := ⟨_, rfl⟩
  rw [hbn] at R_sum ⊢
  clear hW hbn w16
  refine (S1.out _).mono ?_
  rintro e w17 ⟨rfl, hb⟩
  replace R_x := Lib.hid (keptW hb R_x.out)
  replace R_y := Lib.hid (keptW hb R_y.out)
  replace R_z := Lib.hid (keptW hb R_z.out)
  replace R_ab := Lib.hid (keptW hb R_ab.out)
  replace R_ba := Lib.hid (keptW hb R_ba.out)
  replace R_abc := Lib.hid (keptW hb R_abc.out)
  replace R_bc := Lib.hid (keptW hb R_bc.out)
  replace R_cab := Lib.hid (keptW hb R_cab.out)
  replace R_p := Lib.hid (keptW hb R_p.out)
  replace R_q := Lib.hid (keptW hb R_q.out)
  replace R_r := Lib.hid (keptW hb R_r.out)
  replace R_s := Lib.hid (keptW hb R_s.out)
  replace R_u := Lib.hid (keptW hb R_u.out)
  replace R_v := Lib.hid (keptW hb R_v.out)
  replace R_xz := Lib.hid (keptW hb R_xz.out)
  replace R_sum := Lib.hid (keptW hb R_sum.out)
  replace HB := Lib.hid (HB.out.trans (hb.mono HB.out.size))
  clear hb
  have q_x := R_x.out
  have l_x := rowN_lt q_x
  have q_y := R_y.out
  have l_y := rowN_lt q_y
  replace R_x := Lib.hid (row_st0_other w17 x _ _ R_x.out)
  replace R_y := Lib.hid (row_st0_other w17 x _ _ R_y.out)
  replace R_z := Lib.hid (row_st0_other w17 x _ _ R_z.out)
  replace R_ab := Lib.hid (row_st0_other w17 x _ _ R_ab.out)
  replace R_ba := Lib.hid (row_st0_other w17 x _ _ R_ba.out)
  replace R_abc := Lib.hid (row_st0_other w17 x _ _ R_abc.out)
  replace R_bc := Lib.hid (row_st0_other w17 x _ _ R_bc.out)
  replace R_cab := Lib.hid (row_st0_other w17 x _ _ R_cab.out)
  replace R_p := Lib.hid (row_st0_other w17 x _ _ R_p.out)
  replace R_q := Lib.hid (row_st0_other w17 x _ _ R_q.out)
  replace R_r := Lib.hid (row_st0_other w17 x _ _ R_r.out)
  replace R_s := Lib.hid (row_st0_other w17 x _ _ R_s.out)
  replace R_u := Lib.hid (row_st0_other w17 x _ _ R_u.out)
  replace R_v := Lib.hid (row_st0_other w17 x _ _ R_v.out)
  replace R_xz := Lib.hid (row_st0_other w17 x _ _ R_xz.out)
  replace R_sum := Lib.hid (row_st0_other w17 x _ _ R_sum.out)
  have R_back := Lib.hid (row_st0 w17 x)
  replace HB := Lib.hid (HB.out.trans ((bel_st0 w17 x).mono HB.out.size))
  go_wp2_with fail
  clear q_x l_x q_y l_y
  obtain ⟨W17, hW⟩ : ∃ W, (w17.alloc (.cells (natA 0) 28)).setRow w17.heap.size (natA x) = W := ⟨_, rfl⟩
  rw [hW] at HB R_x R_y R_z R_ab R_ba R_abc R_bc R_cab R_p R_q R_r R_s R_u R_v R_xz R_sum R_back ⊢
  obtain ⟨gback, hbn⟩ : ∃ b, w17.heap.size = b := ⟨_, rfl⟩
  rw [hbn] at R_back ⊢
  clear hW hbn w17
  refine (IZ.out _).mono ?_
  rintro e w18 ⟨rfl, hb⟩
  replace R_x := Lib.hid (keptW hb R_x.out)
  replace R_y := Lib.hid (keptW hb R_y.out)
  replace R_z := Lib.hid (keptW hb R_z.out)
  replace R_ab := Lib.hid (keptW hb R_ab.out)
  replace R_ba := Lib.hid (keptW hb R_ba.out)
  replace R_abc := Lib.hid (keptW hb R_abc.out)
  replace R_bc := Lib.hid (keptW hb R_bc.out)
  replace R_cab := Lib.hid (keptW hb R_cab.out)
  replace R_p := Lib.hid (keptW hb R_p.out)
  replace R_q := Lib.hid (keptW hb R_q.out)
  replace R_r := Lib.hid (keptW hb R_r.out)
  replace R_s := Lib.hid (keptW hb R_s.out)
  replace R_u := Lib.hid (keptW hb R_u.out)
  replace R_v := Lib.hid (keptW hb R_v.out)
  replace R_xz := Lib.hid (keptW hb R_xz.out)
  replace R_sum := Lib.hid (keptW hb R_sum.out)
  replace R_back := Lib.hid (keptW hb R_back.out)
  replace HB := Lib.hid (HB.out.trans (hb.mono HB.out.size))
  clear hb
  have q_r := R_r.out
  have l_r := rowN_lt q_r
  go_wp2_with fail
  clear q_r l_r
  refine (BY.out _).mono ?_
  rintro e wB ⟨sB, rfl, ht, hb⟩
  have HBB := Lib.hid ht
  replace R_x := Lib.hid (keptW hb R_x.out)
  replace R_y := Lib.hid (keptW hb R_y.out)
  replace R_z := Lib.hid (keptW hb R_z.out)
  replace R_ab := Lib.hid (keptW hb R_ab.out)
  replace R_ba := Lib.hid (keptW hb R_ba.out)
  replace R_abc := Lib.hid (keptW hb R_abc.out)
  replace R_bc := Lib.hid (keptW hb R_bc.out)
  replace R_cab := Lib.hid (keptW hb R_cab.out)
  replace R_p := Lib.hid (keptW hb R_p.out)
  replace R_q := Lib.hid (keptW hb R_q.out)
  replace R_r := Lib.hid (keptW hb R_r.out)
  replace R_s := Lib.hid (keptW hb R_s.out)
  replace R_u := Lib.hid (keptW hb R_u.out)
  replace R_v := Lib.hid (keptW hb R_v.out)
  replace R_xz := Lib.hid (keptW hb R_xz.out)
  replace R_sum := Lib.hid (keptW hb R_sum.out)
  replace R_back := Lib.hid (keptW hb R_back.out)
  replace HB := Lib.hid (HB.out.trans (hb.mono HB.out.size))
  clear hb ht
  go_wp2_with fail
  refine (FB.out _ _ HBB.out).mono ?_
  rintro e w20 ⟨rfl, hb⟩
  replace R_x := Lib.hid (keptW hb R_x.out)
  replace R_y := Lib.hid (keptW hb R_y.out)
  replace R_z := Lib.hid (keptW hb R_z.out)
  replace R_ab := Lib.hid (keptW hb R_ab.out)
  replace R_ba := Lib.hid (keptW hb R_ba.out)
  replace R_abc := Lib.hid (keptW hb R_abc.out)
  replace R_bc := Lib.hid (keptW hb R_bc.out)
  replace R_cab := Lib.hid (keptW hb R_cab.out)
  replace R_p := Lib.hid (keptW hb R_p.out)
  replace R_q := Lib.hid (keptW hb R_q.out)
  replace R_r := Lib.hid (keptW hb R_r.out)
  replace R_s := Lib.hid (keptW hb R_s.out)
  replace R_u := Lib.hid (keptW hb R_u.out)
  replace R_v := Lib.hid (keptW hb R_v.out)
  replace R_xz := Lib.hid (keptW hb R_xz.out)
  replace R_sum := Lib.hid (keptW hb R_sum.out)
  replace R_back := Lib.hid (keptW hb R_back.out)
  replace HB := Lib.hid (HB.out.trans (hb.mono HB.out.size))
  clear hb
  have q_r := R_r.out
  have l_r := rowN_lt q_r
  replace R_x := Lib.hid (row_st0_other w20 r _ _ R_x.out)
  replace R_y := Lib.hid (row_st0_other w20 r _ _ R_y.out)
  replace R_z := Lib.hid (row_st0_other w20 r _ _ R_z.out)
  replace R_ab := Lib.hid (row_st0_other w20 r _ _ R_ab.out)
  replace R_ba := Lib.hid (row_st0_other w20 r _ _ R_ba.out)
  replace R_abc := Lib.hid (row_st0_other w20 r _ _ R_abc.out)
  replace R_bc := Lib.hid (row_st0_other w20 r _ _ R_bc.out)
  replace R_cab := Lib.hid (row_st0_other w20 r _ _ R_cab.out)
  replace R_p := Lib.hid (row_st0_other w20 r _ _ R_p.out)
  replace R_q := Lib.hid (row_st0_other w20 r _ _ R_q.out)
  replace R_r := Lib.hid (row_st0_other w20 r _ _ R_r.out)
  replace R_s := Lib.hid (row_st0_other w20 r _ _ R_s.out)
  replace R_u := Lib.hid (row_st0_other w20 r _ _ R_u.out)
  replace R_v := Lib.hid (row_st0_other w20 r _ _ R_v.out)
  replace R_xz := Lib.hid (row_st0_other w20 r _ _ R_xz.out)
  replace R_sum := Lib.hid (row_st0_other w20 r _ _ R_sum.out)
  replace R_back := Lib.hid (row_st0_other w20 r _ _ R_back.out)
  have R_one := Lib.hid (row_st0 w20 r)
  replace HB := Lib.hid (HB.out.trans ((bel_st0 w20 r).mono HB.out.size))
  go_wp2_with fail
  clear q_r l_r
  obtain ⟨W20, hW⟩ : ∃ W, (w20.alloc (.cells (natA 0) 28)).setRow w20.heap.size (natA r) = W := ⟨_, rfl⟩
  rw [hW] at HB R_x R_y R_z R_ab R_ba R_abc R_bc R_cab R_p R_q R_r R_s R_u R_v R_xz R_sum R_back R_one ⊢
  obtain ⟨gone, hbn⟩ : ∃ b, w20.heap.size = b := ⟨_, rfl⟩
  rw [hbn] at R_one ⊢
  clear hW hbn w20
  refine (TX.out _).mono ?_
  rintro e w21 ⟨rfl, hb⟩
  replace R_x := Lib.hid (keptW hb R_x.out)
  replace R_y := Lib.hid (keptW hb R_y.out)
  replace R_z := Lib.hid (keptW hb R_z.out)
  replace R_ab := Lib.hid (keptW hb R_ab.out)
  replace R_ba := Lib.hid (keptW hb R_ba.out)
  replace R_abc := Lib.hid (keptW hb R_abc.out)
  replace R_bc := Lib.hid (keptW hb R_bc.out)
  replace R_cab := Lib.hid (keptW hb R_cab.out)
  replace R_p := Lib.hid (keptW hb R_p.out)
  replace R_q := Lib.hid (keptW hb R_q.out)
  replace R_r := Lib.hid (keptW hb R_r.out)
  replace R_s := Lib.hid (keptW hb R_s.out)
  replace R_u := Lib.hid (keptW hb R_u.out)
  replace R_v := Lib.hid (keptW hb R_v.out)
  replace R_xz := Lib.hid (keptW hb R_xz.out)
  replace R_sum := Lib.hid (keptW hb R_sum.out)
  replace R_back := Lib.hid (keptW hb R_back.out)
  replace R_one := Lib.hid (keptW hb R_one.out)
  replace HB := Lib.hid (HB.out.trans (hb.mono HB.out.size))
  clear hb
  go_wp2_with fail
  refine (PA.out _).mono ?_
  rintro e w22 ⟨rfl, hb⟩
  replace R_x := Lib.hid (keptW hb R_x.out)
  replace R_y := Lib.hid (keptW hb R_y.out)
  replace R_z := Lib.hid (keptW hb R_z.out)
  replace R_ab := Lib.hid (keptW hb R_ab.out)
  replace R_ba := Lib.hid (keptW hb R_ba.out)
  replace R_abc := Lib.hid (keptW hb R_abc.out)
  replace R_bc := Lib.hid (keptW hb R_bc.out)
  replace R_cab := Lib.hid (keptW hb R_cab.out)
  replace R_p := Lib.hid (keptW hb R_p.out)
  replace R_q := Lib.hid (keptW hb R_q.out)
  replace R_r := Lib.hid (keptW hb R_r.out)
  replace R_s := Lib.hid (keptW hb R_s.out)
  replace R_u := Lib.hid (keptW hb R_u.out)
  replace R_v := Lib.hid (keptW hb R_v.out)
  replace R_xz := Lib.hid (keptW hb R_xz.out)
  replace R_sum := Lib.hid (keptW hb R_sum.out)
  replace R_back := Lib.hid (keptW hb R_back.out)
  replace R_one := Lib.hid (keptW hb R_one.out)
  replace HB := Lib.hid (HB.out.trans (hb.mono HB.out.size))
  clear hb
  have q_one := R_one.out
  have l_one := rowN_lt q_one
  have q_r := R_r.out
  have l_r := rowN_lt q_r
  replace R_x := Lib.hid (row_st0_other w22 r _ _ R_x.out)
  replace R_y := Lib.hid (row_st0_other w22 r _ _ R_y.out)
  replace R_z := Lib.hid (row_st0_other w22 r _ _ R_z.out)
  replace R_ab := Lib.hid (row_st0_other w22 r _ _ R_ab.out)
  replace R_ba := Lib.hid (row_st0_other w22 r _ _ R_ba.out)
  replace R_abc := Lib.hid (row_st0_other w22 r _ _ R_abc.out)
  replace R_bc := Lib.hid (row_st0_other w22 r _ _ R_bc.out)
  replace R_cab := Lib.hid (row_st0_other w22 r _ _ R_cab.out)
  replace R_p := Lib.hid (row_st0_other w22 r _ _ R_p.out)
  replace R_q := Lib.hid (row_st0_other w22 r _ _ R_q.out)
  replace R_r := Lib.hid (row_st0_other w22 r _ _ R_r.out)
  replace R_s := Lib.hid (row_st0_other w22 r _ _ R_s.out)
  replace R_u := Lib.hid (row_st0_other w22 r _ _ R_u.out)
  replace R_v := Lib.hid (row_st0_other w22 r _ _ R_v.out)
  replace R_xz := Lib.hid (row_st0_other w22 r _ _ R_xz.out)
  replace R_sum := Lib.hid (row_st0_other w22 r _ _ R_sum.out)
  replace R_back := Lib.hid (row_st0_other w22 r _ _ R_back.out)
  replace R_one := Lib.hid (row_st0_other w22 r _ _ R_one.out)
  have R_two := Lib.hid (row_st0 w22 r)
  replace HB := Lib.hid (HB.out.trans ((bel_st0 w22 r).mono HB.out.size))
  go_wp2_with fail
  clear q_one l_one q_r l_r
  obtain ⟨W22, hW⟩ : ∃ W, (w22.alloc (.cells (natA 0) 28)).setRow w22.heap.size (natA r) = W := ⟨_, rfl⟩
  rw [hW] at HB R_x R_y R_z R_ab R_ba R_abc R_bc R_cab R_p R_q R_r R_s R_u R_v R_xz R_sum R_back R_one R_two ⊢
  obtain ⟨gtwo, hbn⟩ : ∃ b, w22.heap.size = b := ⟨_, rfl⟩
  rw [hbn] at R_two ⊢
  clear hW hbn w22
  refine (known_any _).mono ?_
  rintro e wK ⟨rfl, hb⟩
  have HBK := Lib.hid (HB.out.trans (hb.mono HB.out.size))
  clear hb
  go_wp2_with fail
  go_ret
  exact ⟨rfl, HBK.out⟩


set_option maxRecDepth 100000 in
theorem holds_long (n n' n'' : Nat) (a a' a'' : Option Addr) (c c' c'' : Nat) (w : World) (h : 40 < n ∨ 40 < n' ∨ 40 < n'') :
    Calls Try.prog 10 #[.slice a n c, .slice a' n' c', .slice a'' n'' c''] w fun e w' => e = .returned (.bool true) ∧ Below w.heap.size w w' := by
  by_cases h1 : 40 < n
  · clear h
    go_enter Try.func10, Try.ntmps10
    go_wp2_with fail
    refine (known_any _).mono ?_
    rintro e wK ⟨rfl, hb⟩
    have HBK := Lib.hid hb
    clear hb
    go_wp2_with fail
    go_ret
    exact ⟨rfl, HBK.out⟩
  · by_cases h2 : 40 < n'
    · clear h
      go_enter Try.func10, Try.ntmps10
      go_wp2_with fail
      refine (known_any _).mono ?_
      rintro e wK ⟨rfl, hb⟩
      have HBK := Lib.hid hb
      clear hb
      go_wp2_with fail
      go_ret
      exact ⟨rfl, HBK.out⟩
    · have h3 : 40 < n'' := by omega
      clear h
      go_enter Try.func10, Try.ntmps10
      go_wp2_with fail
      refine (known_any _).mono ?_
      rintro e wK ⟨rfl, hb⟩
      have HBK := Lib.hid hb
      clear hb
      go_wp2_with fail
      go_ret
      exact ⟨rfl, HBK.out⟩

theorem holds_all (zs ys xs : List Nat) (a a' a'' : Option Addr) (c c' c'' : Nat) (w : World) (hz : BytesAt zs (.slice a zs.length c) w) (hy : BytesAt ys (.slice a' ys.length c') w) (hx : BytesAt xs (.slice a'' xs.length c'') w) :
    Calls Try.prog 10 #[.slice a zs.length c, .slice a' ys.length c', .slice a'' xs.length c''] w fun e w' => e = .returned (.bool true) ∧ Below w.heap.size w w' := by
  by_cases hl : 40 < zs.length ∨ 40 < ys.length ∨ 40 < xs.length
  · exact holds_long _ _ _ a a' a'' c c' c'' w hl
  · rcases Nat.eq_zero_or_pos (valBE 256 ys) with h0 | h0
    · exact holds_zero zs ys xs a a' a'' c c' c'' w hz hy hx (by omega) (by omega) (by omega) _ _ _ rfl rfl rfl h0
    · exact holds_pos zs ys xs a a' a'' c c' c'' w hz hy hx (by omega) (by omega) (by omega) _ _ _ rfl rfl rfl h0
end Go.Proofs.Ytkegdjndmeialaa

namespace Go.Proofs.Ytkegdjndmeialaa.natHolds
open Go.ChangeShapes Go.WideShapes Go.ChangeAt Go.RowKit
open Go.ChangeMaps (open_string shut_string)
set_option linter.unusedVariables false

theorem own : ownKnob Try.prog.godebug = none := by kernel_rfl
theorem laidOut : laidOutB Try.prog = true := by kernel_rfl

/-- WHAT THE WALK IS TOLD OF A SLICE OF INTEGERS THAT CAME IN: it is nil; or it leads to a row of 'cap' cells, the numbers 'zs' (the first 'len' are its elements, the rest its spare room), each fitting its kind. -/
def IsRow (k : IntKind) (w : World) (a : Option Addr) (len cap : Nat) (zs : List Int) : Prop :=
  (a = none ∧ len = 0 ∧ cap = 0 ∧ zs = []) ∨
  ∃ x, a = some x ∧ len ≤ cap ∧ cap ≤ maxLen ∧ zs.length = cap ∧ (∀ i, i < zs.length → w.cell? (x.add i) = some (.int k (zs.getD i 0))) ∧ ∀ n ∈ zs, (Lit.int k n).wf = true

/-! ### STEP 1: THE WALK: the Go text returns true, AND WRITES NOTHING THAT WAS THERE: 'Below w.heap.size w w'' (Derived/Below.lean: '.refl', '.alloc', '.drew', '.setCell' at a new block, '.trans'). Open each 'IsRow' by 'rcases' AHEAD of 'go_enter'; part every test ahead of the walk. -/
theorem walk (a0 : Option Addr) (len0 cap0 : Nat) (z0 : List Int) (a1 : Option Addr) (len1 cap1 : Nat) (z1 : List Int) (a2 : Option Addr) (len2 cap2 : Nat) (z2 : List Int) (w : World) (w0 : IsRow .u8 w a0 len0 cap0 z0) (w1 : IsRow .u8 w a1 len1 cap1 z1) (w2 : IsRow .u8 w a2 len2 cap2 z2) :
    Calls Try.prog 10 #[.slice a0 len0 cap0, .slice a1 len1 cap1, .slice a2 len2 cap2] w fun e w' => e = .returned (.bool true) ∧ Below w.heap.size w w' := by
  obtain ⟨zs, hlen0, hb0⟩ := bytesAt_of w a0 len0 cap0 z0 w0
  obtain ⟨ys, hlen1, hb1⟩ := bytesAt_of w a1 len1 cap1 z1 w1
  obtain ⟨xs, hlen2, hb2⟩ := bytesAt_of w a2 len2 cap2 z2 w2
  subst hlen0
  subst hlen1
  subst hlen2
  exact holds_all zs ys xs a0 a1 a2 cap0 cap1 cap2 w hb0 hb1 hb2

/-! ### THE ROW's STEP: WRITTEN OUT: LEAVE IT -/
set_option maxRecDepth 100000 in
theorem lifted (os : Os) (started : os.Started) (H : Type) (enc : TypeId × Value → H) :
    ReturnsInHanded {} Try.checked os 10 .any (Rows.natHoldsSpec.pre6 enc Try.prog Try.f10 Rows.natHoldsRow.domain false) (Rows.natHoldsSpec.post enc Try.prog Try.f10 false true false false) := by
  refine returnsInHanded_of_change (C := Try.checked) own started (by kernel_rfl) Try.func10
    (ChangeSpec.witness6 (enc := enc) (C := Try.checked) false ⟨#[], #[.slice none 0 0, .slice none 0 0, .slice none 0 0], []⟩ 8 (by kernel_rfl) (by kernel_rfl) (by kernel_rfl) (by kernel_rfl)) ?_
  intro W base args ds gs before hval0 hW hcnd _
  have hval : ∀ (j : Nat) t v, Try.f10.params[j]? = some t → args[j]? = some v → Value.okWide Try.prog W .any base t v := hval0
  have hW' := hW
  obtain ⟨p, q, hA0, hV, rfl, hfz, hnd⟩ := hW
  have hA : DataW.TrodAll enc Try.prog W 0 (fun _ => true) true Try.f10.params.toList args.toList ds p := hA0
  rw [Try.params10] at hA hval
  obtain ⟨v0, vs0, d0, ds0, p0, q0, hargs, rfl, rfl, h0, r0⟩ := trodAll_cons hA
  obtain ⟨v1, vs1, d1, ds1, p1, q1, rfl, rfl, rfl, h1, r1⟩ := trodAll_cons r0
  obtain ⟨v2, vs2, d2, ds2, p2, q2, rfl, rfl, rfl, h2, r2⟩ := trodAll_cons r1
  obtain ⟨rfl, rfl, rfl⟩ := trodAll_nil r2
  obtain rfl : args = #[v0, v1, v2] := by cases args; simp_all
  obtain ⟨rfl, rfl⟩ := trodVars_none hV
  obtain ⟨a0, len0, cap0, rfl⟩ := okWide_slice Try.underlying22 (hval 0 22 v0 rfl rfl)
  have k0 := h0
  have lt0 : ∀ x ∈ p0, x.block < W.heap.size := by obtain ⟨m, hm⟩ := k0; exact DataW.trod_lt m _ _ _ hm
  obtain ⟨z0, w0⟩ : ∃ zs, IsRow .u8 W a0 len0 cap0 zs := by
    obtain ⟨fuel, hf⟩ := h0
    rcases open_ints Try.underlying22 Try.underlying5 (by kernel_rfl) hf with ⟨hcs, _⟩ | ⟨x, l, c, zs, hcs, _, hl, hm, hz, _, hcell, hwz⟩
    · simp [Value.cells] at hcs
      obtain ⟨rfl, rfl, rfl⟩ := hcs
      exact ⟨[], .inl ⟨rfl, rfl, rfl, rfl⟩⟩
    · simp [Value.cells] at hcs
      obtain ⟨rfl, rfl, rfl⟩ := hcs
      exact ⟨zs, .inr ⟨_, rfl, hl, hm, by simpa using hz, hcell, hwz⟩⟩
  obtain ⟨a1, len1, cap1, rfl⟩ := okWide_slice Try.underlying22 (hval 1 22 v1 rfl rfl)
  have k1 := h1
  have lt1 : ∀ x ∈ p1, x.block < W.heap.size := by obtain ⟨m, hm⟩ := k1; exact DataW.trod_lt m _ _ _ hm
  obtain ⟨z1, w1⟩ : ∃ zs, IsRow .u8 W a1 len1 cap1 zs := by
    obtain ⟨fuel, hf⟩ := h1
    rcases open_ints Try.underlying22 Try.underlying5 (by kernel_rfl) hf with ⟨hcs, _⟩ | ⟨x, l, c, zs, hcs, _, hl, hm, hz, _, hcell, hwz⟩
    · simp [Value.cells] at hcs
      obtain ⟨rfl, rfl, rfl⟩ := hcs
      exact ⟨[], .inl ⟨rfl, rfl, rfl, rfl⟩⟩
    · simp [Value.cells] at hcs
      obtain ⟨rfl, rfl, rfl⟩ := hcs
      exact ⟨zs, .inr ⟨_, rfl, hl, hm, by simpa using hz, hcell, hwz⟩⟩
  obtain ⟨a2, len2, cap2, rfl⟩ := okWide_slice Try.underlying22 (hval 2 22 v2 rfl rfl)
  have k2 := h2
  have lt2 : ∀ x ∈ p2, x.block < W.heap.size := by obtain ⟨m, hm⟩ := k2; exact DataW.trod_lt m _ _ _ hm
  obtain ⟨z2, w2⟩ : ∃ zs, IsRow .u8 W a2 len2 cap2 zs := by
    obtain ⟨fuel, hf⟩ := h2
    rcases open_ints Try.underlying22 Try.underlying5 (by kernel_rfl) hf with ⟨hcs, _⟩ | ⟨x, l, c, zs, hcs, _, hl, hm, hz, _, hcell, hwz⟩
    · simp [Value.cells] at hcs
      obtain ⟨rfl, rfl, rfl⟩ := hcs
      exact ⟨[], .inl ⟨rfl, rfl, rfl, rfl⟩⟩
    · simp [Value.cells] at hcs
      obtain ⟨rfl, rfl, rfl⟩ := hcs
      exact ⟨zs, .inr ⟨_, rfl, hl, hm, by simpa using hz, hcell, hwz⟩⟩
  clear hA0 hval0
  refine (walk a0 len0 cap0 z0 a1 len1 cap1 z1 a2 len2 cap2 z2 W w0 w1 w2).mono fun e W' ⟨he, bel⟩ => ?_
  subst he
  exact ⟨_, rfl, _, _, _, [], _, [], hW', trodAll_mk1 (shut_bool Try.underlying4 _), (trodAll_cons_mk (Below.trod laidOut (by kernel_rfl) (of_decide_eq_true (by kernel_rfl)) k0 bel lt0) (trodAll_cons_mk (Below.trod laidOut (by kernel_rfl) (of_decide_eq_true (by kernel_rfl)) k1 bel lt1) (trodAll_cons_mk (Below.trod laidOut (by kernel_rfl) (of_decide_eq_true (by kernel_rfl)) k2 bel lt2) trodAll_mk0))), rfl, bel.frame _, fun h => by cases h⟩

theorem over : Rows.natHoldsRow.holds Try.pinned (OpenSpec.ofChange Rows.natHoldsSpec) :=
  OpenClaim.holds_of_wide 10 Try.f10 rfl rfl rfl rfl rfl rfl rfl ⟨rfl, rfl, rfl, rfl, rfl⟩ rfl rfl rfl rfl rfl (by kernel_rfl) Try.func10 (by kernel_rfl)
    (of_decide_eq_true (by kernel_rfl)) (by unfold Func.isWrapper; first | (rw [if_pos (by decide +kernel)]; kernel_rfl) | (rw [if_neg (by decide +kernel)]; exact ⟨rfl, rfl⟩))
    (fun os started H enc _ => lifted os started H enc)

/-- ████ THE STATEMENT ████ -/
theorem proved : Rows.NatHoldsSaid := over
#print axioms proved
end Go.Proofs.Ytkegdjndmeialaa.natHolds
