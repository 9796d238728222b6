/- ModularHolds, walked. -/
import Derived.Test.YtlmfiggmjpjpiaaCD
import Derived.Test.YtlmfiggmjpjpiaaT0
import Derived.Test.YtlmfiggmjpjpiaaP4
import Derived.Test.YtlmfiggmjpjpiaaG3
import Derived.Test.YtlmfiggmjpjpiaaC3
import Derived.Test.YtlmfiggmjpjpiaaZR
import Derived.Test.YtlmfiggmjpjpiaaCK
namespace Go.Proofs.Ytlmfiggmjpjpiaa
open Go.RowKit

attribute [local go_sem] Oper.semAt_some

theorem fromBytes_wide (zs : List Nat) (s : Value) (w : World) (h : BytesAt zs s w) (hn : zs.length ≤ 9223372036854775807) :
    Calls Try.prog 34 #[s] w fun e w' => e = .returned (.tuple #[.agg (natA (fbV zs)), .int .i64 (fbE zs)]) ∧ Below w.heap.size w w' := by
  by_cases h1 : zs.length ≤ 1000000
  · exact fromBytes_any zs s w h h1
  · obtain ⟨h256, a, c, rfl, hnc, h0 | ⟨b, off, rfl, hb, hc⟩⟩ := h
    · omega
    · refine fromBytes_some b off zs.length c zs w rfl (fun j => ?_) (by omega) hnc hb hc
      by_cases hj : j < zs.length
      · exact h256 _ (by rw [List.getD, List.getElem?_eq_getElem hj]; exact List.getElem_mem _)
      · rw [List.getD, List.getElem?_eq_none (by omega)]; exact (by decide : (0 : Nat) < 256)
theorem made_wide (zs : List Nat) (s : Value) (w : World) (h : BytesAt zs s w) (hn : zs.length ≤ 9223372036854775807) :
    Calls Try.prog 11 #[s] w fun e w' => e = .returned (.agg (natA (fbV zs))) ∧ Below w.heap.size w w' :=
  made_of (fbV zs) (fbE zs) s w (fun W hW => fromBytes_wide zs s W (h.kept hW) hn)
theorem isZ_false (y : Nat) (hy : y < P64 ^ 16) (h : 0 < y) (w : World) : Calls Try.prog 16 #[.agg (natA y)] w fun e w' => e = .returned (.bool false) ∧ Below w.heap.size w w' := by
  have := isZero_any y w
  rwa [show natEq y 0 = false by rw [natEq_iff hy (Nat.pow_pos P64_pos)]; simp; omega] at this
theorem isZ_true (y : Nat) (h : y = 0) (w : World) : Calls Try.prog 16 #[.agg (natA y)] w fun e w' => e = .returned (.bool true) ∧ Below w.heap.size w w' := by
  subst h
  exact isZero0 w
theorem cmp_less (t y : Nat) (hy : y < P64 ^ 16) (h : t < y) (w : World) : Calls Try.prog 30 #[.agg (natA t), .agg (natA y)] w fun e w' => e = .returned (.int .i64 (-1)) ∧ Below w.heap.size w w' := by
  have := compare_any t y (Nat.lt_trans h hy) hy w
  rwa [show cmpN t y = -1 by unfold cmpN; simp [h]] at this
theorem fb_is {zs : List Nat} (h : valBE 256 zs < P64 ^ 16) : fbV zs = valBE 256 zs := (info_fb_fits h).1
theorem neq_self {v : Nat} (h : v < P64 ^ 16) : natEq v v = true := by rw [natEq_iff h h]; simp

theorem three_st0 (W : World) (x y z : Nat) : rowN ((((((W.alloc (.cells (natA 0) 28)).alloc (.cells (natA 0) 28)).alloc (.cells (natA 0) 28)).setRow W.heap.size (natA x)).setRow (W.heap.size + 1) (natA y)).setRow (W.heap.size + 1 + 1) (natA z)) W.heap.size = some (natA x) ∧
    rowN ((((((W.alloc (.cells (natA 0) 28)).alloc (.cells (natA 0) 28)).alloc (.cells (natA 0) 28)).setRow W.heap.size (natA x)).setRow (W.heap.size + 1) (natA y)).setRow (W.heap.size + 1 + 1) (natA z)) (W.heap.size + 1) = some (natA y) ∧
    rowN ((((((W.alloc (.cells (natA 0) 28)).alloc (.cells (natA 0) 28)).alloc (.cells (natA 0) 28)).setRow W.heap.size (natA x)).setRow (W.heap.size + 1) (natA y)).setRow (W.heap.size + 1 + 1) (natA z)) (W.heap.size + 1 + 1) = some (natA z) ∧
    Below W.heap.size W ((((((W.alloc (.cells (natA 0) 28)).alloc (.cells (natA 0) 28)).alloc (.cells (natA 0) 28)).setRow W.heap.size (natA x)).setRow (W.heap.size + 1) (natA y)).setRow (W.heap.size + 1 + 1) (natA z)) := by
  refine ⟨?_, ?_, ?_, below_setRow' (below_setRow' (below_setRow' ((((Below.refl _ _).alloc (Nat.le_refl _) _).alloc (by simp) _).alloc (by simp <;> omega) _) (Nat.le_refl _) _) (by omega) _) (by omega) _⟩
  · simp only [rowN_setRow, rowN_alloc, World.size_alloc, if_true]; (repeat rw [if_neg (by omega)]); rfl
  · simp only [rowN_setRow, rowN_alloc, World.size_alloc, if_true]; (repeat rw [if_neg (by omega)]); rfl
  · simp only [rowN_setRow, rowN_alloc, World.size_alloc, if_true]; (repeat rw [if_neg (by omega)]); rfl

set_option maxRecDepth 100000 in
set_option maxHeartbeats 4000000 in
theorem mh_reg20 {w W : World} {Q : Exit → Act → World → Prop} {s0 s1 s2 s3 s5 s6 s7 s8 s9 s10 s11 s12 s15 s16 s17 s18 s19 s20 s21 s22 s23 s24 s25 s26 s27 s28 s29 s30 s31 s32 s33 s34 s35 s36 s38 s39 s40 s41 s42 s43 s44 s45 s46 s47 s48 s49 s50 s51 s52 s53 s54 s55 s56 s57 s58 s59 s60 s61 s62 s63 s64 s65 s66 s67 s68 s69 s70 s71 s72 s73 s74 s75 s76 s77 s78 s79 s80 s81 s82 s83 s84 s85 s86 s87 s88 s89 s90 s91 s92 s93 s94 s95 s96 s97 s98 s99 s100 s101 s102 s103 s104 s105 s106 s107 s108 s109 s110 s111 s112 s113 s114 s115 s116 s117 s118 s119 s120 s121 s122 s123 s124 s125 s126 s127 s128 s129 s130 s131 s132 s133 s134 s135 s136 s137 s138 s139 s140 s141 s142 s143 s144 s145 s146 s147 s148 s149 s150 s151 s152 s153 s154 s155 s156 s157 s158 s159 s160 s161 s162 s163 s164 s165 s166 s167 s168 s169 s170 s171 s172 s173 s174 s175 s176 s177 s178 s179 s180 s181 s182 s183 s184 s185 s186 s187 s188 s189 s190 s191 s192 s193 s194 s195 s196 s197 s198 s199 s200 s201 s202 s203 s204 s205 s206 s207 s208 s209 s210 s211 s212 s213 s214 s215 s216 s217 s218 s219 s220 s221 s222 s223 s224 s225 s226 s227 s228 s229 s230 s231 s232 s233 s234 s235 s236 s237 s238 s239 s240 s241 s242 s243 s244 s245 s246 s247 s248 s249 s250 s251 s252 s253 s254 s255 s256 s257 s258 s259 s260 s261 s262 s263 s264 s265 s266 s267 s268 s269 s270 s271 s272 s273 s274 s275 s276 s277 s278 s279 s280 s281 s282 s283 s284 s285 : Value} {x m E U p : Nat} {gx gz gres : Nat}
    (N1 : Go.RowKit.Hid (∀ W : World, Calls Try.prog 31 #[.int .i64 (p : Nat)] W fun e w' => e = .returned (.agg (natA p)) ∧ Below W.heap.size W w'))
    (X1 : Go.RowKit.Hid (∀ W : World, Calls Try.prog 23 #[.agg (natA x), .agg (natA p), .agg (natA m)] W fun e w' => e = .returned (.tuple #[.agg (natA U), .int .i64 0]) ∧ Below W.heap.size W w'))
    (R_x : Go.RowKit.Hid (rowN W gx = some (natA x)))
    (R_z : Go.RowKit.Hid (rowN W gz = some (natA m)))
    (R_res : Go.RowKit.Hid (rowN W gres = some (natA E)))
    (HB : Go.RowKit.Hid (Below w.heap.size w W))
    (hQ : ∀ (g : Nat) (u231 u232 u233 u234 u235 u236 u237 u238 : Value) (wx : World), rowN wx g = some (natA U) → rowN wx gx = some (natA x) → rowN wx gz = some (natA m) → rowN wx gres = some (natA E) → Below w.heap.size w wx → Q .normal ⟨#[s0, s1, s2, s3, .int .i64 ((p : Nat) : Int), s5, s6, s7, s8, s9, s10, s11, s12, .pointer (some ⟨gz, 0, none⟩), .pointer (some ⟨gx, 0, none⟩), s15, s16, s17, s18, s19, s20, s21, s22, s23, s24, s25, s26, s27, s28, s29, s30, s31, s32, s33, s34, s35, s36, .pointer (some ⟨gres, 0, none⟩), s38, .pointer (some ⟨g, 0, none⟩), .int .i64 0, s41, s42, s43, s44, s45, s46, s47, s48, s49, s50, s51, s52, s53, s54, s55, s56, s57, s58, s59, s60, s61, s62, s63, s64, s65, s66, s67, s68, s69, s70, s71, s72, s73, s74, s75, s76, s77, s78, s79, s80, s81, s82, s83, s84, s85, s86, s87, s88, s89, s90, s91, s92, s93, s94, s95, s96, s97, s98, s99, s100, s101, s102, s103, s104, s105, s106, s107, s108, s109, s110, s111, s112, s113, s114, s115, s116, s117, s118, s119, s120, s121, s122, s123, s124, s125, s126, s127, s128, s129, s130, s131, s132, s133, s134, s135, s136, s137, s138, s139, s140, s141, s142, s143, s144, s145, s146, s147, s148, s149, s150, s151, s152, s153, s154, s155, s156, s157, s158, s159, s160, s161, s162, s163, s164, s165, s166, s167, s168, s169, s170, s171, s172, s173, s174, s175, s176, s177, s178, s179, s180, s181, s182, s183, s184, s185, s186, s187, s188, s189, s190, s191, s192, s193, s194, s195, s196, s197, s198, s199, s200, s201, s202, s203, s204, s205, s206, s207, s208, s209, s210, s211, s212, s213, s214, s215, s216, s217, s218, s219, s220, s221, s222, s223, s224, s225, s226, s227, s228, s229, s230, u231, u232, u233, u234, u235, u236, u237, u238, s239, s240, s241, s242, s243, s244, s245, s246, s247, s248, s249, s250, s251, s252, s253, s254, s255, s256, s257, s258, s259, s260, s261, s262, s263, s264, s265, s266, s267, s268, s269, s270, s271, s272, s273, s274, s275, s276, s277, s278, s279, s280, s281, s282, s283, s284, s285], []⟩ wx) :
    Code.wp Try.prog (Code.region 20 #[{ dst := some 232, op := Op.load 28 (Operand.tmp 14), type := 28, pos := "law.go:193", after := #[], guard := none }, { dst := some 233, op := Op.move (Operand.tmp 4), type := 3, pos := "law.go:193", after := #[], guard := none }, { dst := some 234, op := Op.call { callee := Callee.value (Operand.func 31), args := #[Operand.tmp 233], argTypes := #[3] }, type := 28, pos := "law.go:193", after := #[{ on := 1, ground := Ground.data }], guard := none }, { dst := some 235, op := Op.load 28 (Operand.tmp 13), type := 28, pos := "law.go:193", after := #[], guard := none }, { dst := some 236, op := Op.call { callee := Callee.value (Operand.func 23), args := #[Operand.tmp 232, Operand.tmp 234, Operand.tmp 235], argTypes := #[28, 28, 28] }, type := 31, pos := "law.go:193", after := #[{ on := 0, ground := Ground.data }, { on := 2, ground := Ground.data }, { on := 3, ground := Ground.data }, { on := 2, ground := Ground.chain }], guard := none }, { dst := some 231, op := Op.move (Operand.tmp 236), type := 31, pos := "law.go:193", after := #[{ on := 4, ground := Ground.data }], guard := none }, { dst := some 237, op := Op.extract (Operand.tmp 231) 0, type := 28, pos := "law.go:193", after := #[{ on := 5, ground := Ground.data }], guard := none }, { dst := some 238, op := Op.extract (Operand.tmp 231) 1, type := 30, pos := "law.go:193", after := #[{ on := 5, ground := Ground.data }, { on := 9, ground := Ground.gcOnly Departure.lateStores }], guard := none }, { dst := some 39, op := Op.alloc 28, type := 0, pos := "law.go:193", after := #[], guard := none }, { dst := none, op := Op.store 28 (Operand.tmp 39) (Operand.tmp 237), type := 0, pos := "law.go:193", after := #[{ on := 8, ground := Ground.data }, { on := 6, ground := Ground.data }, { on := 4, ground := Ground.chain }, { on := 0, ground := Ground.phase }, { on := 1, ground := Ground.phase }, { on := 2, ground := Ground.phase }, { on := 3, ground := Ground.phase }, { on := 4, ground := Ground.phase }, { on := 5, ground := Ground.phase }, { on := 6, ground := Ground.phase }, { on := 7, ground := Ground.textOnly Departure.lateStores }, { on := 8, ground := Ground.phase }], guard := none }, { dst := some 40, op := Op.assign (Operand.tmp 238), type := 30, pos := "law.go:193", after := #[{ on := 7, ground := Ground.data }, { on := 9, ground := Ground.chain }, { on := 0, ground := Ground.phase }, { on := 1, ground := Ground.phase }, { on := 2, ground := Ground.phase }, { on := 3, ground := Ground.phase }, { on := 4, ground := Ground.phase }, { on := 5, ground := Ground.phase }, { on := 6, ground := Ground.phase }, { on := 7, ground := Ground.phase }, { on := 8, ground := Ground.phase }, { on := 9, ground := Ground.phase }], guard := none }] true) Q ⟨#[s0, s1, s2, s3, .int .i64 ((p : Nat) : Int), s5, s6, s7, s8, s9, s10, s11, s12, .pointer (some ⟨gz, 0, none⟩), .pointer (some ⟨gx, 0, none⟩), s15, s16, s17, s18, s19, s20, s21, s22, s23, s24, s25, s26, s27, s28, s29, s30, s31, s32, s33, s34, s35, s36, .pointer (some ⟨gres, 0, none⟩), s38, s39, s40, s41, s42, s43, s44, s45, s46, s47, s48, s49, s50, s51, s52, s53, s54, s55, s56, s57, s58, s59, s60, s61, s62, s63, s64, s65, s66, s67, s68, s69, s70, s71, s72, s73, s74, s75, s76, s77, s78, s79, s80, s81, s82, s83, s84, s85, s86, s87, s88, s89, s90, s91, s92, s93, s94, s95, s96, s97, s98, s99, s100, s101, s102, s103, s104, s105, s106, s107, s108, s109, s110, s111, s112, s113, s114, s115, s116, s117, s118, s119, s120, s121, s122, s123, s124, s125, s126, s127, s128, s129, s130, s131, s132, s133, s134, s135, s136, s137, s138, s139, s140, s141, s142, s143, s144, s145, s146, s147, s148, s149, s150, s151, s152, s153, s154, s155, s156, s157, s158, s159, s160, s161, s162, s163, s164, s165, s166, s167, s168, s169, s170, s171, s172, s173, s174, s175, s176, s177, s178, s179, s180, s181, s182, s183, s184, s185, s186, s187, s188, s189, s190, s191, s192, s193, s194, s195, s196, s197, s198, s199, s200, s201, s202, s203, s204, s205, s206, s207, s208, s209, s210, s211, s212, s213, s214, s215, s216, s217, s218, s219, s220, s221, s222, s223, s224, s225, s226, s227, s228, s229, s230, s231, s232, s233, s234, s235, s236, s237, s238, s239, s240, s241, s242, s243, s244, s245, s246, s247, s248, s249, s250, s251, s252, s253, s254, s255, s256, s257, s258, s259, s260, s261, s262, s263, s264, s265, s266, s267, s268, s269, s270, s271, s272, s273, s274, s275, s276, s277, s278, s279, s280, s281, s282, s283, s284, s285], []⟩ W := by
  have HQ := Lib.hid hQ
  clear hQ
  have Hx_0 := Lib.hid (show rowN W.drew gx = some (natA x) from R_x.out)
  have Hz_0 := Lib.hid (show rowN W.drew gz = some (natA m) from R_z.out)
  have Hres_0 := Lib.hid (show rowN W.drew gres = some (natA E) from R_res.out)
  have HL_0 := Lib.hid (show Below w.heap.size w W.drew from HB.out.drew)
  clear HB R_x R_z R_res
  refine wp_region_noPanic ?_
  refine wp_region_held_drew (S := fun W => rowN W gx = some (natA x) ∧ rowN W gz = some (natA m)) (by kernel_rfl) ⟨Hx_0.out, Hz_0.out⟩ (fun hHeld0 => ?_)
  obtain ⟨x0, hx0⟩ : ∃ X, W.drew = X := ⟨_, rfl⟩
  rw [hx0] at Hx_0 Hz_0 Hres_0 HL_0 hHeld0 ⊢
  clear hx0
  refine wpAnyH_take (i := 0) (oi := { dst := some 232, op := Op.load 28 (Operand.tmp 14), type := 28, pos := "law.go:193", after := #[], guard := none }) (v := .agg (natA x)) rfl (by kernel_rfl) (by kernel_rfl) (by kernel_rfl) (fun _ _ _ h => h) (Or.inl ⟨by rfl, fun W hW => ?_⟩) hHeld0 ?_
  · (have hW1 := hW.1; clear hW; go_simp)
  try simp only [Act.put, List.setIfInBounds_toArray, List.set_cons_zero, List.set_cons_succ]
  refine wpAnyH_take (i := 1) (oi := { dst := some 233, op := Op.move (Operand.tmp 4), type := 3, pos := "law.go:193", after := #[], guard := none }) (v := ?tk0) rfl (by kernel_rfl) (by kernel_rfl) (by kernel_rfl) (fun _ _ _ h => h) (Or.inl ⟨by rfl, ?tw0⟩) hHeld0 ?_
  case tw0 => (intro W hW; clear hW; first | (go_simp; done) | (go_simp; with_reducible rfl))
  try simp only [Act.put, List.setIfInBounds_toArray, List.set_cons_zero, List.set_cons_succ]
  refine wpAnyH_take (i := 3) (oi := { dst := some 235, op := Op.load 28 (Operand.tmp 13), type := 28, pos := "law.go:193", after := #[], guard := none }) (v := .agg (natA m)) rfl (by kernel_rfl) (by kernel_rfl) (by kernel_rfl) (fun _ _ _ h => h) (Or.inl ⟨by rfl, fun W hW => ?_⟩) hHeld0 ?_
  · (have hW1 := hW.2; clear hW; go_simp)
  try simp only [Act.put, List.setIfInBounds_toArray, List.set_cons_zero, List.set_cons_succ]
  refine wpAnyH_ready (rs := [2, 8]) (by kernel_rfl) (by simp) ?_
  refine AllReadyH.cons (o := { dst := some 234, op := Op.call { callee := Callee.value (Operand.func 31), args := #[Operand.tmp 233], argTypes := #[3] }, type := 28, pos := "law.go:193", after := #[{ on := 1, ground := Ground.data }], guard := none }) rfl (fun K' hK => ?_) ?_
  · go_simp
    refine (N1.out _).mono ?_
    rintro e x1 ⟨rfl, hb⟩
    have Hx_1 := Lib.hid (keptW hb Hx_0.out)
    have Hz_1 := Lib.hid (keptW hb Hz_0.out)
    have Hres_1 := Lib.hid (keptW hb Hres_0.out)
    have HL_1 := Lib.hid (HL_0.out.trans (hb.mono HL_0.out.size))
    clear hb
    refine hK.out _ _ ⟨Hx_1.out, Hz_1.out⟩ (fun hHeld1 => ?_)
    clear hK K'
    try simp only [Act.put, List.setIfInBounds_toArray, List.set_cons_zero, List.set_cons_succ]
    refine wpAnyH_ready (rs := [4, 8]) (by kernel_rfl) (by simp) ?_
    refine AllReadyH.cons (o := { dst := some 236, op := Op.call { callee := Callee.value (Operand.func 23), args := #[Operand.tmp 232, Operand.tmp 234, Operand.tmp 235], argTypes := #[28, 28, 28] }, type := 31, pos := "law.go:193", after := #[{ on := 0, ground := Ground.data }, { on := 2, ground := Ground.data }, { on := 3, ground := Ground.data }, { on := 2, ground := Ground.chain }], guard := none }) rfl (fun K' hK => ?_) ?_
    · go_simp
      refine (X1.out _).mono ?_
      rintro e x2 ⟨rfl, hb⟩
      have Hx_2 := Lib.hid (keptW hb Hx_1.out)
      have Hz_2 := Lib.hid (keptW hb Hz_1.out)
      have Hres_2 := Lib.hid (keptW hb Hres_1.out)
      have HL_2 := Lib.hid (HL_1.out.trans (hb.mono HL_1.out.size))
      clear hb
      refine hK.out _ _ ⟨Hx_2.out, Hz_2.out⟩ (fun hHeld2 => ?_)
      clear hK K'
      try simp only [Act.put, List.setIfInBounds_toArray, List.set_cons_zero, List.set_cons_succ]
      refine wpAnyH_take (i := 5) (oi := { dst := some 231, op := Op.move (Operand.tmp 236), type := 31, pos := "law.go:193", after := #[{ on := 4, ground := Ground.data }], guard := none }) (v := ?tk1) rfl (by kernel_rfl) (by kernel_rfl) (by kernel_rfl) (fun _ _ _ h => h) (Or.inl ⟨by rfl, ?tw1⟩) hHeld2 ?_
      case tw1 => (intro W hW; clear hW; first | (go_simp; done) | (go_simp; with_reducible rfl))
      try simp only [Act.put, List.setIfInBounds_toArray, List.set_cons_zero, List.set_cons_succ]
      refine wpAnyH_take (i := 6) (oi := { dst := some 237, op := Op.extract (Operand.tmp 231) 0, type := 28, pos := "law.go:193", after := #[{ on := 5, ground := Ground.data }], guard := none }) (v := ?tk2) rfl (by kernel_rfl) (by kernel_rfl) (by kernel_rfl) (fun _ _ _ h => h) (Or.inl ⟨by rfl, ?tw2⟩) hHeld2 ?_
      case tw2 => (intro W hW; clear hW; first | (go_simp; done) | (go_simp; with_reducible rfl))
      try simp only [Act.put, List.setIfInBounds_toArray, List.set_cons_zero, List.set_cons_succ]
      refine wpAnyH_take (i := 7) (oi := { dst := some 238, op := Op.extract (Operand.tmp 231) 1, type := 30, pos := "law.go:193", after := #[{ on := 5, ground := Ground.data }, { on := 9, ground := Ground.gcOnly Departure.lateStores }], guard := none }) (v := ?tk3) rfl (by kernel_rfl) (by kernel_rfl) (by kernel_rfl) (fun _ _ _ h => h) (Or.inl ⟨by rfl, ?tw3⟩) hHeld2 ?_
      case tw3 => (intro W hW; clear hW; first | (go_simp; done) | (go_simp; with_reducible rfl))
      try simp only [Act.put, List.setIfInBounds_toArray, List.set_cons_zero, List.set_cons_succ]
      refine wpAnyH_ready (rs := [8]) (by kernel_rfl) (by simp) ?_
      refine AllReadyH.cons (o := { dst := some 39, op := Op.alloc 28, type := 0, pos := "law.go:193", after := #[], guard := none }) rfl (fun K' hK => ?_) AllReadyH.nil
      go_simp
      obtain ⟨x3, hx3⟩ : ∃ X, x2.alloc (.cells (natA 0) 28) = X := ⟨_, rfl⟩
      have hb : Below x2.heap.size x2 x3 := by rw [← hx3]; exact (Below.refl _ _).alloc (Nat.le_refl _) _
      have Hx_3 := Lib.hid (keptW hb Hx_2.out)
      have Hz_3 := Lib.hid (keptW hb Hz_2.out)
      have Hres_3 := Lib.hid (keptW hb Hres_2.out)
      have HL_3 := Lib.hid (HL_2.out.trans (hb.mono HL_2.out.size))
      have hnew : rowN x3 x2.heap.size = some (natA 0) := by rw [← hx3, rowN_alloc, if_pos rfl]
      have hge : w.heap.size ≤ x2.heap.size := HL_2.out.size
      have hlx := rowN_lt Hx_2.out
      have hlz := rowN_lt Hz_2.out
      have hlres := rowN_lt Hres_2.out
      rw [hx3]
      obtain ⟨gnew, hgnew⟩ : ∃ g, x2.heap.size = g := ⟨_, rfl⟩
      rw [hgnew] at hnew hge hlx hlz hlres ⊢
      have Hnew_3 := Lib.hid hnew
      clear hb hnew hgnew hx3
      refine hK.out _ _ ⟨Hx_3.out, Hz_3.out⟩ (fun hHeld3 => ?_)
      clear hK K'
      try simp only [Act.put, List.setIfInBounds_toArray, List.set_cons_zero, List.set_cons_succ]
      refine wpAnyH_ready (rs := [9]) (by kernel_rfl) (by simp) ?_
      refine AllReadyH.cons (o := { dst := none, op := Op.store 28 (Operand.tmp 39) (Operand.tmp 237), type := 0, pos := "law.go:193", after := #[{ on := 8, ground := Ground.data }, { on := 6, ground := Ground.data }, { on := 4, ground := Ground.chain }, { on := 0, ground := Ground.phase }, { on := 1, ground := Ground.phase }, { on := 2, ground := Ground.phase }, { on := 3, ground := Ground.phase }, { on := 4, ground := Ground.phase }, { on := 5, ground := Ground.phase }, { on := 6, ground := Ground.phase }, { on := 7, ground := Ground.textOnly Departure.lateStores }, { on := 8, ground := Ground.phase }], guard := none }) rfl (fun K' hK => ?_) AllReadyH.nil
      have hrow := Hnew_3.out
      go_simp
      obtain ⟨x4, hx4⟩ : ∃ X, x3.setRow gnew (natA U) = X := ⟨_, rfl⟩
      rw [hx4]
      have Hx_4 := Lib.hid (show rowN x4 gx = some (natA x) by rw [← hx4, rowN_setRow, if_neg (by omega)]; exact Hx_3.out)
      have Hz_4 := Lib.hid (show rowN x4 gz = some (natA m) by rw [← hx4, rowN_setRow, if_neg (by omega)]; exact Hz_3.out)
      have Hres_4 := Lib.hid (show rowN x4 gres = some (natA E) by rw [← hx4, rowN_setRow, if_neg (by omega)]; exact Hres_3.out)
      have Hnew_4 := Lib.hid (show rowN x4 gnew = some (natA U) by rw [← hx4, rowN_setRow, if_pos rfl, hrow]; rfl)
      have hbl : Below w.heap.size w x4 := by rw [← hx4]; exact below_setRow' HL_3.out hge _
      have HL_4 := Lib.hid hbl
      clear hrow hbl hx4
      refine hK.out _ _ ⟨Hx_4.out, Hz_4.out⟩ (fun hHeld4 => ?_)
      clear hK K'
      try simp only [Act.put, List.setIfInBounds_toArray, List.set_cons_zero, List.set_cons_succ]
      refine wpAnyH_take (i := 10) (oi := { dst := some 40, op := Op.assign (Operand.tmp 238), type := 30, pos := "law.go:193", after := #[{ on := 7, ground := Ground.data }, { on := 9, ground := Ground.chain }, { on := 0, ground := Ground.phase }, { on := 1, ground := Ground.phase }, { on := 2, ground := Ground.phase }, { on := 3, ground := Ground.phase }, { on := 4, ground := Ground.phase }, { on := 5, ground := Ground.phase }, { on := 6, ground := Ground.phase }, { on := 7, ground := Ground.phase }, { on := 8, ground := Ground.phase }, { on := 9, ground := Ground.phase }], guard := none }) (v := ?tk4) rfl (by kernel_rfl) (by kernel_rfl) (by kernel_rfl) (fun _ _ _ h => h) (Or.inl ⟨by rfl, ?tw4⟩) hHeld4 ?_
      case tw4 => (intro W hW; clear hW; first | (go_simp; done) | (go_simp; with_reducible rfl))
      try simp only [Act.put, List.setIfInBounds_toArray, List.set_cons_zero, List.set_cons_succ]
      refine wpAnyH_done (by kernel_rfl) ?_ _
      refine NoPanic.normal ?_
      exact HQ.out gnew _ _ _ _ _ _ _ _ _ Hnew_4.out Hx_4.out Hz_4.out Hres_4.out HL_4.out
    refine AllReadyH.cons (o := { dst := some 39, op := Op.alloc 28, type := 0, pos := "law.go:193", after := #[], guard := none }) rfl (fun K' hK => ?_) AllReadyH.nil
    go_simp
    obtain ⟨x2, hx2⟩ : ∃ X, x1.alloc (.cells (natA 0) 28) = X := ⟨_, rfl⟩
    have hb : Below x1.heap.size x1 x2 := by rw [← hx2]; exact (Below.refl _ _).alloc (Nat.le_refl _) _
    have Hx_2 := Lib.hid (keptW hb Hx_1.out)
    have Hz_2 := Lib.hid (keptW hb Hz_1.out)
    have Hres_2 := Lib.hid (keptW hb Hres_1.out)
    have HL_2 := Lib.hid (HL_1.out.trans (hb.mono HL_1.out.size))
    have hnew : rowN x2 x1.heap.size = some (natA 0) := by rw [← hx2, rowN_alloc, if_pos rfl]
    have hge : w.heap.size ≤ x1.heap.size := HL_1.out.size
    have hlx := rowN_lt Hx_1.out
    have hlz := rowN_lt Hz_1.out
    have hlres := rowN_lt Hres_1.out
    rw [hx2]
    obtain ⟨gnew, hgnew⟩ : ∃ g, x1.heap.size = g := ⟨_, rfl⟩
    rw [hgnew] at hnew hge hlx hlz hlres ⊢
    have Hnew_2 := Lib.hid hnew
    clear hb hnew hgnew hx2
    refine hK.out _ _ ⟨Hx_2.out, Hz_2.out⟩ (fun hHeld2 => ?_)
    clear hK K'
    try simp only [Act.put, List.setIfInBounds_toArray, List.set_cons_zero, List.set_cons_succ]
    refine wpAnyH_ready (rs := [4]) (by kernel_rfl) (by simp) ?_
    refine AllReadyH.cons (o := { dst := some 236, op := Op.call { callee := Callee.value (Operand.func 23), args := #[Operand.tmp 232, Operand.tmp 234, Operand.tmp 235], argTypes := #[28, 28, 28] }, type := 31, pos := "law.go:193", after := #[{ on := 0, ground := Ground.data }, { on := 2, ground := Ground.data }, { on := 3, ground := Ground.data }, { on := 2, ground := Ground.chain }], guard := none }) rfl (fun K' hK => ?_) AllReadyH.nil
    go_simp
    refine (X1.out _).mono ?_
    rintro e x3 ⟨rfl, hb⟩
    have Hx_3 := Lib.hid (keptW hb Hx_2.out)
    have Hz_3 := Lib.hid (keptW hb Hz_2.out)
    have Hres_3 := Lib.hid (keptW hb Hres_2.out)
    have Hnew_3 := Lib.hid (keptW hb Hnew_2.out)
    have HL_3 := Lib.hid (HL_2.out.trans (hb.mono HL_2.out.size))
    clear hb
    refine hK.out _ _ ⟨Hx_3.out, Hz_3.out⟩ (fun hHeld3 => ?_)
    clear hK K'
    try simp only [Act.put, List.setIfInBounds_toArray, List.set_cons_zero, List.set_cons_succ]
    refine wpAnyH_take (i := 5) (oi := { dst := some 231, op := Op.move (Operand.tmp 236), type := 31, pos := "law.go:193", after := #[{ on := 4, ground := Ground.data }], guard := none }) (v := ?tk5) rfl (by kernel_rfl) (by kernel_rfl) (by kernel_rfl) (fun _ _ _ h => h) (Or.inl ⟨by rfl, ?tw5⟩) hHeld3 ?_
    case tw5 => (intro W hW; clear hW; first | (go_simp; done) | (go_simp; with_reducible rfl))
    try simp only [Act.put, List.setIfInBounds_toArray, List.set_cons_zero, List.set_cons_succ]
    refine wpAnyH_take (i := 6) (oi := { dst := some 237, op := Op.extract (Operand.tmp 231) 0, type := 28, pos := "law.go:193", after := #[{ on := 5, ground := Ground.data }], guard := none }) (v := ?tk6) rfl (by kernel_rfl) (by kernel_rfl) (by kernel_rfl) (fun _ _ _ h => h) (Or.inl ⟨by rfl, ?tw6⟩) hHeld3 ?_
    case tw6 => (intro W hW; clear hW; first | (go_simp; done) | (go_simp; with_reducible rfl))
    try simp only [Act.put, List.setIfInBounds_toArray, List.set_cons_zero, List.set_cons_succ]
    refine wpAnyH_take (i := 7) (oi := { dst := some 238, op := Op.extract (Operand.tmp 231) 1, type := 30, pos := "law.go:193", after := #[{ on := 5, ground := Ground.data }, { on := 9, ground := Ground.gcOnly Departure.lateStores }], guard := none }) (v := ?tk7) rfl (by kernel_rfl) (by kernel_rfl) (by kernel_rfl) (fun _ _ _ h => h) (Or.inl ⟨by rfl, ?tw7⟩) hHeld3 ?_
    case tw7 => (intro W hW; clear hW; first | (go_simp; done) | (go_simp; with_reducible rfl))
    try simp only [Act.put, List.setIfInBounds_toArray, List.set_cons_zero, List.set_cons_succ]
    refine wpAnyH_ready (rs := [9]) (by kernel_rfl) (by simp) ?_
    refine AllReadyH.cons (o := { dst := none, op := Op.store 28 (Operand.tmp 39) (Operand.tmp 237), type := 0, pos := "law.go:193", after := #[{ on := 8, ground := Ground.data }, { on := 6, ground := Ground.data }, { on := 4, ground := Ground.chain }, { on := 0, ground := Ground.phase }, { on := 1, ground := Ground.phase }, { on := 2, ground := Ground.phase }, { on := 3, ground := Ground.phase }, { on := 4, ground := Ground.phase }, { on := 5, ground := Ground.phase }, { on := 6, ground := Ground.phase }, { on := 7, ground := Ground.textOnly Departure.lateStores }, { on := 8, ground := Ground.phase }], guard := none }) rfl (fun K' hK => ?_) AllReadyH.nil
    have hrow := Hnew_3.out
    go_simp
    obtain ⟨x4, hx4⟩ : ∃ X, x3.setRow gnew (natA U) = X := ⟨_, rfl⟩
    rw [hx4]
    have Hx_4 := Lib.hid (show rowN x4 gx = some (natA x) by rw [← hx4, rowN_setRow, if_neg (by omega)]; exact Hx_3.out)
    have Hz_4 := Lib.hid (show rowN x4 gz = some (natA m) by rw [← hx4, rowN_setRow, if_neg (by omega)]; exact Hz_3.out)
    have Hres_4 := Lib.hid (show rowN x4 gres = some (natA E) by rw [← hx4, rowN_setRow, if_neg (by omega)]; exact Hres_3.out)
    have Hnew_4 := Lib.hid (show rowN x4 gnew = some (natA U) by rw [← hx4, rowN_setRow, if_pos rfl, hrow]; rfl)
    have hbl : Below w.heap.size w x4 := by rw [← hx4]; exact below_setRow' HL_3.out hge _
    have HL_4 := Lib.hid hbl
    clear hrow hbl hx4
    refine hK.out _ _ ⟨Hx_4.out, Hz_4.out⟩ (fun hHeld4 => ?_)
    clear hK K'
    try simp only [Act.put, List.setIfInBounds_toArray, List.set_cons_zero, List.set_cons_succ]
    refine wpAnyH_take (i := 10) (oi := { dst := some 40, op := Op.assign (Operand.tmp 238), type := 30, pos := "law.go:193", after := #[{ on := 7, ground := Ground.data }, { on := 9, ground := Ground.chain }, { on := 0, ground := Ground.phase }, { on := 1, ground := Ground.phase }, { on := 2, ground := Ground.phase }, { on := 3, ground := Ground.phase }, { on := 4, ground := Ground.phase }, { on := 5, ground := Ground.phase }, { on := 6, ground := Ground.phase }, { on := 7, ground := Ground.phase }, { on := 8, ground := Ground.phase }, { on := 9, ground := Ground.phase }], guard := none }) (v := ?tk8) rfl (by kernel_rfl) (by kernel_rfl) (by kernel_rfl) (fun _ _ _ h => h) (Or.inl ⟨by rfl, ?tw8⟩) hHeld4 ?_
    case tw8 => (intro W hW; clear hW; first | (go_simp; done) | (go_simp; with_reducible rfl))
    try simp only [Act.put, List.setIfInBounds_toArray, List.set_cons_zero, List.set_cons_succ]
    refine wpAnyH_done (by kernel_rfl) ?_ _
    refine NoPanic.normal ?_
    exact HQ.out gnew _ _ _ _ _ _ _ _ _ Hnew_4.out Hx_4.out Hz_4.out Hres_4.out HL_4.out
  refine AllReadyH.cons (o := { dst := some 39, op := Op.alloc 28, type := 0, pos := "law.go:193", after := #[], guard := none }) rfl (fun K' hK => ?_) AllReadyH.nil
  go_simp
  obtain ⟨x1, hx1⟩ : ∃ X, x0.alloc (.cells (natA 0) 28) = X := ⟨_, rfl⟩
  have hb : Below x0.heap.size x0 x1 := by rw [← hx1]; exact (Below.refl _ _).alloc (Nat.le_refl _) _
  have Hx_1 := Lib.hid (keptW hb Hx_0.out)
  have Hz_1 := Lib.hid (keptW hb Hz_0.out)
  have Hres_1 := Lib.hid (keptW hb Hres_0.out)
  have HL_1 := Lib.hid (HL_0.out.trans (hb.mono HL_0.out.size))
  have hnew : rowN x1 x0.heap.size = some (natA 0) := by rw [← hx1, rowN_alloc, if_pos rfl]
  have hge : w.heap.size ≤ x0.heap.size := HL_0.out.size
  have hlx := rowN_lt Hx_0.out
  have hlz := rowN_lt Hz_0.out
  have hlres := rowN_lt Hres_0.out
  rw [hx1]
  obtain ⟨gnew, hgnew⟩ : ∃ g, x0.heap.size = g := ⟨_, rfl⟩
  rw [hgnew] at hnew hge hlx hlz hlres ⊢
  have Hnew_1 := Lib.hid hnew
  clear hb hnew hgnew hx1
  refine hK.out _ _ ⟨Hx_1.out, Hz_1.out⟩ (fun hHeld1 => ?_)
  clear hK K'
  try simp only [Act.put, List.setIfInBounds_toArray, List.set_cons_zero, List.set_cons_succ]
  refine wpAnyH_ready (rs := [2]) (by kernel_rfl) (by simp) ?_
  refine AllReadyH.cons (o := { dst := some 234, op := Op.call { callee := Callee.value (Operand.func 31), args := #[Operand.tmp 233], argTypes := #[3] }, type := 28, pos := "law.go:193", after := #[{ on := 1, ground := Ground.data }], guard := none }) rfl (fun K' hK => ?_) AllReadyH.nil
  go_simp
  refine (N1.out _).mono ?_
  rintro e x2 ⟨rfl, hb⟩
  have Hx_2 := Lib.hid (keptW hb Hx_1.out)
  have Hz_2 := Lib.hid (keptW hb Hz_1.out)
  have Hres_2 := Lib.hid (keptW hb Hres_1.out)
  have Hnew_2 := Lib.hid (keptW hb Hnew_1.out)
  have HL_2 := Lib.hid (HL_1.out.trans (hb.mono HL_1.out.size))
  clear hb
  refine hK.out _ _ ⟨Hx_2.out, Hz_2.out⟩ (fun hHeld2 => ?_)
  clear hK K'
  try simp only [Act.put, List.setIfInBounds_toArray, List.set_cons_zero, List.set_cons_succ]
  refine wpAnyH_ready (rs := [4]) (by kernel_rfl) (by simp) ?_
  refine AllReadyH.cons (o := { dst := some 236, op := Op.call { callee := Callee.value (Operand.func 23), args := #[Operand.tmp 232, Operand.tmp 234, Operand.tmp 235], argTypes := #[28, 28, 28] }, type := 31, pos := "law.go:193", after := #[{ on := 0, ground := Ground.data }, { on := 2, ground := Ground.data }, { on := 3, ground := Ground.data }, { on := 2, ground := Ground.chain }], guard := none }) rfl (fun K' hK => ?_) AllReadyH.nil
  go_simp
  refine (X1.out _).mono ?_
  rintro e x3 ⟨rfl, hb⟩
  have Hx_3 := Lib.hid (keptW hb Hx_2.out)
  have Hz_3 := Lib.hid (keptW hb Hz_2.out)
  have Hres_3 := Lib.hid (keptW hb Hres_2.out)
  have Hnew_3 := Lib.hid (keptW hb Hnew_2.out)
  have HL_3 := Lib.hid (HL_2.out.trans (hb.mono HL_2.out.size))
  clear hb
  refine hK.out _ _ ⟨Hx_3.out, Hz_3.out⟩ (fun hHeld3 => ?_)
  clear hK K'
  try simp only [Act.put, List.setIfInBounds_toArray, List.set_cons_zero, List.set_cons_succ]
  refine wpAnyH_take (i := 5) (oi := { dst := some 231, op := Op.move (Operand.tmp 236), type := 31, pos := "law.go:193", after := #[{ on := 4, ground := Ground.data }], guard := none }) (v := ?tk9) rfl (by kernel_rfl) (by kernel_rfl) (by kernel_rfl) (fun _ _ _ h => h) (Or.inl ⟨by rfl, ?tw9⟩) hHeld3 ?_
  case tw9 => (intro W hW; clear hW; first | (go_simp; done) | (go_simp; with_reducible rfl))
  try simp only [Act.put, List.setIfInBounds_toArray, List.set_cons_zero, List.set_cons_succ]
  refine wpAnyH_take (i := 6) (oi := { dst := some 237, op := Op.extract (Operand.tmp 231) 0, type := 28, pos := "law.go:193", after := #[{ on := 5, ground := Ground.data }], guard := none }) (v := ?tk10) rfl (by kernel_rfl) (by kernel_rfl) (by kernel_rfl) (fun _ _ _ h => h) (Or.inl ⟨by rfl, ?tw10⟩) hHeld3 ?_
  case tw10 => (intro W hW; clear hW; first | (go_simp; done) | (go_simp; with_reducible rfl))
  try simp only [Act.put, List.setIfInBounds_toArray, List.set_cons_zero, List.set_cons_succ]
  refine wpAnyH_take (i := 7) (oi := { dst := some 238, op := Op.extract (Operand.tmp 231) 1, type := 30, pos := "law.go:193", after := #[{ on := 5, ground := Ground.data }, { on := 9, ground := Ground.gcOnly Departure.lateStores }], guard := none }) (v := ?tk11) rfl (by kernel_rfl) (by kernel_rfl) (by kernel_rfl) (fun _ _ _ h => h) (Or.inl ⟨by rfl, ?tw11⟩) hHeld3 ?_
  case tw11 => (intro W hW; clear hW; first | (go_simp; done) | (go_simp; with_reducible rfl))
  try simp only [Act.put, List.setIfInBounds_toArray, List.set_cons_zero, List.set_cons_succ]
  refine wpAnyH_ready (rs := [9]) (by kernel_rfl) (by simp) ?_
  refine AllReadyH.cons (o := { dst := none, op := Op.store 28 (Operand.tmp 39) (Operand.tmp 237), type := 0, pos := "law.go:193", after := #[{ on := 8, ground := Ground.data }, { on := 6, ground := Ground.data }, { on := 4, ground := Ground.chain }, { on := 0, ground := Ground.phase }, { on := 1, ground := Ground.phase }, { on := 2, ground := Ground.phase }, { on := 3, ground := Ground.phase }, { on := 4, ground := Ground.phase }, { on := 5, ground := Ground.phase }, { on := 6, ground := Ground.phase }, { on := 7, ground := Ground.textOnly Departure.lateStores }, { on := 8, ground := Ground.phase }], guard := none }) rfl (fun K' hK => ?_) AllReadyH.nil
  have hrow := Hnew_3.out
  go_simp
  obtain ⟨x4, hx4⟩ : ∃ X, x3.setRow gnew (natA U) = X := ⟨_, rfl⟩
  rw [hx4]
  have Hx_4 := Lib.hid (show rowN x4 gx = some (natA x) by rw [← hx4, rowN_setRow, if_neg (by omega)]; exact Hx_3.out)
  have Hz_4 := Lib.hid (show rowN x4 gz = some (natA m) by rw [← hx4, rowN_setRow, if_neg (by omega)]; exact Hz_3.out)
  have Hres_4 := Lib.hid (show rowN x4 gres = some (natA E) by rw [← hx4, rowN_setRow, if_neg (by omega)]; exact Hres_3.out)
  have Hnew_4 := Lib.hid (show rowN x4 gnew = some (natA U) by rw [← hx4, rowN_setRow, if_pos rfl, hrow]; rfl)
  have hbl : Below w.heap.size w x4 := by rw [← hx4]; exact below_setRow' HL_3.out hge _
  have HL_4 := Lib.hid hbl
  clear hrow hbl hx4
  refine hK.out _ _ ⟨Hx_4.out, Hz_4.out⟩ (fun hHeld4 => ?_)
  clear hK K'
  try simp only [Act.put, List.setIfInBounds_toArray, List.set_cons_zero, List.set_cons_succ]
  refine wpAnyH_take (i := 10) (oi := { dst := some 40, op := Op.assign (Operand.tmp 238), type := 30, pos := "law.go:193", after := #[{ on := 7, ground := Ground.data }, { on := 9, ground := Ground.chain }, { on := 0, ground := Ground.phase }, { on := 1, ground := Ground.phase }, { on := 2, ground := Ground.phase }, { on := 3, ground := Ground.phase }, { on := 4, ground := Ground.phase }, { on := 5, ground := Ground.phase }, { on := 6, ground := Ground.phase }, { on := 7, ground := Ground.phase }, { on := 8, ground := Ground.phase }, { on := 9, ground := Ground.phase }], guard := none }) (v := ?tk12) rfl (by kernel_rfl) (by kernel_rfl) (by kernel_rfl) (fun _ _ _ h => h) (Or.inl ⟨by rfl, ?tw12⟩) hHeld4 ?_
  case tw12 => (intro W hW; clear hW; first | (go_simp; done) | (go_simp; with_reducible rfl))
  try simp only [Act.put, List.setIfInBounds_toArray, List.set_cons_zero, List.set_cons_succ]
  refine wpAnyH_done (by kernel_rfl) ?_ _
  refine NoPanic.normal ?_
  exact HQ.out gnew _ _ _ _ _ _ _ _ _ Hnew_4.out Hx_4.out Hz_4.out Hres_4.out HL_4.out

set_option maxRecDepth 100000 in
set_option maxHeartbeats 4000000 in
theorem mh_reg21 {w W : World} {Q : Exit → Act → World → Prop} {s0 s1 s2 s3 s4 s6 s7 s8 s9 s10 s11 s12 s15 s16 s17 s18 s19 s20 s21 s22 s23 s24 s25 s26 s27 s28 s29 s30 s31 s32 s33 s34 s35 s36 s38 s40 s41 s42 s43 s44 s45 s46 s47 s48 s49 s50 s51 s52 s53 s54 s55 s56 s57 s58 s59 s60 s61 s62 s63 s64 s65 s66 s67 s68 s69 s70 s71 s72 s73 s74 s75 s76 s77 s78 s79 s80 s81 s82 s83 s84 s85 s86 s87 s88 s89 s90 s91 s92 s93 s94 s95 s96 s97 s98 s99 s100 s101 s102 s103 s104 s105 s106 s107 s108 s109 s110 s111 s112 s113 s114 s115 s116 s117 s118 s119 s120 s121 s122 s123 s124 s125 s126 s127 s128 s129 s130 s131 s132 s133 s134 s135 s136 s137 s138 s139 s140 s141 s142 s143 s144 s145 s146 s147 s148 s149 s150 s151 s152 s153 s154 s155 s156 s157 s158 s159 s160 s161 s162 s163 s164 s165 s166 s167 s168 s169 s170 s171 s172 s173 s174 s175 s176 s177 s178 s179 s180 s181 s182 s183 s184 s185 s186 s187 s188 s189 s190 s191 s192 s193 s194 s195 s196 s197 s198 s199 s200 s201 s202 s203 s204 s205 s206 s207 s208 s209 s210 s211 s212 s213 s214 s215 s216 s217 s218 s219 s220 s221 s222 s223 s224 s225 s226 s227 s228 s229 s230 s231 s232 s233 s234 s235 s236 s237 s238 s239 s240 s241 s242 s243 s244 s245 s246 s247 s248 s249 s250 s251 s252 s253 s254 s255 s256 s257 s258 s259 s260 s261 s262 s263 s264 s265 s266 s267 s268 s269 s270 s271 s272 s273 s274 s275 s276 s277 s278 s279 s280 s281 s282 s283 s284 s285 : Value} {x m E U V q : Nat} {gx gz gres gu : Nat}
    (N2 : Go.RowKit.Hid (∀ W : World, Calls Try.prog 31 #[.int .i64 (q : Nat)] W fun e w' => e = .returned (.agg (natA q)) ∧ Below W.heap.size W w'))
    (X2 : Go.RowKit.Hid (∀ W : World, Calls Try.prog 23 #[.agg (natA E), .agg (natA q), .agg (natA m)] W fun e w' => e = .returned (.tuple #[.agg (natA V), .int .i64 0]) ∧ Below W.heap.size W w'))
    (R_x : Go.RowKit.Hid (rowN W gx = some (natA x)))
    (R_z : Go.RowKit.Hid (rowN W gz = some (natA m)))
    (R_res : Go.RowKit.Hid (rowN W gres = some (natA E)))
    (R_u : Go.RowKit.Hid (rowN W gu = some (natA U)))
    (HB : Go.RowKit.Hid (Below w.heap.size w W))
    (hQ : ∀ (g : Nat) (u239 u240 u241 u242 u243 u244 u245 u246 : Value) (wx : World), rowN wx g = some (natA V) → rowN wx gx = some (natA x) → rowN wx gz = some (natA m) → rowN wx gres = some (natA E) → rowN wx gu = some (natA U) → Below w.heap.size w wx → Q .normal ⟨#[s0, s1, s2, s3, s4, .int .i64 ((q : Nat) : Int), s6, s7, s8, s9, s10, s11, s12, .pointer (some ⟨gz, 0, none⟩), .pointer (some ⟨gx, 0, none⟩), s15, s16, s17, s18, s19, s20, s21, s22, s23, s24, s25, s26, s27, s28, s29, s30, s31, s32, s33, s34, s35, s36, .pointer (some ⟨gres, 0, none⟩), s38, .pointer (some ⟨gu, 0, none⟩), s40, .pointer (some ⟨g, 0, none⟩), .int .i64 0, s43, s44, s45, s46, s47, s48, s49, s50, s51, s52, s53, s54, s55, s56, s57, s58, s59, s60, s61, s62, s63, s64, s65, s66, s67, s68, s69, s70, s71, s72, s73, s74, s75, s76, s77, s78, s79, s80, s81, s82, s83, s84, s85, s86, s87, s88, s89, s90, s91, s92, s93, s94, s95, s96, s97, s98, s99, s100, s101, s102, s103, s104, s105, s106, s107, s108, s109, s110, s111, s112, s113, s114, s115, s116, s117, s118, s119, s120, s121, s122, s123, s124, s125, s126, s127, s128, s129, s130, s131, s132, s133, s134, s135, s136, s137, s138, s139, s140, s141, s142, s143, s144, s145, s146, s147, s148, s149, s150, s151, s152, s153, s154, s155, s156, s157, s158, s159, s160, s161, s162, s163, s164, s165, s166, s167, s168, s169, s170, s171, s172, s173, s174, s175, s176, s177, s178, s179, s180, s181, s182, s183, s184, s185, s186, s187, s188, s189, s190, s191, s192, s193, s194, s195, s196, s197, s198, s199, s200, s201, s202, s203, s204, s205, s206, s207, s208, s209, s210, s211, s212, s213, s214, s215, s216, s217, s218, s219, s220, s221, s222, s223, s224, s225, s226, s227, s228, s229, s230, s231, s232, s233, s234, s235, s236, s237, s238, u239, u240, u241, u242, u243, u244, u245, u246, s247, s248, s249, s250, s251, s252, s253, s254, s255, s256, s257, s258, s259, s260, s261, s262, s263, s264, s265, s266, s267, s268, s269, s270, s271, s272, s273, s274, s275, s276, s277, s278, s279, s280, s281, s282, s283, s284, s285], []⟩ wx) :
    Code.wp Try.prog (Code.region 21 #[{ dst := some 240, op := Op.load 28 (Operand.tmp 37), type := 28, pos := "law.go:194", after := #[], guard := none }, { dst := some 241, op := Op.move (Operand.tmp 5), type := 3, pos := "law.go:194", after := #[], guard := none }, { dst := some 242, op := Op.call { callee := Callee.value (Operand.func 31), args := #[Operand.tmp 241], argTypes := #[3] }, type := 28, pos := "law.go:194", after := #[{ on := 1, ground := Ground.data }], guard := none }, { dst := some 243, op := Op.load 28 (Operand.tmp 13), type := 28, pos := "law.go:194", after := #[], guard := none }, { dst := some 244, op := Op.call { callee := Callee.value (Operand.func 23), args := #[Operand.tmp 240, Operand.tmp 242, Operand.tmp 243], argTypes := #[28, 28, 28] }, type := 31, pos := "law.go:194", after := #[{ on := 0, ground := Ground.data }, { on := 2, ground := Ground.data }, { on := 3, ground := Ground.data }, { on := 2, ground := Ground.chain }], guard := none }, { dst := some 239, op := Op.move (Operand.tmp 244), type := 31, pos := "law.go:194", after := #[{ on := 4, ground := Ground.data }], guard := none }, { dst := some 245, op := Op.extract (Operand.tmp 239) 0, type := 28, pos := "law.go:194", after := #[{ on := 5, ground := Ground.data }], guard := none }, { dst := some 246, op := Op.extract (Operand.tmp 239) 1, type := 30, pos := "law.go:194", after := #[{ on := 5, ground := Ground.data }, { on := 9, ground := Ground.gcOnly Departure.lateStores }], guard := none }, { dst := some 41, op := Op.alloc 28, type := 0, pos := "law.go:194", after := #[], guard := none }, { dst := none, op := Op.store 28 (Operand.tmp 41) (Operand.tmp 245), type := 0, pos := "law.go:194", after := #[{ on := 8, ground := Ground.data }, { on := 6, ground := Ground.data }, { on := 4, ground := Ground.chain }, { on := 0, ground := Ground.phase }, { on := 1, ground := Ground.phase }, { on := 2, ground := Ground.phase }, { on := 3, ground := Ground.phase }, { on := 4, ground := Ground.phase }, { on := 5, ground := Ground.phase }, { on := 6, ground := Ground.phase }, { on := 7, ground := Ground.textOnly Departure.lateStores }, { on := 8, ground := Ground.phase }], guard := none }, { dst := some 42, op := Op.assign (Operand.tmp 246), type := 30, pos := "law.go:194", after := #[{ on := 7, ground := Ground.data }, { on := 9, ground := Ground.chain }, { on := 0, ground := Ground.phase }, { on := 1, ground := Ground.phase }, { on := 2, ground := Ground.phase }, { on := 3, ground := Ground.phase }, { on := 4, ground := Ground.phase }, { on := 5, ground := Ground.phase }, { on := 6, ground := Ground.phase }, { on := 7, ground := Ground.phase }, { on := 8, ground := Ground.phase }, { on := 9, ground := Ground.phase }], guard := none }] true) Q ⟨#[s0, s1, s2, s3, s4, .int .i64 ((q : Nat) : Int), s6, s7, s8, s9, s10, s11, s12, .pointer (some ⟨gz, 0, none⟩), .pointer (some ⟨gx, 0, none⟩), s15, s16, s17, s18, s19, s20, s21, s22, s23, s24, s25, s26, s27, s28, s29, s30, s31, s32, s33, s34, s35, s36, .pointer (some ⟨gres, 0, none⟩), s38, .pointer (some ⟨gu, 0, none⟩), s40, s41, s42, s43, s44, s45, s46, s47, s48, s49, s50, s51, s52, s53, s54, s55, s56, s57, s58, s59, s60, s61, s62, s63, s64, s65, s66, s67, s68, s69, s70, s71, s72, s73, s74, s75, s76, s77, s78, s79, s80, s81, s82, s83, s84, s85, s86, s87, s88, s89, s90, s91, s92, s93, s94, s95, s96, s97, s98, s99, s100, s101, s102, s103, s104, s105, s106, s107, s108, s109, s110, s111, s112, s113, s114, s115, s116, s117, s118, s119, s120, s121, s122, s123, s124, s125, s126, s127, s128, s129, s130, s131, s132, s133, s134, s135, s136, s137, s138, s139, s140, s141, s142, s143, s144, s145, s146, s147, s148, s149, s150, s151, s152, s153, s154, s155, s156, s157, s158, s159, s160, s161, s162, s163, s164, s165, s166, s167, s168, s169, s170, s171, s172, s173, s174, s175, s176, s177, s178, s179, s180, s181, s182, s183, s184, s185, s186, s187, s188, s189, s190, s191, s192, s193, s194, s195, s196, s197, s198, s199, s200, s201, s202, s203, s204, s205, s206, s207, s208, s209, s210, s211, s212, s213, s214, s215, s216, s217, s218, s219, s220, s221, s222, s223, s224, s225, s226, s227, s228, s229, s230, s231, s232, s233, s234, s235, s236, s237, s238, s239, s240, s241, s242, s243, s244, s245, s246, s247, s248, s249, s250, s251, s252, s253, s254, s255, s256, s257, s258, s259, s260, s261, s262, s263, s264, s265, s266, s267, s268, s269, s270, s271, s272, s273, s274, s275, s276, s277, s278, s279, s280, s281, s282, s283, s284, s285], []⟩ W := by
  have HQ := Lib.hid hQ
  clear hQ
  have Hx_0 := Lib.hid (show rowN W.drew gx = some (natA x) from R_x.out)
  have Hz_0 := Lib.hid (show rowN W.drew gz = some (natA m) from R_z.out)
  have Hres_0 := Lib.hid (show rowN W.drew gres = some (natA E) from R_res.out)
  have Hu_0 := Lib.hid (show rowN W.drew gu = some (natA U) from R_u.out)
  have HL_0 := Lib.hid (show Below w.heap.size w W.drew from HB.out.drew)
  clear HB R_x R_z R_res R_u
  refine wp_region_noPanic ?_
  refine wp_region_held_drew (S := fun W => rowN W gz = some (natA m) ∧ rowN W gres = some (natA E)) (by kernel_rfl) ⟨Hz_0.out, Hres_0.out⟩ (fun hHeld0 => ?_)
  obtain ⟨x0, hx0⟩ : ∃ X, W.drew = X := ⟨_, rfl⟩
  rw [hx0] at Hx_0 Hz_0 Hres_0 Hu_0 HL_0 hHeld0 ⊢
  clear hx0
  refine wpAnyH_take (i := 0) (oi := { dst := some 240, op := Op.load 28 (Operand.tmp 37), type := 28, pos := "law.go:194", after := #[], guard := none }) (v := .agg (natA E)) rfl (by kernel_rfl) (by kernel_rfl) (by kernel_rfl) (fun _ _ _ h => h) (Or.inl ⟨by rfl, fun W hW => ?_⟩) hHeld0 ?_
  · (have hW1 := hW.2; clear hW; go_simp)
  try simp only [Act.put, List.setIfInBounds_toArray, List.set_cons_zero, List.set_cons_succ]
  refine wpAnyH_take (i := 1) (oi := { dst := some 241, op := Op.move (Operand.tmp 5), type := 3, pos := "law.go:194", after := #[], guard := none }) (v := ?tk13) rfl (by kernel_rfl) (by kernel_rfl) (by kernel_rfl) (fun _ _ _ h => h) (Or.inl ⟨by rfl, ?tw13⟩) hHeld0 ?_
  case tw13 => (intro W hW; clear hW; first | (go_simp; done) | (go_simp; with_reducible rfl))
  try simp only [Act.put, List.setIfInBounds_toArray, List.set_cons_zero, List.set_cons_succ]
  refine wpAnyH_take (i := 3) (oi := { dst := some 243, op := Op.load 28 (Operand.tmp 13), type := 28, pos := "law.go:194", after := #[], guard := none }) (v := .agg (natA m)) rfl (by kernel_rfl) (by kernel_rfl) (by kernel_rfl) (fun _ _ _ h => h) (Or.inl ⟨by rfl, fun W hW => ?_⟩) hHeld0 ?_
  · (have hW1 := hW.1; clear hW; go_simp)
  try simp only [Act.put, List.setIfInBounds_toArray, List.set_cons_zero, List.set_cons_succ]
  refine wpAnyH_ready (rs := [2, 8]) (by kernel_rfl) (by simp) ?_
  refine AllReadyH.cons (o := { dst := some 242, op := Op.call { callee := Callee.value (Operand.func 31), args := #[Operand.tmp 241], argTypes := #[3] }, type := 28, pos := "law.go:194", after := #[{ on := 1, ground := Ground.data }], guard := none }) rfl (fun K' hK => ?_) ?_
  · go_simp
    refine (N2.out _).mono ?_
    rintro e x1 ⟨rfl, hb⟩
    have Hx_1 := Lib.hid (keptW hb Hx_0.out)
    have Hz_1 := Lib.hid (keptW hb Hz_0.out)
    have Hres_1 := Lib.hid (keptW hb Hres_0.out)
    have Hu_1 := Lib.hid (keptW hb Hu_0.out)
    have HL_1 := Lib.hid (HL_0.out.trans (hb.mono HL_0.out.size))
    clear hb
    refine hK.out _ _ ⟨Hz_1.out, Hres_1.out⟩ (fun hHeld1 => ?_)
    clear hK K'
    try simp only [Act.put, List.setIfInBounds_toArray, List.set_cons_zero, List.set_cons_succ]
    refine wpAnyH_ready (rs := [4, 8]) (by kernel_rfl) (by simp) ?_
    refine AllReadyH.cons (o := { dst := some 244, op := Op.call { callee := Callee.value (Operand.func 23), args := #[Operand.tmp 240, Operand.tmp 242, Operand.tmp 243], argTypes := #[28, 28, 28] }, type := 31, pos := "law.go:194", after := #[{ on := 0, ground := Ground.data }, { on := 2, ground := Ground.data }, { on := 3, ground := Ground.data }, { on := 2, ground := Ground.chain }], guard := none }) rfl (fun K' hK => ?_) ?_
    · go_simp
      refine (X2.out _).mono ?_
      rintro e x2 ⟨rfl, hb⟩
      have Hx_2 := Lib.hid (keptW hb Hx_1.out)
      have Hz_2 := Lib.hid (keptW hb Hz_1.out)
      have Hres_2 := Lib.hid (keptW hb Hres_1.out)
      have Hu_2 := Lib.hid (keptW hb Hu_1.out)
      have HL_2 := Lib.hid (HL_1.out.trans (hb.mono HL_1.out.size))
      clear hb
      refine hK.out _ _ ⟨Hz_2.out, Hres_2.out⟩ (fun hHeld2 => ?_)
      clear hK K'
      try simp only [Act.put, List.setIfInBounds_toArray, List.set_cons_zero, List.set_cons_succ]
      refine wpAnyH_take (i := 5) (oi := { dst := some 239, op := Op.move (Operand.tmp 244), type := 31, pos := "law.go:194", after := #[{ on := 4, ground := Ground.data }], guard := none }) (v := ?tk14) rfl (by kernel_rfl) (by kernel_rfl) (by kernel_rfl) (fun _ _ _ h => h) (Or.inl ⟨by rfl, ?tw14⟩) hHeld2 ?_
      case tw14 => (intro W hW; clear hW; first | (go_simp; done) | (go_simp; with_reducible rfl))
      try simp only [Act.put, List.setIfInBounds_toArray, List.set_cons_zero, List.set_cons_succ]
      refine wpAnyH_take (i := 6) (oi := { dst := some 245, op := Op.extract (Operand.tmp 239) 0, type := 28, pos := "law.go:194", after := #[{ on := 5, ground := Ground.data }], guard := none }) (v := ?tk15) rfl (by kernel_rfl) (by kernel_rfl) (by kernel_rfl) (fun _ _ _ h => h) (Or.inl ⟨by rfl, ?tw15⟩) hHeld2 ?_
      case tw15 => (intro W hW; clear hW; first | (go_simp; done) | (go_simp; with_reducible rfl))
      try simp only [Act.put, List.setIfInBounds_toArray, List.set_cons_zero, List.set_cons_succ]
      refine wpAnyH_take (i := 7) (oi := { dst := some 246, op := Op.extract (Operand.tmp 239) 1, type := 30, pos := "law.go:194", after := #[{ on := 5, ground := Ground.data }, { on := 9, ground := Ground.gcOnly Departure.lateStores }], guard := none }) (v := ?tk16) rfl (by kernel_rfl) (by kernel_rfl) (by kernel_rfl) (fun _ _ _ h => h) (Or.inl ⟨by rfl, ?tw16⟩) hHeld2 ?_
      case tw16 => (intro W hW; clear hW; first | (go_simp; done) | (go_simp; with_reducible rfl))
      try simp only [Act.put, List.setIfInBounds_toArray, List.set_cons_zero, List.set_cons_succ]
      refine wpAnyH_ready (rs := [8]) (by kernel_rfl) (by simp) ?_
      refine AllReadyH.cons (o := { dst := some 41, op := Op.alloc 28, type := 0, pos := "law.go:194", after := #[], guard := none }) rfl (fun K' hK => ?_) AllReadyH.nil
      go_simp
      obtain ⟨x3, hx3⟩ : ∃ X, x2.alloc (.cells (natA 0) 28) = X := ⟨_, rfl⟩
      have hb : Below x2.heap.size x2 x3 := by rw [← hx3]; exact (Below.refl _ _).alloc (Nat.le_refl _) _
      have Hx_3 := Lib.hid (keptW hb Hx_2.out)
      have Hz_3 := Lib.hid (keptW hb Hz_2.out)
      have Hres_3 := Lib.hid (keptW hb Hres_2.out)
      have Hu_3 := Lib.hid (keptW hb Hu_2.out)
      have HL_3 := Lib.hid (HL_2.out.trans (hb.mono HL_2.out.size))
      have hnew : rowN x3 x2.heap.size = some (natA 0) := by rw [← hx3, rowN_alloc, if_pos rfl]
      have hge : w.heap.size ≤ x2.heap.size := HL_2.out.size
      have hlx := rowN_lt Hx_2.out
      have hlz := rowN_lt Hz_2.out
      have hlres := rowN_lt Hres_2.out
      have hlu := rowN_lt Hu_2.out
      rw [hx3]
      obtain ⟨gnew, hgnew⟩ : ∃ g, x2.heap.size = g := ⟨_, rfl⟩
      rw [hgnew] at hnew hge hlx hlz hlres hlu ⊢
      have Hnew_3 := Lib.hid hnew
      clear hb hnew hgnew hx3
      refine hK.out _ _ ⟨Hz_3.out, Hres_3.out⟩ (fun hHeld3 => ?_)
      clear hK K'
      try simp only [Act.put, List.setIfInBounds_toArray, List.set_cons_zero, List.set_cons_succ]
      refine wpAnyH_ready (rs := [9]) (by kernel_rfl) (by simp) ?_
      refine AllReadyH.cons (o := { dst := none, op := Op.store 28 (Operand.tmp 41) (Operand.tmp 245), type := 0, pos := "law.go:194", after := #[{ on := 8, ground := Ground.data }, { on := 6, ground := Ground.data }, { on := 4, ground := Ground.chain }, { on := 0, ground := Ground.phase }, { on := 1, ground := Ground.phase }, { on := 2, ground := Ground.phase }, { on := 3, ground := Ground.phase }, { on := 4, ground := Ground.phase }, { on := 5, ground := Ground.phase }, { on := 6, ground := Ground.phase }, { on := 7, ground := Ground.textOnly Departure.lateStores }, { on := 8, ground := Ground.phase }], guard := none }) rfl (fun K' hK => ?_) AllReadyH.nil
      have hrow := Hnew_3.out
      go_simp
      obtain ⟨x4, hx4⟩ : ∃ X, x3.setRow gnew (natA V) = X := ⟨_, rfl⟩
      rw [hx4]
      have Hx_4 := Lib.hid (show rowN x4 gx = some (natA x) by rw [← hx4, rowN_setRow, if_neg (by omega)]; exact Hx_3.out)
      have Hz_4 := Lib.hid (show rowN x4 gz = some (natA m) by rw [← hx4, rowN_setRow, if_neg (by omega)]; exact Hz_3.out)
      have Hres_4 := Lib.hid (show rowN x4 gres = some (natA E) by rw [← hx4, rowN_setRow, if_neg (by omega)]; exact Hres_3.out)
      have Hu_4 := Lib.hid (show rowN x4 gu = some (natA U) by rw [← hx4, rowN_setRow, if_neg (by omega)]; exact Hu_3.out)
      have Hnew_4 := Lib.hid (show rowN x4 gnew = some (natA V) by rw [← hx4, rowN_setRow, if_pos rfl, hrow]; rfl)
      have hbl : Below w.heap.size w x4 := by rw [← hx4]; exact below_setRow' HL_3.out hge _
      have HL_4 := Lib.hid hbl
      clear hrow hbl hx4
      refine hK.out _ _ ⟨Hz_4.out, Hres_4.out⟩ (fun hHeld4 => ?_)
      clear hK K'
      try simp only [Act.put, List.setIfInBounds_toArray, List.set_cons_zero, List.set_cons_succ]
      refine wpAnyH_take (i := 10) (oi := { dst := some 42, op := Op.assign (Operand.tmp 246), type := 30, pos := "law.go:194", after := #[{ on := 7, ground := Ground.data }, { on := 9, ground := Ground.chain }, { on := 0, ground := Ground.phase }, { on := 1, ground := Ground.phase }, { on := 2, ground := Ground.phase }, { on := 3, ground := Ground.phase }, { on := 4, ground := Ground.phase }, { on := 5, ground := Ground.phase }, { on := 6, ground := Ground.phase }, { on := 7, ground := Ground.phase }, { on := 8, ground := Ground.phase }, { on := 9, ground := Ground.phase }], guard := none }) (v := ?tk17) rfl (by kernel_rfl) (by kernel_rfl) (by kernel_rfl) (fun _ _ _ h => h) (Or.inl ⟨by rfl, ?tw17⟩) hHeld4 ?_
      case tw17 => (intro W hW; clear hW; first | (go_simp; done) | (go_simp; with_reducible rfl))
      try simp only [Act.put, List.setIfInBounds_toArray, List.set_cons_zero, List.set_cons_succ]
      refine wpAnyH_done (by kernel_rfl) ?_ _
      refine NoPanic.normal ?_
      exact HQ.out gnew _ _ _ _ _ _ _ _ _ Hnew_4.out Hx_4.out Hz_4.out Hres_4.out Hu_4.out HL_4.out
    refine AllReadyH.cons (o := { dst := some 41, op := Op.alloc 28, type := 0, pos := "law.go:194", after := #[], guard := none }) rfl (fun K' hK => ?_) AllReadyH.nil
    go_simp
    obtain ⟨x2, hx2⟩ : ∃ X, x1.alloc (.cells (natA 0) 28) = X := ⟨_, rfl⟩
    have hb : Below x1.heap.size x1 x2 := by rw [← hx2]; exact (Below.refl _ _).alloc (Nat.le_refl _) _
    have Hx_2 := Lib.hid (keptW hb Hx_1.out)
    have Hz_2 := Lib.hid (keptW hb Hz_1.out)
    have Hres_2 := Lib.hid (keptW hb Hres_1.out)
    have Hu_2 := Lib.hid (keptW hb Hu_1.out)
    have HL_2 := Lib.hid (HL_1.out.trans (hb.mono HL_1.out.size))
    have hnew : rowN x2 x1.heap.size = some (natA 0) := by rw [← hx2, rowN_alloc, if_pos rfl]
    have hge : w.heap.size ≤ x1.heap.size := HL_1.out.size
    have hlx := rowN_lt Hx_1.out
    have hlz := rowN_lt Hz_1.out
    have hlres := rowN_lt Hres_1.out
    have hlu := rowN_lt Hu_1.out
    rw [hx2]
    obtain ⟨gnew, hgnew⟩ : ∃ g, x1.heap.size = g := ⟨_, rfl⟩
    rw [hgnew] at hnew hge hlx hlz hlres hlu ⊢
    have Hnew_2 := Lib.hid hnew
    clear hb hnew hgnew hx2
    refine hK.out _ _ ⟨Hz_2.out, Hres_2.out⟩ (fun hHeld2 => ?_)
    clear hK K'
    try simp only [Act.put, List.setIfInBounds_toArray, List.set_cons_zero, List.set_cons_succ]
    refine wpAnyH_ready (rs := [4]) (by kernel_rfl) (by simp) ?_
    refine AllReadyH.cons (o := { dst := some 244, op := Op.call { callee := Callee.value (Operand.func 23), args := #[Operand.tmp 240, Operand.tmp 242, Operand.tmp 243], argTypes := #[28, 28, 28] }, type := 31, pos := "law.go:194", after := #[{ on := 0, ground := Ground.data }, { on := 2, ground := Ground.data }, { on := 3, ground := Ground.data }, { on := 2, ground := Ground.chain }], guard := none }) rfl (fun K' hK => ?_) AllReadyH.nil
    go_simp
    refine (X2.out _).mono ?_
    rintro e x3 ⟨rfl, hb⟩
    have Hx_3 := Lib.hid (keptW hb Hx_2.out)
    have Hz_3 := Lib.hid (keptW hb Hz_2.out)
    have Hres_3 := Lib.hid (keptW hb Hres_2.out)
    have Hu_3 := Lib.hid (keptW hb Hu_2.out)
    have Hnew_3 := Lib.hid (keptW hb Hnew_2.out)
    have HL_3 := Lib.hid (HL_2.out.trans (hb.mono HL_2.out.size))
    clear hb
    refine hK.out _ _ ⟨Hz_3.out, Hres_3.out⟩ (fun hHeld3 => ?_)
    clear hK K'
    try simp only [Act.put, List.setIfInBounds_toArray, List.set_cons_zero, List.set_cons_succ]
    refine wpAnyH_take (i := 5) (oi := { dst := some 239, op := Op.move (Operand.tmp 244), type := 31, pos := "law.go:194", after := #[{ on := 4, ground := Ground.data }], guard := none }) (v := ?tk18) rfl (by kernel_rfl) (by kernel_rfl) (by kernel_rfl) (fun _ _ _ h => h) (Or.inl ⟨by rfl, ?tw18⟩) hHeld3 ?_
    case tw18 => (intro W hW; clear hW; first | (go_simp; done) | (go_simp; with_reducible rfl))
    try simp only [Act.put, List.setIfInBounds_toArray, List.set_cons_zero, List.set_cons_succ]
    refine wpAnyH_take (i := 6) (oi := { dst := some 245, op := Op.extract (Operand.tmp 239) 0, type := 28, pos := "law.go:194", after := #[{ on := 5, ground := Ground.data }], guard := none }) (v := ?tk19) rfl (by kernel_rfl) (by kernel_rfl) (by kernel_rfl) (fun _ _ _ h => h) (Or.inl ⟨by rfl, ?tw19⟩) hHeld3 ?_
    case tw19 => (intro W hW; clear hW; first | (go_simp; done) | (go_simp; with_reducible rfl))
    try simp only [Act.put, List.setIfInBounds_toArray, List.set_cons_zero, List.set_cons_succ]
    refine wpAnyH_take (i := 7) (oi := { dst := some 246, op := Op.extract (Operand.tmp 239) 1, type := 30, pos := "law.go:194", after := #[{ on := 5, ground := Ground.data }, { on := 9, ground := Ground.gcOnly Departure.lateStores }], guard := none }) (v := ?tk20) rfl (by kernel_rfl) (by kernel_rfl) (by kernel_rfl) (fun _ _ _ h => h) (Or.inl ⟨by rfl, ?tw20⟩) hHeld3 ?_
    case tw20 => (intro W hW; clear hW; first | (go_simp; done) | (go_simp; with_reducible rfl))
    try simp only [Act.put, List.setIfInBounds_toArray, List.set_cons_zero, List.set_cons_succ]
    refine wpAnyH_ready (rs := [9]) (by kernel_rfl) (by simp) ?_
    refine AllReadyH.cons (o := { dst := none, op := Op.store 28 (Operand.tmp 41) (Operand.tmp 245), type := 0, pos := "law.go:194", after := #[{ on := 8, ground := Ground.data }, { on := 6, ground := Ground.data }, { on := 4, ground := Ground.chain }, { on := 0, ground := Ground.phase }, { on := 1, ground := Ground.phase }, { on := 2, ground := Ground.phase }, { on := 3, ground := Ground.phase }, { on := 4, ground := Ground.phase }, { on := 5, ground := Ground.phase }, { on := 6, ground := Ground.phase }, { on := 7, ground := Ground.textOnly Departure.lateStores }, { on := 8, ground := Ground.phase }], guard := none }) rfl (fun K' hK => ?_) AllReadyH.nil
    have hrow := Hnew_3.out
    go_simp
    obtain ⟨x4, hx4⟩ : ∃ X, x3.setRow gnew (natA V) = X := ⟨_, rfl⟩
    rw [hx4]
    have Hx_4 := Lib.hid (show rowN x4 gx = some (natA x) by rw [← hx4, rowN_setRow, if_neg (by omega)]; exact Hx_3.out)
    have Hz_4 := Lib.hid (show rowN x4 gz = some (natA m) by rw [← hx4, rowN_setRow, if_neg (by omega)]; exact Hz_3.out)
    have Hres_4 := Lib.hid (show rowN x4 gres = some (natA E) by rw [← hx4, rowN_setRow, if_neg (by omega)]; exact Hres_3.out)
    have Hu_4 := Lib.hid (show rowN x4 gu = some (natA U) by rw [← hx4, rowN_setRow, if_neg (by omega)]; exact Hu_3.out)
    have Hnew_4 := Lib.hid (show rowN x4 gnew = some (natA V) by rw [← hx4, rowN_setRow, if_pos rfl, hrow]; rfl)
    have hbl : Below w.heap.size w x4 := by rw [← hx4]; exact below_setRow' HL_3.out hge _
    have HL_4 := Lib.hid hbl
    clear hrow hbl hx4
    refine hK.out _ _ ⟨Hz_4.out, Hres_4.out⟩ (fun hHeld4 => ?_)
    clear hK K'
    try simp only [Act.put, List.setIfInBounds_toArray, List.set_cons_zero, List.set_cons_succ]
    refine wpAnyH_take (i := 10) (oi := { dst := some 42, op := Op.assign (Operand.tmp 246), type := 30, pos := "law.go:194", after := #[{ on := 7, ground := Ground.data }, { on := 9, ground := Ground.chain }, { on := 0, ground := Ground.phase }, { on := 1, ground := Ground.phase }, { on := 2, ground := Ground.phase }, { on := 3, ground := Ground.phase }, { on := 4, ground := Ground.phase }, { on := 5, ground := Ground.phase }, { on := 6, ground := Ground.phase }, { on := 7, ground := Ground.phase }, { on := 8, ground := Ground.phase }, { on := 9, ground := Ground.phase }], guard := none }) (v := ?tk21) rfl (by kernel_rfl) (by kernel_rfl) (by kernel_rfl) (fun _ _ _ h => h) (Or.inl ⟨by rfl, ?tw21⟩) hHeld4 ?_
    case tw21 => (intro W hW; clear hW; first | (go_simp; done) | (go_simp; with_reducible rfl))
    try simp only [Act.put, List.setIfInBounds_toArray, List.set_cons_zero, List.set_cons_succ]
    refine wpAnyH_done (by kernel_rfl) ?_ _
    refine NoPanic.normal ?_
    exact HQ.out gnew _ _ _ _ _ _ _ _ _ Hnew_4.out Hx_4.out Hz_4.out Hres_4.out Hu_4.out HL_4.out
  refine AllReadyH.cons (o := { dst := some 41, op := Op.alloc 28, type := 0, pos := "law.go:194", after := #[], guard := none }) rfl (fun K' hK => ?_) AllReadyH.nil
  go_simp
  obtain ⟨x1, hx1⟩ : ∃ X, x0.alloc (.cells (natA 0) 28) = X := ⟨_, rfl⟩
  have hb : Below x0.heap.size x0 x1 := by rw [← hx1]; exact (Below.refl _ _).alloc (Nat.le_refl _) _
  have Hx_1 := Lib.hid (keptW hb Hx_0.out)
  have Hz_1 := Lib.hid (keptW hb Hz_0.out)
  have Hres_1 := Lib.hid (keptW hb Hres_0.out)
  have Hu_1 := Lib.hid (keptW hb Hu_0.out)
  have HL_1 := Lib.hid (HL_0.out.trans (hb.mono HL_0.out.size))
  have hnew : rowN x1 x0.heap.size = some (natA 0) := by rw [← hx1, rowN_alloc, if_pos rfl]
  have hge : w.heap.size ≤ x0.heap.size := HL_0.out.size
  have hlx := rowN_lt Hx_0.out
  have hlz := rowN_lt Hz_0.out
  have hlres := rowN_lt Hres_0.out
  have hlu := rowN_lt Hu_0.out
  rw [hx1]
  obtain ⟨gnew, hgnew⟩ : ∃ g, x0.heap.size = g := ⟨_, rfl⟩
  rw [hgnew] at hnew hge hlx hlz hlres hlu ⊢
  have Hnew_1 := Lib.hid hnew
  clear hb hnew hgnew hx1
  refine hK.out _ _ ⟨Hz_1.out, Hres_1.out⟩ (fun hHeld1 => ?_)
  clear hK K'
  try simp only [Act.put, List.setIfInBounds_toArray, List.set_cons_zero, List.set_cons_succ]
  refine wpAnyH_ready (rs := [2]) (by kernel_rfl) (by simp) ?_
  refine AllReadyH.cons (o := { dst := some 242, op := Op.call { callee := Callee.value (Operand.func 31), args := #[Operand.tmp 241], argTypes := #[3] }, type := 28, pos := "law.go:194", after := #[{ on := 1, ground := Ground.data }], guard := none }) rfl (fun K' hK => ?_) AllReadyH.nil
  go_simp
  refine (N2.out _).mono ?_
  rintro e x2 ⟨rfl, hb⟩
  have Hx_2 := Lib.hid (keptW hb Hx_1.out)
  have Hz_2 := Lib.hid (keptW hb Hz_1.out)
  have Hres_2 := Lib.hid (keptW hb Hres_1.out)
  have Hu_2 := Lib.hid (keptW hb Hu_1.out)
  have Hnew_2 := Lib.hid (keptW hb Hnew_1.out)
  have HL_2 := Lib.hid (HL_1.out.trans (hb.mono HL_1.out.size))
  clear hb
  refine hK.out _ _ ⟨Hz_2.out, Hres_2.out⟩ (fun hHeld2 => ?_)
  clear hK K'
  try simp only [Act.put, List.setIfInBounds_toArray, List.set_cons_zero, List.set_cons_succ]
  refine wpAnyH_ready (rs := [4]) (by kernel_rfl) (by simp) ?_
  refine AllReadyH.cons (o := { dst := some 244, op := Op.call { callee := Callee.value (Operand.func 23), args := #[Operand.tmp 240, Operand.tmp 242, Operand.tmp 243], argTypes := #[28, 28, 28] }, type := 31, pos := "law.go:194", after := #[{ on := 0, ground := Ground.data }, { on := 2, ground := Ground.data }, { on := 3, ground := Ground.data }, { on := 2, ground := Ground.chain }], guard := none }) rfl (fun K' hK => ?_) AllReadyH.nil
  go_simp
  refine (X2.out _).mono ?_
  rintro e x3 ⟨rfl, hb⟩
  have Hx_3 := Lib.hid (keptW hb Hx_2.out)
  have Hz_3 := Lib.hid (keptW hb Hz_2.out)
  have Hres_3 := Lib.hid (keptW hb Hres_2.out)
  have Hu_3 := Lib.hid (keptW hb Hu_2.out)
  have Hnew_3 := Lib.hid (keptW hb Hnew_2.out)
  have HL_3 := Lib.hid (HL_2.out.trans (hb.mono HL_2.out.size))
  clear hb
  refine hK.out _ _ ⟨Hz_3.out, Hres_3.out⟩ (fun hHeld3 => ?_)
  clear hK K'
  try simp only [Act.put, List.setIfInBounds_toArray, List.set_cons_zero, List.set_cons_succ]
  refine wpAnyH_take (i := 5) (oi := { dst := some 239, op := Op.move (Operand.tmp 244), type := 31, pos := "law.go:194", after := #[{ on := 4, ground := Ground.data }], guard := none }) (v := ?tk22) rfl (by kernel_rfl) (by kernel_rfl) (by kernel_rfl) (fun _ _ _ h => h) (Or.inl ⟨by rfl, ?tw22⟩) hHeld3 ?_
  case tw22 => (intro W hW; clear hW; first | (go_simp; done) | (go_simp; with_reducible rfl))
  try simp only [Act.put, List.setIfInBounds_toArray, List.set_cons_zero, List.set_cons_succ]
  refine wpAnyH_take (i := 6) (oi := { dst := some 245, op := Op.extract (Operand.tmp 239) 0, type := 28, pos := "law.go:194", after := #[{ on := 5, ground := Ground.data }], guard := none }) (v := ?tk23) rfl (by kernel_rfl) (by kernel_rfl) (by kernel_rfl) (fun _ _ _ h => h) (Or.inl ⟨by rfl, ?tw23⟩) hHeld3 ?_
  case tw23 => (intro W hW; clear hW; first | (go_simp; done) | (go_simp; with_reducible rfl))
  try simp only [Act.put, List.setIfInBounds_toArray, List.set_cons_zero, List.set_cons_succ]
  refine wpAnyH_take (i := 7) (oi := { dst := some 246, op := Op.extract (Operand.tmp 239) 1, type := 30, pos := "law.go:194", after := #[{ on := 5, ground := Ground.data }, { on := 9, ground := Ground.gcOnly Departure.lateStores }], guard := none }) (v := ?tk24) rfl (by kernel_rfl) (by kernel_rfl) (by kernel_rfl) (fun _ _ _ h => h) (Or.inl ⟨by rfl, ?tw24⟩) hHeld3 ?_
  case tw24 => (intro W hW; clear hW; first | (go_simp; done) | (go_simp; with_reducible rfl))
  try simp only [Act.put, List.setIfInBounds_toArray, List.set_cons_zero, List.set_cons_succ]
  refine wpAnyH_ready (rs := [9]) (by kernel_rfl) (by simp) ?_
  refine AllReadyH.cons (o := { dst := none, op := Op.store 28 (Operand.tmp 41) (Operand.tmp 245), type := 0, pos := "law.go:194", after := #[{ on := 8, ground := Ground.data }, { on := 6, ground := Ground.data }, { on := 4, ground := Ground.chain }, { on := 0, ground := Ground.phase }, { on := 1, ground := Ground.phase }, { on := 2, ground := Ground.phase }, { on := 3, ground := Ground.phase }, { on := 4, ground := Ground.phase }, { on := 5, ground := Ground.phase }, { on := 6, ground := Ground.phase }, { on := 7, ground := Ground.textOnly Departure.lateStores }, { on := 8, ground := Ground.phase }], guard := none }) rfl (fun K' hK => ?_) AllReadyH.nil
  have hrow := Hnew_3.out
  go_simp
  obtain ⟨x4, hx4⟩ : ∃ X, x3.setRow gnew (natA V) = X := ⟨_, rfl⟩
  rw [hx4]
  have Hx_4 := Lib.hid (show rowN x4 gx = some (natA x) by rw [← hx4, rowN_setRow, if_neg (by omega)]; exact Hx_3.out)
  have Hz_4 := Lib.hid (show rowN x4 gz = some (natA m) by rw [← hx4, rowN_setRow, if_neg (by omega)]; exact Hz_3.out)
  have Hres_4 := Lib.hid (show rowN x4 gres = some (natA E) by rw [← hx4, rowN_setRow, if_neg (by omega)]; exact Hres_3.out)
  have Hu_4 := Lib.hid (show rowN x4 gu = some (natA U) by rw [← hx4, rowN_setRow, if_neg (by omega)]; exact Hu_3.out)
  have Hnew_4 := Lib.hid (show rowN x4 gnew = some (natA V) by rw [← hx4, rowN_setRow, if_pos rfl, hrow]; rfl)
  have hbl : Below w.heap.size w x4 := by rw [← hx4]; exact below_setRow' HL_3.out hge _
  have HL_4 := Lib.hid hbl
  clear hrow hbl hx4
  refine hK.out _ _ ⟨Hz_4.out, Hres_4.out⟩ (fun hHeld4 => ?_)
  clear hK K'
  try simp only [Act.put, List.setIfInBounds_toArray, List.set_cons_zero, List.set_cons_succ]
  refine wpAnyH_take (i := 10) (oi := { dst := some 42, op := Op.assign (Operand.tmp 246), type := 30, pos := "law.go:194", after := #[{ on := 7, ground := Ground.data }, { on := 9, ground := Ground.chain }, { on := 0, ground := Ground.phase }, { on := 1, ground := Ground.phase }, { on := 2, ground := Ground.phase }, { on := 3, ground := Ground.phase }, { on := 4, ground := Ground.phase }, { on := 5, ground := Ground.phase }, { on := 6, ground := Ground.phase }, { on := 7, ground := Ground.phase }, { on := 8, ground := Ground.phase }, { on := 9, ground := Ground.phase }], guard := none }) (v := ?tk25) rfl (by kernel_rfl) (by kernel_rfl) (by kernel_rfl) (fun _ _ _ h => h) (Or.inl ⟨by rfl, ?tw25⟩) hHeld4 ?_
  case tw25 => (intro W hW; clear hW; first | (go_simp; done) | (go_simp; with_reducible rfl))
  try simp only [Act.put, List.setIfInBounds_toArray, List.set_cons_zero, List.set_cons_succ]
  refine wpAnyH_done (by kernel_rfl) ?_ _
  refine NoPanic.normal ?_
  exact HQ.out gnew _ _ _ _ _ _ _ _ _ Hnew_4.out Hx_4.out Hz_4.out Hres_4.out Hu_4.out HL_4.out

set_option maxRecDepth 100000 in
set_option maxHeartbeats 4000000 in
theorem mh_reg22 {w W : World} {Q : Exit → Act → World → Prop} {s0 s1 s2 s3 s6 s7 s8 s9 s10 s11 s12 s15 s16 s17 s18 s19 s20 s21 s22 s23 s24 s25 s26 s27 s28 s29 s30 s31 s32 s33 s34 s35 s36 s37 s38 s40 s42 s43 s44 s45 s46 s47 s48 s49 s50 s51 s52 s53 s54 s55 s56 s57 s58 s59 s60 s61 s62 s63 s64 s65 s66 s67 s68 s69 s70 s71 s72 s73 s74 s75 s76 s77 s78 s79 s80 s81 s82 s83 s84 s85 s86 s87 s88 s89 s90 s91 s92 s93 s94 s95 s96 s97 s98 s99 s100 s101 s102 s103 s104 s105 s106 s107 s108 s109 s110 s111 s112 s113 s114 s115 s116 s117 s118 s119 s120 s121 s122 s123 s124 s125 s126 s127 s128 s129 s130 s131 s132 s133 s134 s135 s136 s137 s138 s139 s140 s141 s142 s143 s144 s145 s146 s147 s148 s149 s150 s151 s152 s153 s154 s155 s156 s157 s158 s159 s160 s161 s162 s163 s164 s165 s166 s167 s168 s169 s170 s171 s172 s173 s174 s175 s176 s177 s178 s179 s180 s181 s182 s183 s184 s185 s186 s187 s188 s189 s190 s191 s192 s193 s194 s195 s196 s197 s198 s199 s200 s201 s202 s203 s204 s205 s206 s207 s208 s209 s210 s211 s212 s213 s214 s215 s216 s217 s218 s219 s220 s221 s222 s223 s224 s225 s226 s227 s228 s229 s230 s231 s232 s233 s234 s235 s236 s237 s238 s239 s240 s241 s242 s243 s244 s245 s246 s247 s248 s249 s250 s251 s252 s253 s254 s255 s256 s257 s258 s259 s260 s261 s262 s263 s264 s265 s266 s267 s268 s269 s270 s271 s272 s273 s274 s275 s276 s277 s278 s279 s280 s281 s282 s283 s284 s285 : Value} {x m U V B p q : Nat} {gx gz gu gv : Nat}
    (hp : p ≤ 1048576)
    (hq : q ≤ 1048576)
    (N3 : Go.RowKit.Hid (∀ W : World, Calls Try.prog 31 #[.int .i64 ((p : Nat) + (q : Nat))] W fun e w' => e = .returned (.agg (natA (p + q))) ∧ Below W.heap.size W w'))
    (X3 : Go.RowKit.Hid (∀ W : World, Calls Try.prog 23 #[.agg (natA x), .agg (natA (p + q)), .agg (natA m)] W fun e w' => e = .returned (.tuple #[.agg (natA B), .int .i64 0]) ∧ Below W.heap.size W w'))
    (R_x : Go.RowKit.Hid (rowN W gx = some (natA x)))
    (R_z : Go.RowKit.Hid (rowN W gz = some (natA m)))
    (R_u : Go.RowKit.Hid (rowN W gu = some (natA U)))
    (R_v : Go.RowKit.Hid (rowN W gv = some (natA V)))
    (HB : Go.RowKit.Hid (Below w.heap.size w W))
    (hQ : ∀ (g : Nat) (u247 u248 u249 u250 u251 u252 u253 u254 u255 u256 : Value) (wx : World), rowN wx g = some (natA B) → rowN wx gx = some (natA x) → rowN wx gz = some (natA m) → rowN wx gu = some (natA U) → rowN wx gv = some (natA V) → Below w.heap.size w wx → Q .normal ⟨#[s0, s1, s2, s3, .int .i64 ((p : Nat) : Int), .int .i64 ((q : Nat) : Int), s6, s7, s8, s9, s10, s11, s12, .pointer (some ⟨gz, 0, none⟩), .pointer (some ⟨gx, 0, none⟩), s15, s16, s17, s18, s19, s20, s21, s22, s23, s24, s25, s26, s27, s28, s29, s30, s31, s32, s33, s34, s35, s36, s37, s38, .pointer (some ⟨gu, 0, none⟩), s40, .pointer (some ⟨gv, 0, none⟩), s42, .pointer (some ⟨g, 0, none⟩), .int .i64 0, s45, s46, s47, s48, s49, s50, s51, s52, s53, s54, s55, s56, s57, s58, s59, s60, s61, s62, s63, s64, s65, s66, s67, s68, s69, s70, s71, s72, s73, s74, s75, s76, s77, s78, s79, s80, s81, s82, s83, s84, s85, s86, s87, s88, s89, s90, s91, s92, s93, s94, s95, s96, s97, s98, s99, s100, s101, s102, s103, s104, s105, s106, s107, s108, s109, s110, s111, s112, s113, s114, s115, s116, s117, s118, s119, s120, s121, s122, s123, s124, s125, s126, s127, s128, s129, s130, s131, s132, s133, s134, s135, s136, s137, s138, s139, s140, s141, s142, s143, s144, s145, s146, s147, s148, s149, s150, s151, s152, s153, s154, s155, s156, s157, s158, s159, s160, s161, s162, s163, s164, s165, s166, s167, s168, s169, s170, s171, s172, s173, s174, s175, s176, s177, s178, s179, s180, s181, s182, s183, s184, s185, s186, s187, s188, s189, s190, s191, s192, s193, s194, s195, s196, s197, s198, s199, s200, s201, s202, s203, s204, s205, s206, s207, s208, s209, s210, s211, s212, s213, s214, s215, s216, s217, s218, s219, s220, s221, s222, s223, s224, s225, s226, s227, s228, s229, s230, s231, s232, s233, s234, s235, s236, s237, s238, s239, s240, s241, s242, s243, s244, s245, s246, u247, u248, u249, u250, u251, u252, u253, u254, u255, u256, s257, s258, s259, s260, s261, s262, s263, s264, s265, s266, s267, s268, s269, s270, s271, s272, s273, s274, s275, s276, s277, s278, s279, s280, s281, s282, s283, s284, s285], []⟩ wx) :
    Code.wp Try.prog (Code.region 22 #[{ dst := some 248, op := Op.load 28 (Operand.tmp 14), type := 28, pos := "law.go:195", after := #[], guard := none }, { dst := some 249, op := Op.move (Operand.tmp 4), type := 3, pos := "law.go:195", after := #[], guard := none }, { dst := some 250, op := Op.move (Operand.tmp 5), type := 3, pos := "law.go:195", after := #[], guard := none }, { dst := some 251, op := Op.binOp BinOp.add 3 (Operand.tmp 249) (Operand.tmp 250) 3, type := 3, pos := "law.go:195", after := #[{ on := 1, ground := Ground.data }, { on := 2, ground := Ground.data }], guard := none }, { dst := some 252, op := Op.call { callee := Callee.value (Operand.func 31), args := #[Operand.tmp 251], argTypes := #[3] }, type := 28, pos := "law.go:195", after := #[{ on := 3, ground := Ground.data }], guard := none }, { dst := some 253, op := Op.load 28 (Operand.tmp 13), type := 28, pos := "law.go:195", after := #[], guard := none }, { dst := some 254, op := Op.call { callee := Callee.value (Operand.func 23), args := #[Operand.tmp 248, Operand.tmp 252, Operand.tmp 253], argTypes := #[28, 28, 28] }, type := 31, pos := "law.go:195", after := #[{ on := 0, ground := Ground.data }, { on := 4, ground := Ground.data }, { on := 5, ground := Ground.data }, { on := 4, ground := Ground.chain }], guard := none }, { dst := some 247, op := Op.move (Operand.tmp 254), type := 31, pos := "law.go:195", after := #[{ on := 6, ground := Ground.data }], guard := none }, { dst := some 255, op := Op.extract (Operand.tmp 247) 0, type := 28, pos := "law.go:195", after := #[{ on := 7, ground := Ground.data }], guard := none }, { dst := some 256, op := Op.extract (Operand.tmp 247) 1, type := 30, pos := "law.go:195", after := #[{ on := 7, ground := Ground.data }, { on := 11, ground := Ground.gcOnly Departure.lateStores }], guard := none }, { dst := some 43, op := Op.alloc 28, type := 0, pos := "law.go:195", after := #[], guard := none }, { dst := none, op := Op.store 28 (Operand.tmp 43) (Operand.tmp 255), type := 0, pos := "law.go:195", after := #[{ on := 10, ground := Ground.data }, { on := 8, ground := Ground.data }, { on := 6, ground := Ground.chain }, { on := 0, ground := Ground.phase }, { on := 1, ground := Ground.phase }, { on := 2, ground := Ground.phase }, { on := 3, ground := Ground.phase }, { on := 4, ground := Ground.phase }, { on := 5, ground := Ground.phase }, { on := 6, ground := Ground.phase }, { on := 7, ground := Ground.phase }, { on := 8, ground := Ground.phase }, { on := 9, ground := Ground.textOnly Departure.lateStores }, { on := 10, ground := Ground.phase }], guard := none }, { dst := some 44, op := Op.assign (Operand.tmp 256), type := 30, pos := "law.go:195", after := #[{ on := 9, ground := Ground.data }, { on := 11, ground := Ground.chain }, { on := 0, ground := Ground.phase }, { on := 1, ground := Ground.phase }, { on := 2, ground := Ground.phase }, { on := 3, ground := Ground.phase }, { on := 4, ground := Ground.phase }, { on := 5, ground := Ground.phase }, { on := 6, ground := Ground.phase }, { on := 7, ground := Ground.phase }, { on := 8, ground := Ground.phase }, { on := 9, ground := Ground.phase }, { on := 10, ground := Ground.phase }, { on := 11, ground := Ground.phase }], guard := none }] true) Q ⟨#[s0, s1, s2, s3, .int .i64 ((p : Nat) : Int), .int .i64 ((q : Nat) : Int), s6, s7, s8, s9, s10, s11, s12, .pointer (some ⟨gz, 0, none⟩), .pointer (some ⟨gx, 0, none⟩), s15, s16, s17, s18, s19, s20, s21, s22, s23, s24, s25, s26, s27, s28, s29, s30, s31, s32, s33, s34, s35, s36, s37, s38, .pointer (some ⟨gu, 0, none⟩), s40, .pointer (some ⟨gv, 0, none⟩), s42, s43, s44, s45, s46, s47, s48, s49, s50, s51, s52, s53, s54, s55, s56, s57, s58, s59, s60, s61, s62, s63, s64, s65, s66, s67, s68, s69, s70, s71, s72, s73, s74, s75, s76, s77, s78, s79, s80, s81, s82, s83, s84, s85, s86, s87, s88, s89, s90, s91, s92, s93, s94, s95, s96, s97, s98, s99, s100, s101, s102, s103, s104, s105, s106, s107, s108, s109, s110, s111, s112, s113, s114, s115, s116, s117, s118, s119, s120, s121, s122, s123, s124, s125, s126, s127, s128, s129, s130, s131, s132, s133, s134, s135, s136, s137, s138, s139, s140, s141, s142, s143, s144, s145, s146, s147, s148, s149, s150, s151, s152, s153, s154, s155, s156, s157, s158, s159, s160, s161, s162, s163, s164, s165, s166, s167, s168, s169, s170, s171, s172, s173, s174, s175, s176, s177, s178, s179, s180, s181, s182, s183, s184, s185, s186, s187, s188, s189, s190, s191, s192, s193, s194, s195, s196, s197, s198, s199, s200, s201, s202, s203, s204, s205, s206, s207, s208, s209, s210, s211, s212, s213, s214, s215, s216, s217, s218, s219, s220, s221, s222, s223, s224, s225, s226, s227, s228, s229, s230, s231, s232, s233, s234, s235, s236, s237, s238, s239, s240, s241, s242, s243, s244, s245, s246, s247, s248, s249, s250, s251, s252, s253, s254, s255, s256, s257, s258, s259, s260, s261, s262, s263, s264, s265, s266, s267, s268, s269, s270, s271, s272, s273, s274, s275, s276, s277, s278, s279, s280, s281, s282, s283, s284, s285], []⟩ W := by
  have HWR := Lib.hid (show IntKind.i64.wrap ((p : Nat) + (q : Nat) : Int) = ((p : Nat) + (q : Nat) : Int) from IntWalk.i64_in _ (by omega))
  have HQ := Lib.hid hQ
  clear hQ
  have Hx_0 := Lib.hid (show rowN W.drew gx = some (natA x) from R_x.out)
  have Hz_0 := Lib.hid (show rowN W.drew gz = some (natA m) from R_z.out)
  have Hu_0 := Lib.hid (show rowN W.drew gu = some (natA U) from R_u.out)
  have Hv_0 := Lib.hid (show rowN W.drew gv = some (natA V) from R_v.out)
  have HL_0 := Lib.hid (show Below w.heap.size w W.drew from HB.out.drew)
  clear HB R_x R_z R_u R_v
  refine wp_region_noPanic ?_
  refine wp_region_held_drew (S := fun W => rowN W gx = some (natA x) ∧ rowN W gz = some (natA m)) (by kernel_rfl) ⟨Hx_0.out, Hz_0.out⟩ (fun hHeld0 => ?_)
  obtain ⟨x0, hx0⟩ : ∃ X, W.drew = X := ⟨_, rfl⟩
  rw [hx0] at Hx_0 Hz_0 Hu_0 Hv_0 HL_0 hHeld0 ⊢
  clear hx0
  refine wpAnyH_take (i := 0) (oi := { dst := some 248, op := Op.load 28 (Operand.tmp 14), type := 28, pos := "law.go:195", after := #[], guard := none }) (v := .agg (natA x)) rfl (by kernel_rfl) (by kernel_rfl) (by kernel_rfl) (fun _ _ _ h => h) (Or.inl ⟨by rfl, fun W hW => ?_⟩) hHeld0 ?_
  · (have hW1 := hW.1; clear hW; go_simp)
  try simp only [Act.put, List.setIfInBounds_toArray, List.set_cons_zero, List.set_cons_succ]
  refine wpAnyH_take (i := 1) (oi := { dst := some 249, op := Op.move (Operand.tmp 4), type := 3, pos := "law.go:195", after := #[], guard := none }) (v := ?tk26) rfl (by kernel_rfl) (by kernel_rfl) (by kernel_rfl) (fun _ _ _ h => h) (Or.inl ⟨by rfl, ?tw26⟩) hHeld0 ?_
  case tw26 => (intro W hW; clear hW; first | (go_simp; done) | (go_simp; with_reducible rfl))
  try simp only [Act.put, List.setIfInBounds_toArray, List.set_cons_zero, List.set_cons_succ]
  refine wpAnyH_take (i := 2) (oi := { dst := some 250, op := Op.move (Operand.tmp 5), type := 3, pos := "law.go:195", after := #[], guard := none }) (v := ?tk27) rfl (by kernel_rfl) (by kernel_rfl) (by kernel_rfl) (fun _ _ _ h => h) (Or.inl ⟨by rfl, ?tw27⟩) hHeld0 ?_
  case tw27 => (intro W hW; clear hW; first | (go_simp; done) | (go_simp; with_reducible rfl))
  try simp only [Act.put, List.setIfInBounds_toArray, List.set_cons_zero, List.set_cons_succ]
  refine wpAnyH_take (i := 3) (oi := { dst := some 251, op := Op.binOp BinOp.add 3 (Operand.tmp 249) (Operand.tmp 250) 3, type := 3, pos := "law.go:195", after := #[{ on := 1, ground := Ground.data }, { on := 2, ground := Ground.data }], guard := none }) (v := .int .i64 (((p : Nat) : Int) + ((q : Nat) : Int))) rfl (by kernel_rfl) (by kernel_rfl) (by kernel_rfl) (fun _ _ _ h => h) (Or.inl ⟨by rfl, fun W hW => ?_⟩) hHeld0 ?_
  · (clear hW; have hwr := HWR.out; go_simp)
  try simp only [Act.put, List.setIfInBounds_toArray, List.set_cons_zero, List.set_cons_succ]
  refine wpAnyH_take (i := 5) (oi := { dst := some 253, op := Op.load 28 (Operand.tmp 13), type := 28, pos := "law.go:195", after := #[], guard := none }) (v := .agg (natA m)) rfl (by kernel_rfl) (by kernel_rfl) (by kernel_rfl) (fun _ _ _ h => h) (Or.inl ⟨by rfl, fun W hW => ?_⟩) hHeld0 ?_
  · (have hW1 := hW.2; clear hW; go_simp)
  try simp only [Act.put, List.setIfInBounds_toArray, List.set_cons_zero, List.set_cons_succ]
  refine wpAnyH_ready (rs := [4, 10]) (by kernel_rfl) (by simp) ?_
  refine AllReadyH.cons (o := { dst := some 252, op := Op.call { callee := Callee.value (Operand.func 31), args := #[Operand.tmp 251], argTypes := #[3] }, type := 28, pos := "law.go:195", after := #[{ on := 3, ground := Ground.data }], guard := none }) rfl (fun K' hK => ?_) ?_
  · go_simp
    refine (N3.out _).mono ?_
    rintro e x1 ⟨rfl, hb⟩
    have Hx_1 := Lib.hid (keptW hb Hx_0.out)
    have Hz_1 := Lib.hid (keptW hb Hz_0.out)
    have Hu_1 := Lib.hid (keptW hb Hu_0.out)
    have Hv_1 := Lib.hid (keptW hb Hv_0.out)
    have HL_1 := Lib.hid (HL_0.out.trans (hb.mono HL_0.out.size))
    clear hb
    refine hK.out _ _ ⟨Hx_1.out, Hz_1.out⟩ (fun hHeld1 => ?_)
    clear hK K'
    try simp only [Act.put, List.setIfInBounds_toArray, List.set_cons_zero, List.set_cons_succ]
    refine wpAnyH_ready (rs := [6, 10]) (by kernel_rfl) (by simp) ?_
    refine AllReadyH.cons (o := { dst := some 254, op := Op.call { callee := Callee.value (Operand.func 23), args := #[Operand.tmp 248, Operand.tmp 252, Operand.tmp 253], argTypes := #[28, 28, 28] }, type := 31, pos := "law.go:195", after := #[{ on := 0, ground := Ground.data }, { on := 4, ground := Ground.data }, { on := 5, ground := Ground.data }, { on := 4, ground := Ground.chain }], guard := none }) rfl (fun K' hK => ?_) ?_
    · go_simp
      refine (X3.out _).mono ?_
      rintro e x2 ⟨rfl, hb⟩
      have Hx_2 := Lib.hid (keptW hb Hx_1.out)
      have Hz_2 := Lib.hid (keptW hb Hz_1.out)
      have Hu_2 := Lib.hid (keptW hb Hu_1.out)
      have Hv_2 := Lib.hid (keptW hb Hv_1.out)
      have HL_2 := Lib.hid (HL_1.out.trans (hb.mono HL_1.out.size))
      clear hb
      refine hK.out _ _ ⟨Hx_2.out, Hz_2.out⟩ (fun hHeld2 => ?_)
      clear hK K'
      try simp only [Act.put, List.setIfInBounds_toArray, List.set_cons_zero, List.set_cons_succ]
      refine wpAnyH_take (i := 7) (oi := { dst := some 247, op := Op.move (Operand.tmp 254), type := 31, pos := "law.go:195", after := #[{ on := 6, ground := Ground.data }], guard := none }) (v := ?tk28) rfl (by kernel_rfl) (by kernel_rfl) (by kernel_rfl) (fun _ _ _ h => h) (Or.inl ⟨by rfl, ?tw28⟩) hHeld2 ?_
      case tw28 => (intro W hW; clear hW; first | (go_simp; done) | (go_simp; with_reducible rfl))
      try simp only [Act.put, List.setIfInBounds_toArray, List.set_cons_zero, List.set_cons_succ]
      refine wpAnyH_take (i := 8) (oi := { dst := some 255, op := Op.extract (Operand.tmp 247) 0, type := 28, pos := "law.go:195", after := #[{ on := 7, ground := Ground.data }], guard := none }) (v := ?tk29) rfl (by kernel_rfl) (by kernel_rfl) (by kernel_rfl) (fun _ _ _ h => h) (Or.inl ⟨by rfl, ?tw29⟩) hHeld2 ?_
      case tw29 => (intro W hW; clear hW; first | (go_simp; done) | (go_simp; with_reducible rfl))
      try simp only [Act.put, List.setIfInBounds_toArray, List.set_cons_zero, List.set_cons_succ]
      refine wpAnyH_take (i := 9) (oi := { dst := some 256, op := Op.extract (Operand.tmp 247) 1, type := 30, pos := "law.go:195", after := #[{ on := 7, ground := Ground.data }, { on := 11, ground := Ground.gcOnly Departure.lateStores }], guard := none }) (v := ?tk30) rfl (by kernel_rfl) (by kernel_rfl) (by kernel_rfl) (fun _ _ _ h => h) (Or.inl ⟨by rfl, ?tw30⟩) hHeld2 ?_
      case tw30 => (intro W hW; clear hW; first | (go_simp; done) | (go_simp; with_reducible rfl))
      try simp only [Act.put, List.setIfInBounds_toArray, List.set_cons_zero, List.set_cons_succ]
      refine wpAnyH_ready (rs := [10]) (by kernel_rfl) (by simp) ?_
      refine AllReadyH.cons (o := { dst := some 43, op := Op.alloc 28, type := 0, pos := "law.go:195", after := #[], guard := none }) rfl (fun K' hK => ?_) AllReadyH.nil
      go_simp
      obtain ⟨x3, hx3⟩ : ∃ X, x2.alloc (.cells (natA 0) 28) = X := ⟨_, rfl⟩
      have hb : Below x2.heap.size x2 x3 := by rw [← hx3]; exact (Below.refl _ _).alloc (Nat.le_refl _) _
      have Hx_3 := Lib.hid (keptW hb Hx_2.out)
      have Hz_3 := Lib.hid (keptW hb Hz_2.out)
      have Hu_3 := Lib.hid (keptW hb Hu_2.out)
      have Hv_3 := Lib.hid (keptW hb Hv_2.out)
      have HL_3 := Lib.hid (HL_2.out.trans (hb.mono HL_2.out.size))
      have hnew : rowN x3 x2.heap.size = some (natA 0) := by rw [← hx3, rowN_alloc, if_pos rfl]
      have hge : w.heap.size ≤ x2.heap.size := HL_2.out.size
      have hlx := rowN_lt Hx_2.out
      have hlz := rowN_lt Hz_2.out
      have hlu := rowN_lt Hu_2.out
      have hlv := rowN_lt Hv_2.out
      rw [hx3]
      obtain ⟨gnew, hgnew⟩ : ∃ g, x2.heap.size = g := ⟨_, rfl⟩
      rw [hgnew] at hnew hge hlx hlz hlu hlv ⊢
      have Hnew_3 := Lib.hid hnew
      clear hb hnew hgnew hx3
      refine hK.out _ _ ⟨Hx_3.out, Hz_3.out⟩ (fun hHeld3 => ?_)
      clear hK K'
      try simp only [Act.put, List.setIfInBounds_toArray, List.set_cons_zero, List.set_cons_succ]
      refine wpAnyH_ready (rs := [11]) (by kernel_rfl) (by simp) ?_
      refine AllReadyH.cons (o := { dst := none, op := Op.store 28 (Operand.tmp 43) (Operand.tmp 255), type := 0, pos := "law.go:195", after := #[{ on := 10, ground := Ground.data }, { on := 8, ground := Ground.data }, { on := 6, ground := Ground.chain }, { on := 0, ground := Ground.phase }, { on := 1, ground := Ground.phase }, { on := 2, ground := Ground.phase }, { on := 3, ground := Ground.phase }, { on := 4, ground := Ground.phase }, { on := 5, ground := Ground.phase }, { on := 6, ground := Ground.phase }, { on := 7, ground := Ground.phase }, { on := 8, ground := Ground.phase }, { on := 9, ground := Ground.textOnly Departure.lateStores }, { on := 10, ground := Ground.phase }], guard := none }) rfl (fun K' hK => ?_) AllReadyH.nil
      have hrow := Hnew_3.out
      go_simp
      obtain ⟨x4, hx4⟩ : ∃ X, x3.setRow gnew (natA B) = X := ⟨_, rfl⟩
      rw [hx4]
      have Hx_4 := Lib.hid (show rowN x4 gx = some (natA x) by rw [← hx4, rowN_setRow, if_neg (by omega)]; exact Hx_3.out)
      have Hz_4 := Lib.hid (show rowN x4 gz = some (natA m) by rw [← hx4, rowN_setRow, if_neg (by omega)]; exact Hz_3.out)
      have Hu_4 := Lib.hid (show rowN x4 gu = some (natA U) by rw [← hx4, rowN_setRow, if_neg (by omega)]; exact Hu_3.out)
      have Hv_4 := Lib.hid (show rowN x4 gv = some (natA V) by rw [← hx4, rowN_setRow, if_neg (by omega)]; exact Hv_3.out)
      have Hnew_4 := Lib.hid (show rowN x4 gnew = some (natA B) by rw [← hx4, rowN_setRow, if_pos rfl, hrow]; rfl)
      have hbl : Below w.heap.size w x4 := by rw [← hx4]; exact below_setRow' HL_3.out hge _
      have HL_4 := Lib.hid hbl
      clear hrow hbl hx4
      refine hK.out _ _ ⟨Hx_4.out, Hz_4.out⟩ (fun hHeld4 => ?_)
      clear hK K'
      try simp only [Act.put, List.setIfInBounds_toArray, List.set_cons_zero, List.set_cons_succ]
      refine wpAnyH_take (i := 12) (oi := { dst := some 44, op := Op.assign (Operand.tmp 256), type := 30, pos := "law.go:195", after := #[{ on := 9, ground := Ground.data }, { on := 11, ground := Ground.chain }, { on := 0, ground := Ground.phase }, { on := 1, ground := Ground.phase }, { on := 2, ground := Ground.phase }, { on := 3, ground := Ground.phase }, { on := 4, ground := Ground.phase }, { on := 5, ground := Ground.phase }, { on := 6, ground := Ground.phase }, { on := 7, ground := Ground.phase }, { on := 8, ground := Ground.phase }, { on := 9, ground := Ground.phase }, { on := 10, ground := Ground.phase }, { on := 11, ground := Ground.phase }], guard := none }) (v := ?tk31) rfl (by kernel_rfl) (by kernel_rfl) (by kernel_rfl) (fun _ _ _ h => h) (Or.inl ⟨by rfl, ?tw31⟩) hHeld4 ?_
      case tw31 => (intro W hW; clear hW; first | (go_simp; done) | (go_simp; with_reducible rfl))
      try simp only [Act.put, List.setIfInBounds_toArray, List.set_cons_zero, List.set_cons_succ]
      refine wpAnyH_done (by kernel_rfl) ?_ _
      refine NoPanic.normal ?_
      exact HQ.out gnew _ _ _ _ _ _ _ _ _ _ _ Hnew_4.out Hx_4.out Hz_4.out Hu_4.out Hv_4.out HL_4.out
    refine AllReadyH.cons (o := { dst := some 43, op := Op.alloc 28, type := 0, pos := "law.go:195", after := #[], guard := none }) rfl (fun K' hK => ?_) AllReadyH.nil
    go_simp
    obtain ⟨x2, hx2⟩ : ∃ X, x1.alloc (.cells (natA 0) 28) = X := ⟨_, rfl⟩
    have hb : Below x1.heap.size x1 x2 := by rw [← hx2]; exact (Below.refl _ _).alloc (Nat.le_refl _) _
    have Hx_2 := Lib.hid (keptW hb Hx_1.out)
    have Hz_2 := Lib.hid (keptW hb Hz_1.out)
    have Hu_2 := Lib.hid (keptW hb Hu_1.out)
    have Hv_2 := Lib.hid (keptW hb Hv_1.out)
    have HL_2 := Lib.hid (HL_1.out.trans (hb.mono HL_1.out.size))
    have hnew : rowN x2 x1.heap.size = some (natA 0) := by rw [← hx2, rowN_alloc, if_pos rfl]
    have hge : w.heap.size ≤ x1.heap.size := HL_1.out.size
    have hlx := rowN_lt Hx_1.out
    have hlz := rowN_lt Hz_1.out
    have hlu := rowN_lt Hu_1.out
    have hlv := rowN_lt Hv_1.out
    rw [hx2]
    obtain ⟨gnew, hgnew⟩ : ∃ g, x1.heap.size = g := ⟨_, rfl⟩
    rw [hgnew] at hnew hge hlx hlz hlu hlv ⊢
    have Hnew_2 := Lib.hid hnew
    clear hb hnew hgnew hx2
    refine hK.out _ _ ⟨Hx_2.out, Hz_2.out⟩ (fun hHeld2 => ?_)
    clear hK K'
    try simp only [Act.put, List.setIfInBounds_toArray, List.set_cons_zero, List.set_cons_succ]
    refine wpAnyH_ready (rs := [6]) (by kernel_rfl) (by simp) ?_
    refine AllReadyH.cons (o := { dst := some 254, op := Op.call { callee := Callee.value (Operand.func 23), args := #[Operand.tmp 248, Operand.tmp 252, Operand.tmp 253], argTypes := #[28, 28, 28] }, type := 31, pos := "law.go:195", after := #[{ on := 0, ground := Ground.data }, { on := 4, ground := Ground.data }, { on := 5, ground := Ground.data }, { on := 4, ground := Ground.chain }], guard := none }) rfl (fun K' hK => ?_) AllReadyH.nil
    go_simp
    refine (X3.out _).mono ?_
    rintro e x3 ⟨rfl, hb⟩
    have Hx_3 := Lib.hid (keptW hb Hx_2.out)
    have Hz_3 := Lib.hid (keptW hb Hz_2.out)
    have Hu_3 := Lib.hid (keptW hb Hu_2.out)
    have Hv_3 := Lib.hid (keptW hb Hv_2.out)
    have Hnew_3 := Lib.hid (keptW hb Hnew_2.out)
    have HL_3 := Lib.hid (HL_2.out.trans (hb.mono HL_2.out.size))
    clear hb
    refine hK.out _ _ ⟨Hx_3.out, Hz_3.out⟩ (fun hHeld3 => ?_)
    clear hK K'
    try simp only [Act.put, List.setIfInBounds_toArray, List.set_cons_zero, List.set_cons_succ]
    refine wpAnyH_take (i := 7) (oi := { dst := some 247, op := Op.move (Operand.tmp 254), type := 31, pos := "law.go:195", after := #[{ on := 6, ground := Ground.data }], guard := none }) (v := ?tk32) rfl (by kernel_rfl) (by kernel_rfl) (by kernel_rfl) (fun _ _ _ h => h) (Or.inl ⟨by rfl, ?tw32⟩) hHeld3 ?_
    case tw32 => (intro W hW; clear hW; first | (go_simp; done) | (go_simp; with_reducible rfl))
    try simp only [Act.put, List.setIfInBounds_toArray, List.set_cons_zero, List.set_cons_succ]
    refine wpAnyH_take (i := 8) (oi := { dst := some 255, op := Op.extract (Operand.tmp 247) 0, type := 28, pos := "law.go:195", after := #[{ on := 7, ground := Ground.data }], guard := none }) (v := ?tk33) rfl (by kernel_rfl) (by kernel_rfl) (by kernel_rfl) (fun _ _ _ h => h) (Or.inl ⟨by rfl, ?tw33⟩) hHeld3 ?_
    case tw33 => (intro W hW; clear hW; first | (go_simp; done) | (go_simp; with_reducible rfl))
    try simp only [Act.put, List.setIfInBounds_toArray, List.set_cons_zero, List.set_cons_succ]
    refine wpAnyH_take (i := 9) (oi := { dst := some 256, op := Op.extract (Operand.tmp 247) 1, type := 30, pos := "law.go:195", after := #[{ on := 7, ground := Ground.data }, { on := 11, ground := Ground.gcOnly Departure.lateStores }], guard := none }) (v := ?tk34) rfl (by kernel_rfl) (by kernel_rfl) (by kernel_rfl) (fun _ _ _ h => h) (Or.inl ⟨by rfl, ?tw34⟩) hHeld3 ?_
    case tw34 => (intro W hW; clear hW; first | (go_simp; done) | (go_simp; with_reducible rfl))
    try simp only [Act.put, List.setIfInBounds_toArray, List.set_cons_zero, List.set_cons_succ]
    refine wpAnyH_ready (rs := [11]) (by kernel_rfl) (by simp) ?_
    refine AllReadyH.cons (o := { dst := none, op := Op.store 28 (Operand.tmp 43) (Operand.tmp 255), type := 0, pos := "law.go:195", after := #[{ on := 10, ground := Ground.data }, { on := 8, ground := Ground.data }, { on := 6, ground := Ground.chain }, { on := 0, ground := Ground.phase }, { on := 1, ground := Ground.phase }, { on := 2, ground := Ground.phase }, { on := 3, ground := Ground.phase }, { on := 4, ground := Ground.phase }, { on := 5, ground := Ground.phase }, { on := 6, ground := Ground.phase }, { on := 7, ground := Ground.phase }, { on := 8, ground := Ground.phase }, { on := 9, ground := Ground.textOnly Departure.lateStores }, { on := 10, ground := Ground.phase }], guard := none }) rfl (fun K' hK => ?_) AllReadyH.nil
    have hrow := Hnew_3.out
    go_simp
    obtain ⟨x4, hx4⟩ : ∃ X, x3.setRow gnew (natA B) = X := ⟨_, rfl⟩
    rw [hx4]
    have Hx_4 := Lib.hid (show rowN x4 gx = some (natA x) by rw [← hx4, rowN_setRow, if_neg (by omega)]; exact Hx_3.out)
    have Hz_4 := Lib.hid (show rowN x4 gz = some (natA m) by rw [← hx4, rowN_setRow, if_neg (by omega)]; exact Hz_3.out)
    have Hu_4 := Lib.hid (show rowN x4 gu = some (natA U) by rw [← hx4, rowN_setRow, if_neg (by omega)]; exact Hu_3.out)
    have Hv_4 := Lib.hid (show rowN x4 gv = some (natA V) by rw [← hx4, rowN_setRow, if_neg (by omega)]; exact Hv_3.out)
    have Hnew_4 := Lib.hid (show rowN x4 gnew = some (natA B) by rw [← hx4, rowN_setRow, if_pos rfl, hrow]; rfl)
    have hbl : Below w.heap.size w x4 := by rw [← hx4]; exact below_setRow' HL_3.out hge _
    have HL_4 := Lib.hid hbl
    clear hrow hbl hx4
    refine hK.out _ _ ⟨Hx_4.out, Hz_4.out⟩ (fun hHeld4 => ?_)
    clear hK K'
    try simp only [Act.put, List.setIfInBounds_toArray, List.set_cons_zero, List.set_cons_succ]
    refine wpAnyH_take (i := 12) (oi := { dst := some 44, op := Op.assign (Operand.tmp 256), type := 30, pos := "law.go:195", after := #[{ on := 9, ground := Ground.data }, { on := 11, ground := Ground.chain }, { on := 0, ground := Ground.phase }, { on := 1, ground := Ground.phase }, { on := 2, ground := Ground.phase }, { on := 3, ground := Ground.phase }, { on := 4, ground := Ground.phase }, { on := 5, ground := Ground.phase }, { on := 6, ground := Ground.phase }, { on := 7, ground := Ground.phase }, { on := 8, ground := Ground.phase }, { on := 9, ground := Ground.phase }, { on := 10, ground := Ground.phase }, { on := 11, ground := Ground.phase }], guard := none }) (v := ?tk35) rfl (by kernel_rfl) (by kernel_rfl) (by kernel_rfl) (fun _ _ _ h => h) (Or.inl ⟨by rfl, ?tw35⟩) hHeld4 ?_
    case tw35 => (intro W hW; clear hW; first | (go_simp; done) | (go_simp; with_reducible rfl))
    try simp only [Act.put, List.setIfInBounds_toArray, List.set_cons_zero, List.set_cons_succ]
    refine wpAnyH_done (by kernel_rfl) ?_ _
    refine NoPanic.normal ?_
    exact HQ.out gnew _ _ _ _ _ _ _ _ _ _ _ Hnew_4.out Hx_4.out Hz_4.out Hu_4.out Hv_4.out HL_4.out
  refine AllReadyH.cons (o := { dst := some 43, op := Op.alloc 28, type := 0, pos := "law.go:195", after := #[], guard := none }) rfl (fun K' hK => ?_) AllReadyH.nil
  go_simp
  obtain ⟨x1, hx1⟩ : ∃ X, x0.alloc (.cells (natA 0) 28) = X := ⟨_, rfl⟩
  have hb : Below x0.heap.size x0 x1 := by rw [← hx1]; exact (Below.refl _ _).alloc (Nat.le_refl _) _
  have Hx_1 := Lib.hid (keptW hb Hx_0.out)
  have Hz_1 := Lib.hid (keptW hb Hz_0.out)
  have Hu_1 := Lib.hid (keptW hb Hu_0.out)
  have Hv_1 := Lib.hid (keptW hb Hv_0.out)
  have HL_1 := Lib.hid (HL_0.out.trans (hb.mono HL_0.out.size))
  have hnew : rowN x1 x0.heap.size = some (natA 0) := by rw [← hx1, rowN_alloc, if_pos rfl]
  have hge : w.heap.size ≤ x0.heap.size := HL_0.out.size
  have hlx := rowN_lt Hx_0.out
  have hlz := rowN_lt Hz_0.out
  have hlu := rowN_lt Hu_0.out
  have hlv := rowN_lt Hv_0.out
  rw [hx1]
  obtain ⟨gnew, hgnew⟩ : ∃ g, x0.heap.size = g := ⟨_, rfl⟩
  rw [hgnew] at hnew hge hlx hlz hlu hlv ⊢
  have Hnew_1 := Lib.hid hnew
  clear hb hnew hgnew hx1
  refine hK.out _ _ ⟨Hx_1.out, Hz_1.out⟩ (fun hHeld1 => ?_)
  clear hK K'
  try simp only [Act.put, List.setIfInBounds_toArray, List.set_cons_zero, List.set_cons_succ]
  refine wpAnyH_ready (rs := [4]) (by kernel_rfl) (by simp) ?_
  refine AllReadyH.cons (o := { dst := some 252, op := Op.call { callee := Callee.value (Operand.func 31), args := #[Operand.tmp 251], argTypes := #[3] }, type := 28, pos := "law.go:195", after := #[{ on := 3, ground := Ground.data }], guard := none }) rfl (fun K' hK => ?_) AllReadyH.nil
  go_simp
  refine (N3.out _).mono ?_
  rintro e x2 ⟨rfl, hb⟩
  have Hx_2 := Lib.hid (keptW hb Hx_1.out)
  have Hz_2 := Lib.hid (keptW hb Hz_1.out)
  have Hu_2 := Lib.hid (keptW hb Hu_1.out)
  have Hv_2 := Lib.hid (keptW hb Hv_1.out)
  have Hnew_2 := Lib.hid (keptW hb Hnew_1.out)
  have HL_2 := Lib.hid (HL_1.out.trans (hb.mono HL_1.out.size))
  clear hb
  refine hK.out _ _ ⟨Hx_2.out, Hz_2.out⟩ (fun hHeld2 => ?_)
  clear hK K'
  try simp only [Act.put, List.setIfInBounds_toArray, List.set_cons_zero, List.set_cons_succ]
  refine wpAnyH_ready (rs := [6]) (by kernel_rfl) (by simp) ?_
  refine AllReadyH.cons (o := { dst := some 254, op := Op.call { callee := Callee.value (Operand.func 23), args := #[Operand.tmp 248, Operand.tmp 252, Operand.tmp 253], argTypes := #[28, 28, 28] }, type := 31, pos := "law.go:195", after := #[{ on := 0, ground := Ground.data }, { on := 4, ground := Ground.data }, { on := 5, ground := Ground.data }, { on := 4, ground := Ground.chain }], guard := none }) rfl (fun K' hK => ?_) AllReadyH.nil
  go_simp
  refine (X3.out _).mono ?_
  rintro e x3 ⟨rfl, hb⟩
  have Hx_3 := Lib.hid (keptW hb Hx_2.out)
  have Hz_3 := Lib.hid (keptW hb Hz_2.out)
  have Hu_3 := Lib.hid (keptW hb Hu_2.out)
  have Hv_3 := Lib.hid (keptW hb Hv_2.out)
  have Hnew_3 := Lib.hid (keptW hb Hnew_2.out)
  have HL_3 := Lib.hid (HL_2.out.trans (hb.mono HL_2.out.size))
  clear hb
  refine hK.out _ _ ⟨Hx_3.out, Hz_3.out⟩ (fun hHeld3 => ?_)
  clear hK K'
  try simp only [Act.put, List.setIfInBounds_toArray, List.set_cons_zero, List.set_cons_succ]
  refine wpAnyH_take (i := 7) (oi := { dst := some 247, op := Op.move (Operand.tmp 254), type := 31, pos := "law.go:195", after := #[{ on := 6, ground := Ground.data }], guard := none }) (v := ?tk36) rfl (by kernel_rfl) (by kernel_rfl) (by kernel_rfl) (fun _ _ _ h => h) (Or.inl ⟨by rfl, ?tw36⟩) hHeld3 ?_
  case tw36 => (intro W hW; clear hW; first | (go_simp; done) | (go_simp; with_reducible rfl))
  try simp only [Act.put, List.setIfInBounds_toArray, List.set_cons_zero, List.set_cons_succ]
  refine wpAnyH_take (i := 8) (oi := { dst := some 255, op := Op.extract (Operand.tmp 247) 0, type := 28, pos := "law.go:195", after := #[{ on := 7, ground := Ground.data }], guard := none }) (v := ?tk37) rfl (by kernel_rfl) (by kernel_rfl) (by kernel_rfl) (fun _ _ _ h => h) (Or.inl ⟨by rfl, ?tw37⟩) hHeld3 ?_
  case tw37 => (intro W hW; clear hW; first | (go_simp; done) | (go_simp; with_reducible rfl))
  try simp only [Act.put, List.setIfInBounds_toArray, List.set_cons_zero, List.set_cons_succ]
  refine wpAnyH_take (i := 9) (oi := { dst := some 256, op := Op.extract (Operand.tmp 247) 1, type := 30, pos := "law.go:195", after := #[{ on := 7, ground := Ground.data }, { on := 11, ground := Ground.gcOnly Departure.lateStores }], guard := none }) (v := ?tk38) rfl (by kernel_rfl) (by kernel_rfl) (by kernel_rfl) (fun _ _ _ h => h) (Or.inl ⟨by rfl, ?tw38⟩) hHeld3 ?_
  case tw38 => (intro W hW; clear hW; first | (go_simp; done) | (go_simp; with_reducible rfl))
  try simp only [Act.put, List.setIfInBounds_toArray, List.set_cons_zero, List.set_cons_succ]
  refine wpAnyH_ready (rs := [11]) (by kernel_rfl) (by simp) ?_
  refine AllReadyH.cons (o := { dst := none, op := Op.store 28 (Operand.tmp 43) (Operand.tmp 255), type := 0, pos := "law.go:195", after := #[{ on := 10, ground := Ground.data }, { on := 8, ground := Ground.data }, { on := 6, ground := Ground.chain }, { on := 0, ground := Ground.phase }, { on := 1, ground := Ground.phase }, { on := 2, ground := Ground.phase }, { on := 3, ground := Ground.phase }, { on := 4, ground := Ground.phase }, { on := 5, ground := Ground.phase }, { on := 6, ground := Ground.phase }, { on := 7, ground := Ground.phase }, { on := 8, ground := Ground.phase }, { on := 9, ground := Ground.textOnly Departure.lateStores }, { on := 10, ground := Ground.phase }], guard := none }) rfl (fun K' hK => ?_) AllReadyH.nil
  have hrow := Hnew_3.out
  go_simp
  obtain ⟨x4, hx4⟩ : ∃ X, x3.setRow gnew (natA B) = X := ⟨_, rfl⟩
  rw [hx4]
  have Hx_4 := Lib.hid (show rowN x4 gx = some (natA x) by rw [← hx4, rowN_setRow, if_neg (by omega)]; exact Hx_3.out)
  have Hz_4 := Lib.hid (show rowN x4 gz = some (natA m) by rw [← hx4, rowN_setRow, if_neg (by omega)]; exact Hz_3.out)
  have Hu_4 := Lib.hid (show rowN x4 gu = some (natA U) by rw [← hx4, rowN_setRow, if_neg (by omega)]; exact Hu_3.out)
  have Hv_4 := Lib.hid (show rowN x4 gv = some (natA V) by rw [← hx4, rowN_setRow, if_neg (by omega)]; exact Hv_3.out)
  have Hnew_4 := Lib.hid (show rowN x4 gnew = some (natA B) by rw [← hx4, rowN_setRow, if_pos rfl, hrow]; rfl)
  have hbl : Below w.heap.size w x4 := by rw [← hx4]; exact below_setRow' HL_3.out hge _
  have HL_4 := Lib.hid hbl
  clear hrow hbl hx4
  refine hK.out _ _ ⟨Hx_4.out, Hz_4.out⟩ (fun hHeld4 => ?_)
  clear hK K'
  try simp only [Act.put, List.setIfInBounds_toArray, List.set_cons_zero, List.set_cons_succ]
  refine wpAnyH_take (i := 12) (oi := { dst := some 44, op := Op.assign (Operand.tmp 256), type := 30, pos := "law.go:195", after := #[{ on := 9, ground := Ground.data }, { on := 11, ground := Ground.chain }, { on := 0, ground := Ground.phase }, { on := 1, ground := Ground.phase }, { on := 2, ground := Ground.phase }, { on := 3, ground := Ground.phase }, { on := 4, ground := Ground.phase }, { on := 5, ground := Ground.phase }, { on := 6, ground := Ground.phase }, { on := 7, ground := Ground.phase }, { on := 8, ground := Ground.phase }, { on := 9, ground := Ground.phase }, { on := 10, ground := Ground.phase }, { on := 11, ground := Ground.phase }], guard := none }) (v := ?tk39) rfl (by kernel_rfl) (by kernel_rfl) (by kernel_rfl) (fun _ _ _ h => h) (Or.inl ⟨by rfl, ?tw39⟩) hHeld4 ?_
  case tw39 => (intro W hW; clear hW; first | (go_simp; done) | (go_simp; with_reducible rfl))
  try simp only [Act.put, List.setIfInBounds_toArray, List.set_cons_zero, List.set_cons_succ]
  refine wpAnyH_done (by kernel_rfl) ?_ _
  refine NoPanic.normal ?_
  exact HQ.out gnew _ _ _ _ _ _ _ _ _ _ _ Hnew_4.out Hx_4.out Hz_4.out Hu_4.out Hv_4.out HL_4.out

set_option maxRecDepth 100000 in
set_option maxHeartbeats 4000000 in
theorem mh_walk (zs ys xs ms : List Nat) (n0 n1 n2 n3 : Nat) (a0 a1 a2 a3 : Option Addr) (c0 c1 c2 c3 : Nat) (p q : Nat) (x y c m S L P Q R T D E U V B : Nat) (w : World)
    (h0 : n0 ≤ 24) (h1 : n1 ≤ 24) (h2 : n2 ≤ 24) (h3 : n3 ≤ 24) (hp : p ≤ 1048576) (hq : q ≤ 1048576)
    (HBM : Go.RowKit.Hid (BytesAt ms (.slice a3 n3 c3) w))
    (HBX : Go.RowKit.Hid (BytesAt zs (.slice a0 n0 c0) w))
    (HBY : Go.RowKit.Hid (BytesAt ys (.slice a1 n1 c1) w))
    (HBC : Go.RowKit.Hid (BytesAt xs (.slice a2 n2 c2) w))
    (HFM : Go.RowKit.Hid (∀ W : World, BytesAt ms (.slice a3 n3 c3) W → Calls Try.prog 11 #[(.slice a3 n3 c3)] W fun e w' => e = .returned (.agg (natA m)) ∧ Below W.heap.size W w'))
    (HFX : Go.RowKit.Hid (∀ W : World, BytesAt zs (.slice a0 n0 c0) W → Calls Try.prog 11 #[(.slice a0 n0 c0)] W fun e w' => e = .returned (.agg (natA x)) ∧ Below W.heap.size W w'))
    (HFY : Go.RowKit.Hid (∀ W : World, BytesAt ys (.slice a1 n1 c1) W → Calls Try.prog 11 #[(.slice a1 n1 c1)] W fun e w' => e = .returned (.agg (natA y)) ∧ Below W.heap.size W w'))
    (HFC : Go.RowKit.Hid (∀ W : World, BytesAt xs (.slice a2 n2 c2) W → Calls Try.prog 11 #[(.slice a2 n2 c2)] W fun e w' => e = .returned (.agg (natA c)) ∧ Below W.heap.size W w'))
    (IZ : Go.RowKit.Hid (∀ W : World, Calls Try.prog 16 #[.agg (natA m)] W fun e w' => e = .returned (.bool false) ∧ Below W.heap.size W w'))
    (A1 : Go.RowKit.Hid (∀ W : World, Calls Try.prog 13 #[.agg (natA x), .agg (natA y), .agg (natA m)] W fun e w' => e = .returned (.tuple #[.agg (natA S), .int .i64 0]) ∧ Below W.heap.size W w'))
    (M1 : Go.RowKit.Hid (∀ W : World, Calls Try.prog 21 #[.agg (natA c), .agg (natA S), .agg (natA m)] W fun e w' => e = .returned (.tuple #[.agg (natA L), .int .i64 0]) ∧ Below W.heap.size W w'))
    (M2 : Go.RowKit.Hid (∀ W : World, Calls Try.prog 21 #[.agg (natA c), .agg (natA x), .agg (natA m)] W fun e w' => e = .returned (.tuple #[.agg (natA P), .int .i64 0]) ∧ Below W.heap.size W w'))
    (M3 : Go.RowKit.Hid (∀ W : World, Calls Try.prog 21 #[.agg (natA c), .agg (natA y), .agg (natA m)] W fun e w' => e = .returned (.tuple #[.agg (natA Q), .int .i64 0]) ∧ Below W.heap.size W w'))
    (A2 : Go.RowKit.Hid (∀ W : World, Calls Try.prog 13 #[.agg (natA P), .agg (natA Q), .agg (natA m)] W fun e w' => e = .returned (.tuple #[.agg (natA L), .int .i64 0]) ∧ Below W.heap.size W w'))
    (M4 : Go.RowKit.Hid (∀ W : World, Calls Try.prog 21 #[.agg (natA P), .agg (natA y), .agg (natA m)] W fun e w' => e = .returned (.tuple #[.agg (natA R), .int .i64 0]) ∧ Below W.heap.size W w'))
    (M5 : Go.RowKit.Hid (∀ W : World, Calls Try.prog 21 #[.agg (natA x), .agg (natA y), .agg (natA m)] W fun e w' => e = .returned (.tuple #[.agg (natA T), .int .i64 0]) ∧ Below W.heap.size W w'))
    (M6 : Go.RowKit.Hid (∀ W : World, Calls Try.prog 21 #[.agg (natA c), .agg (natA T), .agg (natA m)] W fun e w' => e = .returned (.tuple #[.agg (natA R), .int .i64 0]) ∧ Below W.heap.size W w'))
    (S1 : Go.RowKit.Hid (∀ W : World, Calls Try.prog 14 #[.agg (natA x), .agg (natA y), .agg (natA m)] W fun e w' => e = .returned (.tuple #[.agg (natA D), .int .i64 0]) ∧ Below W.heap.size W w'))
    (A3 : Go.RowKit.Hid (∀ W : World, Calls Try.prog 13 #[.agg (natA D), .agg (natA y), .agg (natA m)] W fun e w' => e = .returned (.tuple #[.agg (natA E), .int .i64 0]) ∧ Below W.heap.size W w'))
    (RD : Go.RowKit.Hid (∀ W : World, Calls Try.prog 12 #[.agg (natA x), .agg (natA m)] W fun e w' => e = .returned (.tuple #[.agg (natA E), .int .i64 0]) ∧ Below W.heap.size W w'))
    (CM : Go.RowKit.Hid (∀ W : World, Calls Try.prog 30 #[.agg (natA E), .agg (natA m)] W fun e w' => e = .returned (.int .i64 (-1)) ∧ Below W.heap.size W w'))
    (N1 : Go.RowKit.Hid (∀ W : World, Calls Try.prog 31 #[.int .i64 (p : Nat)] W fun e w' => e = .returned (.agg (natA p)) ∧ Below W.heap.size W w'))
    (N2 : Go.RowKit.Hid (∀ W : World, Calls Try.prog 31 #[.int .i64 (q : Nat)] W fun e w' => e = .returned (.agg (natA q)) ∧ Below W.heap.size W w'))
    (N3 : Go.RowKit.Hid (∀ W : World, Calls Try.prog 31 #[.int .i64 ((p : Nat) + (q : Nat))] W fun e w' => e = .returned (.agg (natA (p + q))) ∧ Below W.heap.size W w'))
    (X1 : Go.RowKit.Hid (∀ W : World, Calls Try.prog 23 #[.agg (natA x), .agg (natA p), .agg (natA m)] W fun e w' => e = .returned (.tuple #[.agg (natA U), .int .i64 0]) ∧ Below W.heap.size W w'))
    (X2 : Go.RowKit.Hid (∀ W : World, Calls Try.prog 23 #[.agg (natA E), .agg (natA q), .agg (natA m)] W fun e w' => e = .returned (.tuple #[.agg (natA V), .int .i64 0]) ∧ Below W.heap.size W w'))
    (X3 : Go.RowKit.Hid (∀ W : World, Calls Try.prog 23 #[.agg (natA x), .agg (natA (p + q)), .agg (natA m)] W fun e w' => e = .returned (.tuple #[.agg (natA B), .int .i64 0]) ∧ Below W.heap.size W w'))
    (M7 : Go.RowKit.Hid (∀ W : World, Calls Try.prog 21 #[.agg (natA U), .agg (natA V), .agg (natA m)] W fun e w' => e = .returned (.tuple #[.agg (natA B), .int .i64 0]) ∧ Below W.heap.size W w'))
    (NL : natEq L L = true) (NR : natEq R R = true) (NE : natEq E E = true) (NB : natEq B B = true) :
    Calls Try.prog 8 #[.slice a0 n0 c0, .slice a1 n1 c1, .slice a2 n2 c2, .slice a3 n3 c3, .int .i64 (p : Nat), .int .i64 (q : Nat)] w fun e w' => e = .returned (.bool true) ∧ Below w.heap.size w w' := by
  have f0 : decide ((24 : Int) < ((n0 : Nat) : Int)) = false := decide_eq_false (by omega)
  have f1 : decide ((24 : Int) < ((n1 : Nat) : Int)) = false := decide_eq_false (by omega)
  have f2 : decide ((24 : Int) < ((n2 : Nat) : Int)) = false := decide_eq_false (by omega)
  have f3 : decide ((24 : Int) < ((n3 : Nat) : Int)) = false := decide_eq_false (by omega)
  have f4 : decide (((p : Nat) : Int) < 0) = false := decide_eq_false (by omega)
  have f5 : decide (((q : Nat) : Int) < 0) = false := decide_eq_false (by omega)
  have f6 : decide ((1048576 : Int) < ((p : Nat) : Int)) = false := decide_eq_false (by omega)
  have f7 : decide ((1048576 : Int) < ((q : Nat) : Int)) = false := decide_eq_false (by omega)
  go_enter Try.func8, Try.ntmps8
  go_wp2_with fail
  refine (HFM.out _ HBM.out).mono ?_
  rintro e w1 ⟨rfl, hb⟩
  replace HBX := Lib.hid (HBX.out.kept hb)
  replace HBY := Lib.hid (HBY.out.kept hb)
  replace HBC := Lib.hid (HBC.out.kept hb)
  have HB := Lib.hid hb
  clear hb
  have R_z := Lib.hid (row_st0 w1 m)
  replace HB := Lib.hid (HB.out.trans ((bel_st0 w1 m).mono HB.out.size))
  replace HBX := Lib.hid (HBX.out.kept (bel_st0 w1 m))
  replace HBY := Lib.hid (HBY.out.kept (bel_st0 w1 m))
  replace HBC := Lib.hid (HBC.out.kept (bel_st0 w1 m))
  go_wp2_with fail
  obtain ⟨W1, hW⟩ : ∃ W, (w1.alloc (.cells (natA 0) 28)).setRow w1.heap.size (natA m) = W := ⟨_, rfl⟩
  rw [hW] at HB R_z HBX HBY HBC ⊢
  obtain ⟨gz, hbn⟩ : ∃ b, w1.heap.size = b := ⟨_, rfl⟩
  rw [hbn] at R_z ⊢
  clear hW hbn w1
  refine (IZ.out _).mono ?_
  rintro e w2 ⟨rfl, hb⟩
  replace R_z := Lib.hid (keptW hb R_z.out)
  replace HBX := Lib.hid (HBX.out.kept hb)
  replace HBY := Lib.hid (HBY.out.kept hb)
  replace HBC := Lib.hid (HBC.out.kept hb)
  replace HB := Lib.hid (HB.out.trans (hb.mono HB.out.size))
  clear hb
  go_wp2_with fail
  refine (HFX.out _ HBX.out).mono ?_
  rintro e w3 ⟨rfl, hb⟩
  replace R_z := Lib.hid (keptW hb R_z.out)
  replace HBY := Lib.hid (HBY.out.kept hb)
  replace HBC := Lib.hid (HBC.out.kept hb)
  replace HB := Lib.hid (HB.out.trans (hb.mono HB.out.size))
  clear hb
  go_wp2_with fail
  refine (HFY.out _ HBY.out).mono ?_
  rintro e w4 ⟨rfl, hb⟩
  replace R_z := Lib.hid (keptW hb R_z.out)
  replace HBC := Lib.hid (HBC.out.kept hb)
  replace HB := Lib.hid (HB.out.trans (hb.mono HB.out.size))
  clear hb
  go_wp2_with fail
  refine (HFC.out _ HBC.out).mono ?_
  rintro e w5 ⟨rfl, hb⟩
  replace R_z := Lib.hid (keptW hb R_z.out)
  replace HB := Lib.hid (HB.out.trans (hb.mono HB.out.size))
  clear hb
  have q_z := R_z.out
  have l_z := rowN_lt q_z
  obtain ⟨hn1, hn2, hn3, hb⟩ := three_st0 w5 x y c
  replace R_z := Lib.hid (keptW hb R_z.out)
  replace HB := Lib.hid (HB.out.trans (hb.mono HB.out.size))
  have R_x := Lib.hid hn1
  have R_y := Lib.hid hn2
  have R_c := Lib.hid hn3
  clear hb hn1 hn2 hn3
  go_wp2_with fail
  clear q_z l_z
  obtain ⟨W5, hW⟩ : ∃ W, (((((w5.alloc (.cells (natA 0) 28)).alloc (.cells (natA 0) 28)).alloc (.cells (natA 0) 28)).setRow w5.heap.size (natA x)).setRow (w5.heap.size + 1) (natA y)).setRow (w5.heap.size + 1 + 1) (natA c) = W := ⟨_, rfl⟩
  rw [hW] at HB R_z R_x R_y R_c ⊢
  obtain ⟨gx, hbnx⟩ : ∃ b, w5.heap.size = b := ⟨_, rfl⟩
  obtain ⟨gy, hbny⟩ : ∃ b, w5.heap.size + 1 = b := ⟨_, rfl⟩
  obtain ⟨gc, hbnc⟩ : ∃ b, w5.heap.size + 1 + 1 = b := ⟨_, rfl⟩
  rw [hbnc] at R_c ⊢
  rw [hbny] at R_y ⊢
  rw [hbnx] at R_x ⊢
  clear hW hbnx hbny hbnc w5
  refine (A1.out _).mono ?_
  rintro e w6 ⟨rfl, hb⟩
  replace R_z := Lib.hid (keptW hb R_z.out)
  replace R_x := Lib.hid (keptW hb R_x.out)
  replace R_y := Lib.hid (keptW hb R_y.out)
  replace R_c := Lib.hid (keptW hb R_c.out)
  replace HB := Lib.hid (HB.out.trans (hb.mono HB.out.size))
  clear hb
  have q_c := R_c.out
  have l_c := rowN_lt q_c
  have q_z := R_z.out
  have l_z := rowN_lt q_z
  replace R_z := Lib.hid (row_st0_other w6 S _ _ R_z.out)
  replace R_x := Lib.hid (row_st0_other w6 S _ _ R_x.out)
  replace R_y := Lib.hid (row_st0_other w6 S _ _ R_y.out)
  replace R_c := Lib.hid (row_st0_other w6 S _ _ R_c.out)
  have R_s := Lib.hid (row_st0 w6 S)
  replace HB := Lib.hid (HB.out.trans ((bel_st0 w6 S).mono HB.out.size))
  go_wp2_with fail
  clear q_c l_c q_z l_z
  obtain ⟨W6, hW⟩ : ∃ W, (w6.alloc (.cells (natA 0) 28)).setRow w6.heap.size (natA S) = W := ⟨_, rfl⟩
  rw [hW] at HB R_z R_x R_y R_c R_s ⊢
  obtain ⟨gs, hbn⟩ : ∃ b, w6.heap.size = b := ⟨_, rfl⟩
  rw [hbn] at R_s ⊢
  clear hW hbn w6
  refine (M1.out _).mono ?_
  rintro e w7 ⟨rfl, hb⟩
  replace R_z := Lib.hid (keptW hb R_z.out)
  replace R_x := Lib.hid (keptW hb R_x.out)
  replace R_y := Lib.hid (keptW hb R_y.out)
  replace R_c := Lib.hid (keptW hb R_c.out)
  replace R_s := Lib.hid (keptW hb R_s.out)
  replace HB := Lib.hid (HB.out.trans (hb.mono HB.out.size))
  clear hb
  have q_c := R_c.out
  have l_c := rowN_lt q_c
  have q_x := R_x.out
  have l_x := rowN_lt q_x
  have q_z := R_z.out
  have l_z := rowN_lt q_z
  replace R_z := Lib.hid (row_st0_other w7 L _ _ R_z.out)
  replace R_x := Lib.hid (row_st0_other w7 L _ _ R_x.out)
  replace R_y := Lib.hid (row_st0_other w7 L _ _ R_y.out)
  replace R_c := Lib.hid (row_st0_other w7 L _ _ R_c.out)
  replace R_s := Lib.hid (row_st0_other w7 L _ _ R_s.out)
  have R_l := Lib.hid (row_st0 w7 L)
  replace HB := Lib.hid (HB.out.trans ((bel_st0 w7 L).mono HB.out.size))
  go_wp2_with fail
  clear q_c l_c q_x l_x q_z l_z
  obtain ⟨W7, hW⟩ : ∃ W, (w7.alloc (.cells (natA 0) 28)).setRow w7.heap.size (natA L) = W := ⟨_, rfl⟩
  rw [hW] at HB R_z R_x R_y R_c R_s R_l ⊢
  obtain ⟨gl, hbn⟩ : ∃ b, w7.heap.size = b := ⟨_, rfl⟩
  rw [hbn] at R_l ⊢
  clear hW hbn w7
  refine (M2.out _).mono ?_
  rintro e w8 ⟨rfl, hb⟩
  replace R_z := Lib.hid (keptW hb R_z.out)
  replace R_x := Lib.hid (keptW hb R_x.out)
  replace R_y := Lib.hid (keptW hb R_y.out)
  replace R_c := Lib.hid (keptW hb R_c.out)
  replace R_s := Lib.hid (keptW hb R_s.out)
  replace R_l := Lib.hid (keptW hb R_l.out)
  replace HB := Lib.hid (HB.out.trans (hb.mono HB.out.size))
  clear hb
  have q_c := R_c.out
  have l_c := rowN_lt q_c
  have q_y := R_y.out
  have l_y := rowN_lt q_y
  have q_z := R_z.out
  have l_z := rowN_lt q_z
  replace R_z := Lib.hid (row_st0_other w8 P _ _ R_z.out)
  replace R_x := Lib.hid (row_st0_other w8 P _ _ R_x.out)
  replace R_y := Lib.hid (row_st0_other w8 P _ _ R_y.out)
  replace R_c := Lib.hid (row_st0_other w8 P _ _ R_c.out)
  replace R_s := Lib.hid (row_st0_other w8 P _ _ R_s.out)
  replace R_l := Lib.hid (row_st0_other w8 P _ _ R_l.out)
  have R_p := Lib.hid (row_st0 w8 P)
  replace HB := Lib.hid (HB.out.trans ((bel_st0 w8 P).mono HB.out.size))
  go_wp2_with fail
  clear q_c l_c q_y l_y q_z l_z
  obtain ⟨W8, hW⟩ : ∃ W, (w8.alloc (.cells (natA 0) 28)).setRow w8.heap.size (natA P) = W := ⟨_, rfl⟩
  rw [hW] at HB R_z R_x R_y R_c R_s R_l R_p ⊢
  obtain ⟨gp, hbn⟩ : ∃ b, w8.heap.size = b := ⟨_, rfl⟩
  rw [hbn] at R_p ⊢
  clear hW hbn w8
  refine (M3.out _).mono ?_
  rintro e w9 ⟨rfl, hb⟩
  replace R_z := Lib.hid (keptW hb R_z.out)
  replace R_x := Lib.hid (keptW hb R_x.out)
  replace R_y := Lib.hid (keptW hb R_y.out)
  replace R_c := Lib.hid (keptW hb R_c.out)
  replace R_s := Lib.hid (keptW hb R_s.out)
  replace R_l := Lib.hid (keptW hb R_l.out)
  replace R_p := Lib.hid (keptW hb R_p.out)
  replace HB := Lib.hid (HB.out.trans (hb.mono HB.out.size))
  clear hb
  have q_p := R_p.out
  have l_p := rowN_lt q_p
  have q_z := R_z.out
  have l_z := rowN_lt q_z
  replace R_z := Lib.hid (row_st0_other w9 Q _ _ R_z.out)
  replace R_x := Lib.hid (row_st0_other w9 Q _ _ R_x.out)
  replace R_y := Lib.hid (row_st0_other w9 Q _ _ R_y.out)
  replace R_c := Lib.hid (row_st0_other w9 Q _ _ R_c.out)
  replace R_s := Lib.hid (row_st0_other w9 Q _ _ R_s.out)
  replace R_l := Lib.hid (row_st0_other w9 Q _ _ R_l.out)
  replace R_p := Lib.hid (row_st0_other w9 Q _ _ R_p.out)
  have R_q := Lib.hid (row_st0 w9 Q)
  replace HB := Lib.hid (HB.out.trans ((bel_st0 w9 Q).mono HB.out.size))
  go_wp2_with fail
  clear q_p l_p q_z l_z
  obtain ⟨W9, hW⟩ : ∃ W, (w9.alloc (.cells (natA 0) 28)).setRow w9.heap.size (natA Q) = W := ⟨_, rfl⟩
  rw [hW] at HB R_z R_x R_y R_c R_s R_l R_p R_q ⊢
  obtain ⟨gq, hbn⟩ : ∃ b, w9.heap.size = b := ⟨_, rfl⟩
  rw [hbn] at R_q ⊢
  clear hW hbn w9
  refine (A2.out _).mono ?_
  rintro e w10 ⟨rfl, hb⟩
  replace R_z := Lib.hid (keptW hb R_z.out)
  replace R_x := Lib.hid (keptW hb R_x.out)
  replace R_y := Lib.hid (keptW hb R_y.out)
  replace R_c := Lib.hid (keptW hb R_c.out)
  replace R_s := Lib.hid (keptW hb R_s.out)
  replace R_l := Lib.hid (keptW hb R_l.out)
  replace R_p := Lib.hid (keptW hb R_p.out)
  replace R_q := Lib.hid (keptW hb R_q.out)
  replace HB := Lib.hid (HB.out.trans (hb.mono HB.out.size))
  clear hb
  have q_l := R_l.out
  have l_l := rowN_lt q_l
  have q_p := R_p.out
  have l_p := rowN_lt q_p
  have q_y := R_y.out
  have l_y := rowN_lt q_y
  have q_z := R_z.out
  have l_z := rowN_lt q_z
  replace R_z := Lib.hid (row_st0_other w10 L _ _ R_z.out)
  replace R_x := Lib.hid (row_st0_other w10 L _ _ R_x.out)
  replace R_y := Lib.hid (row_st0_other w10 L _ _ R_y.out)
  replace R_c := Lib.hid (row_st0_other w10 L _ _ R_c.out)
  replace R_s := Lib.hid (row_st0_other w10 L _ _ R_s.out)
  replace R_l := Lib.hid (row_st0_other w10 L _ _ R_l.out)
  replace R_p := Lib.hid (row_st0_other w10 L _ _ R_p.out)
  replace R_q := Lib.hid (row_st0_other w10 L _ _ R_q.out)
  have R_r := Lib.hid (row_st0 w10 L)
  replace HB := Lib.hid (HB.out.trans ((bel_st0 w10 L).mono HB.out.size))
  go_wp2_with fail
  clear q_l l_l q_p l_p q_y l_y q_z l_z
  obtain ⟨W10, hW⟩ : ∃ W, (w10.alloc (.cells (natA 0) 28)).setRow w10.heap.size (natA L) = W := ⟨_, rfl⟩
  rw [hW] at HB R_z R_x R_y R_c R_s R_l R_p R_q R_r ⊢
  obtain ⟨gr, hbn⟩ : ∃ b, w10.heap.size = b := ⟨_, rfl⟩
  rw [hbn] at R_r ⊢
  clear hW hbn w10
  refine (M4.out _).mono ?_
  rintro e w11 ⟨rfl, hb⟩
  replace R_z := Lib.hid (keptW hb R_z.out)
  replace R_x := Lib.hid (keptW hb R_x.out)
  replace R_y := Lib.hid (keptW hb R_y.out)
  replace R_c := Lib.hid (keptW hb R_c.out)
  replace R_s := Lib.hid (keptW hb R_s.out)
  replace R_l := Lib.hid (keptW hb R_l.out)
  replace R_p := Lib.hid (keptW hb R_p.out)
  replace R_q := Lib.hid (keptW hb R_q.out)
  replace R_r := Lib.hid (keptW hb R_r.out)
  replace HB := Lib.hid (HB.out.trans (hb.mono HB.out.size))
  clear hb
  have q_x := R_x.out
  have l_x := rowN_lt q_x
  have q_y := R_y.out
  have l_y := rowN_lt q_y
  have q_z := R_z.out
  have l_z := rowN_lt q_z
  replace R_z := Lib.hid (row_st0_other w11 R _ _ R_z.out)
  replace R_x := Lib.hid (row_st0_other w11 R _ _ R_x.out)
  replace R_y := Lib.hid (row_st0_other w11 R _ _ R_y.out)
  replace R_c := Lib.hid (row_st0_other w11 R _ _ R_c.out)
  replace R_s := Lib.hid (row_st0_other w11 R _ _ R_s.out)
  replace R_l := Lib.hid (row_st0_other w11 R _ _ R_l.out)
  replace R_p := Lib.hid (row_st0_other w11 R _ _ R_p.out)
  replace R_q := Lib.hid (row_st0_other w11 R _ _ R_q.out)
  replace R_r := Lib.hid (row_st0_other w11 R _ _ R_r.out)
  have R_pq := Lib.hid (row_st0 w11 R)
  replace HB := Lib.hid (HB.out.trans ((bel_st0 w11 R).mono HB.out.size))
  go_wp2_with fail
  clear q_x l_x q_y l_y q_z l_z
  obtain ⟨W11, hW⟩ : ∃ W, (w11.alloc (.cells (natA 0) 28)).setRow w11.heap.size (natA R) = W := ⟨_, rfl⟩
  rw [hW] at HB R_z R_x R_y R_c R_s R_l R_p R_q R_r R_pq ⊢
  obtain ⟨gpq, hbn⟩ : ∃ b, w11.heap.size = b := ⟨_, rfl⟩
  rw [hbn] at R_pq ⊢
  clear hW hbn w11
  refine (M5.out _).mono ?_
  rintro e w12 ⟨rfl, hb⟩
  replace R_z := Lib.hid (keptW hb R_z.out)
  replace R_x := Lib.hid (keptW hb R_x.out)
  replace R_y := Lib.hid (keptW hb R_y.out)
  replace R_c := Lib.hid (keptW hb R_c.out)
  replace R_s := Lib.hid (keptW hb R_s.out)
  replace R_l := Lib.hid (keptW hb R_l.out)
  replace R_p := Lib.hid (keptW hb R_p.out)
  replace R_q := Lib.hid (keptW hb R_q.out)
  replace R_r := Lib.hid (keptW hb R_r.out)
  replace R_pq := Lib.hid (keptW hb R_pq.out)
  replace HB := Lib.hid (HB.out.trans (hb.mono HB.out.size))
  clear hb
  have q_c := R_c.out
  have l_c := rowN_lt q_c
  have q_z := R_z.out
  have l_z := rowN_lt q_z
  replace R_z := Lib.hid (row_st0_other w12 T _ _ R_z.out)
  replace R_x := Lib.hid (row_st0_other w12 T _ _ R_x.out)
  replace R_y := Lib.hid (row_st0_other w12 T _ _ R_y.out)
  replace R_c := Lib.hid (row_st0_other w12 T _ _ R_c.out)
  replace R_s := Lib.hid (row_st0_other w12 T _ _ R_s.out)
  replace R_l := Lib.hid (row_st0_other w12 T _ _ R_l.out)
  replace R_p := Lib.hid (row_st0_other w12 T _ _ R_p.out)
  replace R_q := Lib.hid (row_st0_other w12 T _ _ R_q.out)
  replace R_r := Lib.hid (row_st0_other w12 T _ _ R_r.out)
  replace R_pq := Lib.hid (row_st0_other w12 T _ _ R_pq.out)
  have R_xy := Lib.hid (row_st0 w12 T)
  replace HB := Lib.hid (HB.out.trans ((bel_st0 w12 T).mono HB.out.size))
  go_wp2_with fail
  clear q_c l_c q_z l_z
  obtain ⟨W12, hW⟩ : ∃ W, (w12.alloc (.cells (natA 0) 28)).setRow w12.heap.size (natA T) = W := ⟨_, rfl⟩
  rw [hW] at HB R_z R_x R_y R_c R_s R_l R_p R_q R_r R_pq R_xy ⊢
  obtain ⟨gxy, hbn⟩ : ∃ b, w12.heap.size = b := ⟨_, rfl⟩
  rw [hbn] at R_xy ⊢
  clear hW hbn w12
  refine (M6.out _).mono ?_
  rintro e w13 ⟨rfl, hb⟩
  replace R_z := Lib.hid (keptW hb R_z.out)
  replace R_x := Lib.hid (keptW hb R_x.out)
  replace R_y := Lib.hid (keptW hb R_y.out)
  replace R_c := Lib.hid (keptW hb R_c.out)
  replace R_s := Lib.hid (keptW hb R_s.out)
  replace R_l := Lib.hid (keptW hb R_l.out)
  replace R_p := Lib.hid (keptW hb R_p.out)
  replace R_q := Lib.hid (keptW hb R_q.out)
  replace R_r := Lib.hid (keptW hb R_r.out)
  replace R_pq := Lib.hid (keptW hb R_pq.out)
  replace R_xy := Lib.hid (keptW hb R_xy.out)
  replace HB := Lib.hid (HB.out.trans (hb.mono HB.out.size))
  clear hb
  have q_x := R_x.out
  have l_x := rowN_lt q_x
  have q_y := R_y.out
  have l_y := rowN_lt q_y
  have q_z := R_z.out
  have l_z := rowN_lt q_z
  replace R_z := Lib.hid (row_st0_other w13 R _ _ R_z.out)
  replace R_x := Lib.hid (row_st0_other w13 R _ _ R_x.out)
  replace R_y := Lib.hid (row_st0_other w13 R _ _ R_y.out)
  replace R_c := Lib.hid (row_st0_other w13 R _ _ R_c.out)
  replace R_s := Lib.hid (row_st0_other w13 R _ _ R_s.out)
  replace R_l := Lib.hid (row_st0_other w13 R _ _ R_l.out)
  replace R_p := Lib.hid (row_st0_other w13 R _ _ R_p.out)
  replace R_q := Lib.hid (row_st0_other w13 R _ _ R_q.out)
  replace R_r := Lib.hid (row_st0_other w13 R _ _ R_r.out)
  replace R_pq := Lib.hid (row_st0_other w13 R _ _ R_pq.out)
  replace R_xy := Lib.hid (row_st0_other w13 R _ _ R_xy.out)
  have R_wxy := Lib.hid (row_st0 w13 R)
  replace HB := Lib.hid (HB.out.trans ((bel_st0 w13 R).mono HB.out.size))
  go_wp2_with fail
  clear q_x l_x q_y l_y q_z l_z
  obtain ⟨W13, hW⟩ : ∃ W, (w13.alloc (.cells (natA 0) 28)).setRow w13.heap.size (natA R) = W := ⟨_, rfl⟩
  rw [hW] at HB R_z R_x R_y R_c R_s R_l R_p R_q R_r R_pq R_xy R_wxy ⊢
  obtain ⟨gwxy, hbn⟩ : ∃ b, w13.heap.size = b := ⟨_, rfl⟩
  rw [hbn] at R_wxy ⊢
  clear hW hbn w13
  refine (S1.out _).mono ?_
  rintro e w14 ⟨rfl, hb⟩
  replace R_z := Lib.hid (keptW hb R_z.out)
  replace R_x := Lib.hid (keptW hb R_x.out)
  replace R_y := Lib.hid (keptW hb R_y.out)
  replace R_c := Lib.hid (keptW hb R_c.out)
  replace R_s := Lib.hid (keptW hb R_s.out)
  replace R_l := Lib.hid (keptW hb R_l.out)
  replace R_p := Lib.hid (keptW hb R_p.out)
  replace R_q := Lib.hid (keptW hb R_q.out)
  replace R_r := Lib.hid (keptW hb R_r.out)
  replace R_pq := Lib.hid (keptW hb R_pq.out)
  replace R_xy := Lib.hid (keptW hb R_xy.out)
  replace R_wxy := Lib.hid (keptW hb R_wxy.out)
  replace HB := Lib.hid (HB.out.trans (hb.mono HB.out.size))
  clear hb
  have q_y := R_y.out
  have l_y := rowN_lt q_y
  have q_z := R_z.out
  have l_z := rowN_lt q_z
  replace R_z := Lib.hid (row_st0_other w14 D _ _ R_z.out)
  replace R_x := Lib.hid (row_st0_other w14 D _ _ R_x.out)
  replace R_y := Lib.hid (row_st0_other w14 D _ _ R_y.out)
  replace R_c := Lib.hid (row_st0_other w14 D _ _ R_c.out)
  replace R_s := Lib.hid (row_st0_other w14 D _ _ R_s.out)
  replace R_l := Lib.hid (row_st0_other w14 D _ _ R_l.out)
  replace R_p := Lib.hid (row_st0_other w14 D _ _ R_p.out)
  replace R_q := Lib.hid (row_st0_other w14 D _ _ R_q.out)
  replace R_r := Lib.hid (row_st0_other w14 D _ _ R_r.out)
  replace R_pq := Lib.hid (row_st0_other w14 D _ _ R_pq.out)
  replace R_xy := Lib.hid (row_st0_other w14 D _ _ R_xy.out)
  replace R_wxy := Lib.hid (row_st0_other w14 D _ _ R_wxy.out)
  have R_d := Lib.hid (row_st0 w14 D)
  replace HB := Lib.hid (HB.out.trans ((bel_st0 w14 D).mono HB.out.size))
  go_wp2_with fail
  clear q_y l_y q_z l_z
  obtain ⟨W14, hW⟩ : ∃ W, (w14.alloc (.cells (natA 0) 28)).setRow w14.heap.size (natA D) = W := ⟨_, rfl⟩
  rw [hW] at HB R_z R_x R_y R_c R_s R_l R_p R_q R_r R_pq R_xy R_wxy R_d ⊢
  obtain ⟨gd, hbn⟩ : ∃ b, w14.heap.size = b := ⟨_, rfl⟩
  rw [hbn] at R_d ⊢
  clear hW hbn w14
  refine (A3.out _).mono ?_
  rintro e w15 ⟨rfl, hb⟩
  replace R_z := Lib.hid (keptW hb R_z.out)
  replace R_x := Lib.hid (keptW hb R_x.out)
  replace R_y := Lib.hid (keptW hb R_y.out)
  replace R_c := Lib.hid (keptW hb R_c.out)
  replace R_s := Lib.hid (keptW hb R_s.out)
  replace R_l := Lib.hid (keptW hb R_l.out)
  replace R_p := Lib.hid (keptW hb R_p.out)
  replace R_q := Lib.hid (keptW hb R_q.out)
  replace R_r := Lib.hid (keptW hb R_r.out)
  replace R_pq := Lib.hid (keptW hb R_pq.out)
  replace R_xy := Lib.hid (keptW hb R_xy.out)
  replace R_wxy := Lib.hid (keptW hb R_wxy.out)
  replace R_d := Lib.hid (keptW hb R_d.out)
  replace HB := Lib.hid (HB.out.trans (hb.mono HB.out.size))
  clear hb
  have q_x := R_x.out
  have l_x := rowN_lt q_x
  have q_z := R_z.out
  have l_z := rowN_lt q_z
  replace R_z := Lib.hid (row_st0_other w15 E _ _ R_z.out)
  replace R_x := Lib.hid (row_st0_other w15 E _ _ R_x.out)
  replace R_y := Lib.hid (row_st0_other w15 E _ _ R_y.out)
  replace R_c := Lib.hid (row_st0_other w15 E _ _ R_c.out)
  replace R_s := Lib.hid (row_st0_other w15 E _ _ R_s.out)
  replace R_l := Lib.hid (row_st0_other w15 E _ _ R_l.out)
  replace R_p := Lib.hid (row_st0_other w15 E _ _ R_p.out)
  replace R_q := Lib.hid (row_st0_other w15 E _ _ R_q.out)
  replace R_r := Lib.hid (row_st0_other w15 E _ _ R_r.out)
  replace R_pq := Lib.hid (row_st0_other w15 E _ _ R_pq.out)
  replace R_xy := Lib.hid (row_st0_other w15 E _ _ R_xy.out)
  replace R_wxy := Lib.hid (row_st0_other w15 E _ _ R_wxy.out)
  replace R_d := Lib.hid (row_st0_other w15 E _ _ R_d.out)
  have R_back := Lib.hid (row_st0 w15 E)
  replace HB := Lib.hid (HB.out.trans ((bel_st0 w15 E).mono HB.out.size))
  go_wp2_with fail
  clear q_x l_x q_z l_z
  obtain ⟨W15, hW⟩ : ∃ W, (w15.alloc (.cells (natA 0) 28)).setRow w15.heap.size (natA E) = W := ⟨_, rfl⟩
  rw [hW] at HB R_z R_x R_y R_c R_s R_l R_p R_q R_r R_pq R_xy R_wxy R_d R_back ⊢
  obtain ⟨gback, hbn⟩ : ∃ b, w15.heap.size = b := ⟨_, rfl⟩
  rw [hbn] at R_back ⊢
  clear hW hbn w15
  refine (RD.out _).mono ?_
  rintro e w16 ⟨rfl, hb⟩
  replace R_z := Lib.hid (keptW hb R_z.out)
  replace R_x := Lib.hid (keptW hb R_x.out)
  replace R_y := Lib.hid (keptW hb R_y.out)
  replace R_c := Lib.hid (keptW hb R_c.out)
  replace R_s := Lib.hid (keptW hb R_s.out)
  replace R_l := Lib.hid (keptW hb R_l.out)
  replace R_p := Lib.hid (keptW hb R_p.out)
  replace R_q := Lib.hid (keptW hb R_q.out)
  replace R_r := Lib.hid (keptW hb R_r.out)
  replace R_pq := Lib.hid (keptW hb R_pq.out)
  replace R_xy := Lib.hid (keptW hb R_xy.out)
  replace R_wxy := Lib.hid (keptW hb R_wxy.out)
  replace R_d := Lib.hid (keptW hb R_d.out)
  replace R_back := Lib.hid (keptW hb R_back.out)
  replace HB := Lib.hid (HB.out.trans (hb.mono HB.out.size))
  clear hb
  have q_pq := R_pq.out
  have l_pq := rowN_lt q_pq
  have q_wxy := R_wxy.out
  have l_wxy := rowN_lt q_wxy
  have q_back := R_back.out
  have l_back := rowN_lt q_back
  have q_z := R_z.out
  have l_z := rowN_lt q_z
  replace R_z := Lib.hid (row_st0_other w16 E _ _ R_z.out)
  replace R_x := Lib.hid (row_st0_other w16 E _ _ R_x.out)
  replace R_y := Lib.hid (row_st0_other w16 E _ _ R_y.out)
  replace R_c := Lib.hid (row_st0_other w16 E _ _ R_c.out)
  replace R_s := Lib.hid (row_st0_other w16 E _ _ R_s.out)
  replace R_l := Lib.hid (row_st0_other w16 E _ _ R_l.out)
  replace R_p := Lib.hid (row_st0_other w16 E _ _ R_p.out)
  replace R_q := Lib.hid (row_st0_other w16 E _ _ R_q.out)
  replace R_r := Lib.hid (row_st0_other w16 E _ _ R_r.out)
  replace R_pq := Lib.hid (row_st0_other w16 E _ _ R_pq.out)
  replace R_xy := Lib.hid (row_st0_other w16 E _ _ R_xy.out)
  replace R_wxy := Lib.hid (row_st0_other w16 E _ _ R_wxy.out)
  replace R_d := Lib.hid (row_st0_other w16 E _ _ R_d.out)
  replace R_back := Lib.hid (row_st0_other w16 E _ _ R_back.out)
  have R_res := Lib.hid (row_st0 w16 E)
  replace HB := Lib.hid (HB.out.trans ((bel_st0 w16 E).mono HB.out.size))
  go_wp2_with fail
  clear q_pq l_pq q_wxy l_wxy q_back l_back q_z l_z
  obtain ⟨W16, hW⟩ : ∃ W, (w16.alloc (.cells (natA 0) 28)).setRow w16.heap.size (natA E) = W := ⟨_, rfl⟩
  rw [hW] at HB R_z R_x R_y R_c R_s R_l R_p R_q R_r R_pq R_xy R_wxy R_d R_back R_res ⊢
  obtain ⟨gres, hbn⟩ : ∃ b, w16.heap.size = b := ⟨_, rfl⟩
  rw [hbn] at R_res ⊢
  clear hW hbn w16
  refine (CM.out _).mono ?_
  rintro e w17 ⟨rfl, hb⟩
  replace R_z := Lib.hid (keptW hb R_z.out)
  replace R_x := Lib.hid (keptW hb R_x.out)
  replace R_y := Lib.hid (keptW hb R_y.out)
  replace R_c := Lib.hid (keptW hb R_c.out)
  replace R_s := Lib.hid (keptW hb R_s.out)
  replace R_l := Lib.hid (keptW hb R_l.out)
  replace R_p := Lib.hid (keptW hb R_p.out)
  replace R_q := Lib.hid (keptW hb R_q.out)
  replace R_r := Lib.hid (keptW hb R_r.out)
  replace R_pq := Lib.hid (keptW hb R_pq.out)
  replace R_xy := Lib.hid (keptW hb R_xy.out)
  replace R_wxy := Lib.hid (keptW hb R_wxy.out)
  replace R_d := Lib.hid (keptW hb R_d.out)
  replace R_back := Lib.hid (keptW hb R_back.out)
  replace R_res := Lib.hid (keptW hb R_res.out)
  replace HB := Lib.hid (HB.out.trans (hb.mono HB.out.size))
  clear hb
  go_upto_region 20 with fail
  go_cut [39, 40] from 39 to 238 (fun s39 s40 wx => ∃ g : Nat, s39 = .pointer (some ⟨g, 0, none⟩) ∧ s40 = .int .i64 0 ∧ rowN wx g = some (natA U) ∧ rowN wx gx = some (natA x) ∧ rowN wx gz = some (natA m) ∧ rowN wx gres = some (natA E) ∧ Below w.heap.size w wx)
  case first =>
    refine mh_reg20 N1 X1 R_x R_z R_res HB (fun g _ _ _ _ _ _ _ _ wx hnew h_x h_z h_res hl => ?_)
    go_wp2_with fail
    go_meet
    exact ⟨g, rfl, rfl, hnew, h_x, h_z, h_res, hl⟩
  obtain ⟨gu, rfl, rfl, hnew, hr_x, hr_z, hr_res, HL⟩ := hcut
  clear R_z R_x R_y R_c R_s R_l R_p R_q R_r R_pq R_xy R_wxy R_d R_back R_res HB
  have HB := Lib.hid HL
  have R_u := Lib.hid hnew
  have R_x := Lib.hid hr_x
  have R_z := Lib.hid hr_z
  have R_res := Lib.hid hr_res
  clear HL hnew hr_x hr_z hr_res
  go_upto_region 21 with fail
  go_cut [41, 42] from 41 to 246 (fun s41 s42 wx => ∃ g : Nat, s41 = .pointer (some ⟨g, 0, none⟩) ∧ s42 = .int .i64 0 ∧ rowN wx g = some (natA V) ∧ rowN wx gx = some (natA x) ∧ rowN wx gz = some (natA m) ∧ rowN wx gres = some (natA E) ∧ rowN wx gu = some (natA U) ∧ Below w.heap.size w wx)
  case first =>
    refine mh_reg21 N2 X2 R_x R_z R_res R_u HB (fun g _ _ _ _ _ _ _ _ wx hnew h_x h_z h_res h_u hl => ?_)
    go_wp2_with fail
    go_meet
    exact ⟨g, rfl, rfl, hnew, h_x, h_z, h_res, h_u, hl⟩
  obtain ⟨gv, rfl, rfl, hnew, hr_x, hr_z, hr_res, hr_u, HL⟩ := hcut
  clear R_x R_z R_res R_u HB
  have HB := Lib.hid HL
  have R_v := Lib.hid hnew
  have R_x := Lib.hid hr_x
  have R_z := Lib.hid hr_z
  have R_res := Lib.hid hr_res
  have R_u := Lib.hid hr_u
  clear HL hnew hr_x hr_z hr_res hr_u
  go_upto_region 22 with fail
  go_cut [43, 44] from 43 to 256 (fun s43 s44 wx => ∃ g : Nat, s43 = .pointer (some ⟨g, 0, none⟩) ∧ s44 = .int .i64 0 ∧ rowN wx g = some (natA B) ∧ rowN wx gx = some (natA x) ∧ rowN wx gz = some (natA m) ∧ rowN wx gu = some (natA U) ∧ rowN wx gv = some (natA V) ∧ Below w.heap.size w wx)
  case first =>
    refine mh_reg22 hp hq N3 X3 R_x R_z R_u R_v HB (fun g _ _ _ _ _ _ _ _ _ _ wx hnew h_x h_z h_u h_v hl => ?_)
    go_wp2_with fail
    go_meet
    exact ⟨g, rfl, rfl, hnew, h_x, h_z, h_u, h_v, hl⟩
  obtain ⟨gboth, rfl, rfl, hnew, hr_x, hr_z, hr_u, hr_v, HL⟩ := hcut
  clear R_x R_z R_res R_u R_v HB
  have HB := Lib.hid HL
  have R_both := Lib.hid hnew
  have R_x := Lib.hid hr_x
  have R_z := Lib.hid hr_z
  have R_u := Lib.hid hr_u
  have R_v := Lib.hid hr_v
  clear HL hnew hr_x hr_z hr_u hr_v
  have q_u := R_u.out
  have l_u := rowN_lt q_u
  have q_v := R_v.out
  have l_v := rowN_lt q_v
  have q_z := R_z.out
  have l_z := rowN_lt q_z
  go_wp2_with fail
  clear q_u l_u q_v l_v q_z l_z
  refine (M7.out _).mono ?_
  rintro e w18 ⟨rfl, hb⟩
  replace R_x := Lib.hid (keptW hb R_x.out)
  replace R_z := Lib.hid (keptW hb R_z.out)
  replace R_u := Lib.hid (keptW hb R_u.out)
  replace R_v := Lib.hid (keptW hb R_v.out)
  replace R_both := Lib.hid (keptW hb R_both.out)
  replace HB := Lib.hid (HB.out.trans (hb.mono HB.out.size))
  clear hb
  have q_both := R_both.out
  have l_both := rowN_lt q_both
  replace R_x := Lib.hid (row_st0_other w18 B _ _ R_x.out)
  replace R_z := Lib.hid (row_st0_other w18 B _ _ R_z.out)
  replace R_u := Lib.hid (row_st0_other w18 B _ _ R_u.out)
  replace R_v := Lib.hid (row_st0_other w18 B _ _ R_v.out)
  replace R_both := Lib.hid (row_st0_other w18 B _ _ R_both.out)
  have R_prod := Lib.hid (row_st0 w18 B)
  replace HB := Lib.hid (HB.out.trans ((bel_st0 w18 B).mono HB.out.size))
  go_wp2_with fail
  clear q_both l_both
  obtain ⟨W18, hW⟩ : ∃ W, (w18.alloc (.cells (natA 0) 28)).setRow w18.heap.size (natA B) = W := ⟨_, rfl⟩
  rw [hW] at HB R_x R_z R_u R_v R_both R_prod ⊢
  obtain ⟨gprod, hbn⟩ : ∃ b, w18.heap.size = b := ⟨_, rfl⟩
  rw [hbn] at R_prod ⊢
  clear hW hbn w18
  refine (known_any _).mono ?_
  rintro e wK ⟨rfl, hb⟩
  have HBK := Lib.hid (HB.out.trans (hb.mono HB.out.size))
  clear hb
  go_wp2_with fail
  go_ret
  exact ⟨rfl, HBK.out⟩

set_option maxRecDepth 100000 in
set_option maxHeartbeats 1000000 in
theorem mh_out0 (ms : List Nat) (n0 n1 n2 n3 : Nat) (a0 a1 a2 a3 : Option Addr) (c0 c1 c2 c3 : Nat) (p q : Int) (m : Nat) (w : World)
    (h0 : 24 < n0)
    (HBM : Go.RowKit.Hid (BytesAt ms (.slice a3 n3 c3) w)) (HFM : Go.RowKit.Hid (∀ W : World, BytesAt ms (.slice a3 n3 c3) W → Calls Try.prog 11 #[(.slice a3 n3 c3)] W fun e w' => e = .returned (.agg (natA m)) ∧ Below W.heap.size W w'))
    :
    Calls Try.prog 8 #[.slice a0 n0 c0, .slice a1 n1 c1, .slice a2 n2 c2, .slice a3 n3 c3, .int .i64 p, .int .i64 q] w fun e w' => e = .returned (.bool true) ∧ Below w.heap.size w w' := by
  have f0 : decide ((24 : Int) < ((n0 : Nat) : Int)) = true := decide_eq_true (by omega)
  clear h0
  go_enter Try.func8, Try.ntmps8
  go_wp2_with fail
  refine (HFM.out _ HBM.out).mono ?_
  rintro e w1 ⟨rfl, hb⟩
  have HB := Lib.hid hb
  clear hb
  have R_z := Lib.hid (row_st0 w1 m)
  replace HB := Lib.hid (HB.out.trans ((bel_st0 w1 m).mono HB.out.size))
  go_wp2_with fail
  obtain ⟨W1, hW⟩ : ∃ W, (w1.alloc (.cells (natA 0) 28)).setRow w1.heap.size (natA m) = W := ⟨_, rfl⟩
  rw [hW] at HB R_z ⊢
  obtain ⟨gz, hbn⟩ : ∃ b, w1.heap.size = b := ⟨_, rfl⟩
  rw [hbn] at R_z ⊢
  clear hW hbn w1
  refine (known_any _).mono ?_
  rintro e wK ⟨rfl, hb⟩
  have HBK := Lib.hid (HB.out.trans (hb.mono HB.out.size))
  clear hb
  go_wp2_with fail
  go_ret
  exact ⟨rfl, HBK.out⟩

set_option maxRecDepth 100000 in
set_option maxHeartbeats 1000000 in
theorem mh_out1 (ms : List Nat) (n0 n1 n2 n3 : Nat) (a0 a1 a2 a3 : Option Addr) (c0 c1 c2 c3 : Nat) (p q : Int) (m : Nat) (w : World)
    (h0 : ¬ 24 < n0) (h1 : 24 < n1)
    (HBM : Go.RowKit.Hid (BytesAt ms (.slice a3 n3 c3) w)) (HFM : Go.RowKit.Hid (∀ W : World, BytesAt ms (.slice a3 n3 c3) W → Calls Try.prog 11 #[(.slice a3 n3 c3)] W fun e w' => e = .returned (.agg (natA m)) ∧ Below W.heap.size W w'))
    :
    Calls Try.prog 8 #[.slice a0 n0 c0, .slice a1 n1 c1, .slice a2 n2 c2, .slice a3 n3 c3, .int .i64 p, .int .i64 q] w fun e w' => e = .returned (.bool true) ∧ Below w.heap.size w w' := by
  have f0 : decide ((24 : Int) < ((n0 : Nat) : Int)) = false := decide_eq_false (by omega)
  have f1 : decide ((24 : Int) < ((n1 : Nat) : Int)) = true := decide_eq_true (by omega)
  clear h0 h1
  go_enter Try.func8, Try.ntmps8
  go_wp2_with fail
  refine (HFM.out _ HBM.out).mono ?_
  rintro e w1 ⟨rfl, hb⟩
  have HB := Lib.hid hb
  clear hb
  have R_z := Lib.hid (row_st0 w1 m)
  replace HB := Lib.hid (HB.out.trans ((bel_st0 w1 m).mono HB.out.size))
  go_wp2_with fail
  obtain ⟨W1, hW⟩ : ∃ W, (w1.alloc (.cells (natA 0) 28)).setRow w1.heap.size (natA m) = W := ⟨_, rfl⟩
  rw [hW] at HB R_z ⊢
  obtain ⟨gz, hbn⟩ : ∃ b, w1.heap.size = b := ⟨_, rfl⟩
  rw [hbn] at R_z ⊢
  clear hW hbn w1
  refine (known_any _).mono ?_
  rintro e wK ⟨rfl, hb⟩
  have HBK := Lib.hid (HB.out.trans (hb.mono HB.out.size))
  clear hb
  go_wp2_with fail
  go_ret
  exact ⟨rfl, HBK.out⟩

set_option maxRecDepth 100000 in
set_option maxHeartbeats 1000000 in
theorem mh_out2 (ms : List Nat) (n0 n1 n2 n3 : Nat) (a0 a1 a2 a3 : Option Addr) (c0 c1 c2 c3 : Nat) (p q : Int) (m : Nat) (w : World)
    (h0 : ¬ 24 < n0) (h1 : ¬ 24 < n1) (h2 : 24 < n2)
    (HBM : Go.RowKit.Hid (BytesAt ms (.slice a3 n3 c3) w)) (HFM : Go.RowKit.Hid (∀ W : World, BytesAt ms (.slice a3 n3 c3) W → Calls Try.prog 11 #[(.slice a3 n3 c3)] W fun e w' => e = .returned (.agg (natA m)) ∧ Below W.heap.size W w'))
    :
    Calls Try.prog 8 #[.slice a0 n0 c0, .slice a1 n1 c1, .slice a2 n2 c2, .slice a3 n3 c3, .int .i64 p, .int .i64 q] w fun e w' => e = .returned (.bool true) ∧ Below w.heap.size w w' := by
  have f0 : decide ((24 : Int) < ((n0 : Nat) : Int)) = false := decide_eq_false (by omega)
  have f1 : decide ((24 : Int) < ((n1 : Nat) : Int)) = false := decide_eq_false (by omega)
  have f2 : decide ((24 : Int) < ((n2 : Nat) : Int)) = true := decide_eq_true (by omega)
  clear h0 h1 h2
  go_enter Try.func8, Try.ntmps8
  go_wp2_with fail
  refine (HFM.out _ HBM.out).mono ?_
  rintro e w1 ⟨rfl, hb⟩
  have HB := Lib.hid hb
  clear hb
  have R_z := Lib.hid (row_st0 w1 m)
  replace HB := Lib.hid (HB.out.trans ((bel_st0 w1 m).mono HB.out.size))
  go_wp2_with fail
  obtain ⟨W1, hW⟩ : ∃ W, (w1.alloc (.cells (natA 0) 28)).setRow w1.heap.size (natA m) = W := ⟨_, rfl⟩
  rw [hW] at HB R_z ⊢
  obtain ⟨gz, hbn⟩ : ∃ b, w1.heap.size = b := ⟨_, rfl⟩
  rw [hbn] at R_z ⊢
  clear hW hbn w1
  refine (known_any _).mono ?_
  rintro e wK ⟨rfl, hb⟩
  have HBK := Lib.hid (HB.out.trans (hb.mono HB.out.size))
  clear hb
  go_wp2_with fail
  go_ret
  exact ⟨rfl, HBK.out⟩

set_option maxRecDepth 100000 in
set_option maxHeartbeats 1000000 in
theorem mh_out3 (ms : List Nat) (n0 n1 n2 n3 : Nat) (a0 a1 a2 a3 : Option Addr) (c0 c1 c2 c3 : Nat) (p q : Int) (m : Nat) (w : World)
    (h0 : ¬ 24 < n0) (h1 : ¬ 24 < n1) (h2 : ¬ 24 < n2) (h3 : 24 < n3)
    (HBM : Go.RowKit.Hid (BytesAt ms (.slice a3 n3 c3) w)) (HFM : Go.RowKit.Hid (∀ W : World, BytesAt ms (.slice a3 n3 c3) W → Calls Try.prog 11 #[(.slice a3 n3 c3)] W fun e w' => e = .returned (.agg (natA m)) ∧ Below W.heap.size W w'))
    :
    Calls Try.prog 8 #[.slice a0 n0 c0, .slice a1 n1 c1, .slice a2 n2 c2, .slice a3 n3 c3, .int .i64 p, .int .i64 q] w fun e w' => e = .returned (.bool true) ∧ Below w.heap.size w w' := by
  have f0 : decide ((24 : Int) < ((n0 : Nat) : Int)) = false := decide_eq_false (by omega)
  have f1 : decide ((24 : Int) < ((n1 : Nat) : Int)) = false := decide_eq_false (by omega)
  have f2 : decide ((24 : Int) < ((n2 : Nat) : Int)) = false := decide_eq_false (by omega)
  have f3 : decide ((24 : Int) < ((n3 : Nat) : Int)) = true := decide_eq_true (by omega)
  clear h0 h1 h2 h3
  go_enter Try.func8, Try.ntmps8
  go_wp2_with fail
  refine (HFM.out _ HBM.out).mono ?_
  rintro e w1 ⟨rfl, hb⟩
  have HB := Lib.hid hb
  clear hb
  have R_z := Lib.hid (row_st0 w1 m)
  replace HB := Lib.hid (HB.out.trans ((bel_st0 w1 m).mono HB.out.size))
  go_wp2_with fail
  obtain ⟨W1, hW⟩ : ∃ W, (w1.alloc (.cells (natA 0) 28)).setRow w1.heap.size (natA m) = W := ⟨_, rfl⟩
  rw [hW] at HB R_z ⊢
  obtain ⟨gz, hbn⟩ : ∃ b, w1.heap.size = b := ⟨_, rfl⟩
  rw [hbn] at R_z ⊢
  clear hW hbn w1
  refine (known_any _).mono ?_
  rintro e wK ⟨rfl, hb⟩
  have HBK := Lib.hid (HB.out.trans (hb.mono HB.out.size))
  clear hb
  go_wp2_with fail
  go_ret
  exact ⟨rfl, HBK.out⟩

set_option maxRecDepth 100000 in
set_option maxHeartbeats 1000000 in
theorem mh_out4 (ms : List Nat) (n0 n1 n2 n3 : Nat) (a0 a1 a2 a3 : Option Addr) (c0 c1 c2 c3 : Nat) (p q : Int) (m : Nat) (w : World)
    (h0 : ¬ 24 < n0) (h1 : ¬ 24 < n1) (h2 : ¬ 24 < n2) (h3 : ¬ 24 < n3)
    (HBM : Go.RowKit.Hid (BytesAt ms (.slice a3 n3 c3) w)) (HFM : Go.RowKit.Hid (∀ W : World, BytesAt ms (.slice a3 n3 c3) W → Calls Try.prog 11 #[(.slice a3 n3 c3)] W fun e w' => e = .returned (.agg (natA m)) ∧ Below W.heap.size W w'))
    (IZ : Go.RowKit.Hid (∀ W : World, Calls Try.prog 16 #[.agg (natA m)] W fun e w' => e = .returned (.bool true) ∧ Below W.heap.size W w')) :
    Calls Try.prog 8 #[.slice a0 n0 c0, .slice a1 n1 c1, .slice a2 n2 c2, .slice a3 n3 c3, .int .i64 p, .int .i64 q] w fun e w' => e = .returned (.bool true) ∧ Below w.heap.size w w' := by
  have f0 : decide ((24 : Int) < ((n0 : Nat) : Int)) = false := decide_eq_false (by omega)
  have f1 : decide ((24 : Int) < ((n1 : Nat) : Int)) = false := decide_eq_false (by omega)
  have f2 : decide ((24 : Int) < ((n2 : Nat) : Int)) = false := decide_eq_false (by omega)
  have f3 : decide ((24 : Int) < ((n3 : Nat) : Int)) = false := decide_eq_false (by omega)
  clear h0 h1 h2 h3
  go_enter Try.func8, Try.ntmps8
  go_wp2_with fail
  refine (HFM.out _ HBM.out).mono ?_
  rintro e w1 ⟨rfl, hb⟩
  have HB := Lib.hid hb
  clear hb
  have R_z := Lib.hid (row_st0 w1 m)
  replace HB := Lib.hid (HB.out.trans ((bel_st0 w1 m).mono HB.out.size))
  go_wp2_with fail
  obtain ⟨W1, hW⟩ : ∃ W, (w1.alloc (.cells (natA 0) 28)).setRow w1.heap.size (natA m) = W := ⟨_, rfl⟩
  rw [hW] at HB R_z ⊢
  obtain ⟨gz, hbn⟩ : ∃ b, w1.heap.size = b := ⟨_, rfl⟩
  rw [hbn] at R_z ⊢
  clear hW hbn w1
  refine (IZ.out _).mono ?_
  rintro e w2 ⟨rfl, hb⟩
  replace R_z := Lib.hid (keptW hb R_z.out)
  replace HB := Lib.hid (HB.out.trans (hb.mono HB.out.size))
  clear hb
  go_wp2_with fail
  refine (known_any _).mono ?_
  rintro e wK ⟨rfl, hb⟩
  have HBK := Lib.hid (HB.out.trans (hb.mono HB.out.size))
  clear hb
  go_wp2_with fail
  go_ret
  exact ⟨rfl, HBK.out⟩

set_option maxRecDepth 100000 in
set_option maxHeartbeats 1000000 in
theorem mh_out5 (ms : List Nat) (n0 n1 n2 n3 : Nat) (a0 a1 a2 a3 : Option Addr) (c0 c1 c2 c3 : Nat) (p q : Int) (m : Nat) (w : World)
    (h0 : ¬ 24 < n0) (h1 : ¬ 24 < n1) (h2 : ¬ 24 < n2) (h3 : ¬ 24 < n3) (h5 : p < 0)
    (HBM : Go.RowKit.Hid (BytesAt ms (.slice a3 n3 c3) w)) (HFM : Go.RowKit.Hid (∀ W : World, BytesAt ms (.slice a3 n3 c3) W → Calls Try.prog 11 #[(.slice a3 n3 c3)] W fun e w' => e = .returned (.agg (natA m)) ∧ Below W.heap.size W w'))
    (IZ : Go.RowKit.Hid (∀ W : World, Calls Try.prog 16 #[.agg (natA m)] W fun e w' => e = .returned (.bool false) ∧ Below W.heap.size W w')) :
    Calls Try.prog 8 #[.slice a0 n0 c0, .slice a1 n1 c1, .slice a2 n2 c2, .slice a3 n3 c3, .int .i64 p, .int .i64 q] w fun e w' => e = .returned (.bool true) ∧ Below w.heap.size w w' := by
  have f0 : decide ((24 : Int) < ((n0 : Nat) : Int)) = false := decide_eq_false (by omega)
  have f1 : decide ((24 : Int) < ((n1 : Nat) : Int)) = false := decide_eq_false (by omega)
  have f2 : decide ((24 : Int) < ((n2 : Nat) : Int)) = false := decide_eq_false (by omega)
  have f3 : decide ((24 : Int) < ((n3 : Nat) : Int)) = false := decide_eq_false (by omega)
  have f5 : decide (p < 0) = true := decide_eq_true (by omega)
  clear h0 h1 h2 h3 h5
  go_enter Try.func8, Try.ntmps8
  go_wp2_with fail
  refine (HFM.out _ HBM.out).mono ?_
  rintro e w1 ⟨rfl, hb⟩
  have HB := Lib.hid hb
  clear hb
  have R_z := Lib.hid (row_st0 w1 m)
  replace HB := Lib.hid (HB.out.trans ((bel_st0 w1 m).mono HB.out.size))
  go_wp2_with fail
  obtain ⟨W1, hW⟩ : ∃ W, (w1.alloc (.cells (natA 0) 28)).setRow w1.heap.size (natA m) = W := ⟨_, rfl⟩
  rw [hW] at HB R_z ⊢
  obtain ⟨gz, hbn⟩ : ∃ b, w1.heap.size = b := ⟨_, rfl⟩
  rw [hbn] at R_z ⊢
  clear hW hbn w1
  refine (IZ.out _).mono ?_
  rintro e w2 ⟨rfl, hb⟩
  replace R_z := Lib.hid (keptW hb R_z.out)
  replace HB := Lib.hid (HB.out.trans (hb.mono HB.out.size))
  clear hb
  go_wp2_with fail
  refine (known_any _).mono ?_
  rintro e wK ⟨rfl, hb⟩
  have HBK := Lib.hid (HB.out.trans (hb.mono HB.out.size))
  clear hb
  go_wp2_with fail
  go_ret
  exact ⟨rfl, HBK.out⟩

set_option maxRecDepth 100000 in
set_option maxHeartbeats 1000000 in
theorem mh_out6 (ms : List Nat) (n0 n1 n2 n3 : Nat) (a0 a1 a2 a3 : Option Addr) (c0 c1 c2 c3 : Nat) (p q : Int) (m : Nat) (w : World)
    (h0 : ¬ 24 < n0) (h1 : ¬ 24 < n1) (h2 : ¬ 24 < n2) (h3 : ¬ 24 < n3) (h5 : ¬ p < 0) (h6 : q < 0)
    (HBM : Go.RowKit.Hid (BytesAt ms (.slice a3 n3 c3) w)) (HFM : Go.RowKit.Hid (∀ W : World, BytesAt ms (.slice a3 n3 c3) W → Calls Try.prog 11 #[(.slice a3 n3 c3)] W fun e w' => e = .returned (.agg (natA m)) ∧ Below W.heap.size W w'))
    (IZ : Go.RowKit.Hid (∀ W : World, Calls Try.prog 16 #[.agg (natA m)] W fun e w' => e = .returned (.bool false) ∧ Below W.heap.size W w')) :
    Calls Try.prog 8 #[.slice a0 n0 c0, .slice a1 n1 c1, .slice a2 n2 c2, .slice a3 n3 c3, .int .i64 p, .int .i64 q] w fun e w' => e = .returned (.bool true) ∧ Below w.heap.size w w' := by
  have f0 : decide ((24 : Int) < ((n0 : Nat) : Int)) = false := decide_eq_false (by omega)
  have f1 : decide ((24 : Int) < ((n1 : Nat) : Int)) = false := decide_eq_false (by omega)
  have f2 : decide ((24 : Int) < ((n2 : Nat) : Int)) = false := decide_eq_false (by omega)
  have f3 : decide ((24 : Int) < ((n3 : Nat) : Int)) = false := decide_eq_false (by omega)
  have f5 : decide (p < 0) = false := decide_eq_false (by omega)
  have f6 : decide (q < 0) = true := decide_eq_true (by omega)
  clear h0 h1 h2 h3 h5 h6
  go_enter Try.func8, Try.ntmps8
  go_wp2_with fail
  refine (HFM.out _ HBM.out).mono ?_
  rintro e w1 ⟨rfl, hb⟩
  have HB := Lib.hid hb
  clear hb
  have R_z := Lib.hid (row_st0 w1 m)
  replace HB := Lib.hid (HB.out.trans ((bel_st0 w1 m).mono HB.out.size))
  go_wp2_with fail
  obtain ⟨W1, hW⟩ : ∃ W, (w1.alloc (.cells (natA 0) 28)).setRow w1.heap.size (natA m) = W := ⟨_, rfl⟩
  rw [hW] at HB R_z ⊢
  obtain ⟨gz, hbn⟩ : ∃ b, w1.heap.size = b := ⟨_, rfl⟩
  rw [hbn] at R_z ⊢
  clear hW hbn w1
  refine (IZ.out _).mono ?_
  rintro e w2 ⟨rfl, hb⟩
  replace R_z := Lib.hid (keptW hb R_z.out)
  replace HB := Lib.hid (HB.out.trans (hb.mono HB.out.size))
  clear hb
  go_wp2_with fail
  refine (known_any _).mono ?_
  rintro e wK ⟨rfl, hb⟩
  have HBK := Lib.hid (HB.out.trans (hb.mono HB.out.size))
  clear hb
  go_wp2_with fail
  go_ret
  exact ⟨rfl, HBK.out⟩

set_option maxRecDepth 100000 in
set_option maxHeartbeats 1000000 in
theorem mh_out7 (ms : List Nat) (n0 n1 n2 n3 : Nat) (a0 a1 a2 a3 : Option Addr) (c0 c1 c2 c3 : Nat) (p q : Int) (m : Nat) (w : World)
    (h0 : ¬ 24 < n0) (h1 : ¬ 24 < n1) (h2 : ¬ 24 < n2) (h3 : ¬ 24 < n3) (h5 : ¬ p < 0) (h6 : ¬ q < 0) (h7 : 1048576 < p)
    (HBM : Go.RowKit.Hid (BytesAt ms (.slice a3 n3 c3) w)) (HFM : Go.RowKit.Hid (∀ W : World, BytesAt ms (.slice a3 n3 c3) W → Calls Try.prog 11 #[(.slice a3 n3 c3)] W fun e w' => e = .returned (.agg (natA m)) ∧ Below W.heap.size W w'))
    (IZ : Go.RowKit.Hid (∀ W : World, Calls Try.prog 16 #[.agg (natA m)] W fun e w' => e = .returned (.bool false) ∧ Below W.heap.size W w')) :
    Calls Try.prog 8 #[.slice a0 n0 c0, .slice a1 n1 c1, .slice a2 n2 c2, .slice a3 n3 c3, .int .i64 p, .int .i64 q] w fun e w' => e = .returned (.bool true) ∧ Below w.heap.size w w' := by
  have f0 : decide ((24 : Int) < ((n0 : Nat) : Int)) = false := decide_eq_false (by omega)
  have f1 : decide ((24 : Int) < ((n1 : Nat) : Int)) = false := decide_eq_false (by omega)
  have f2 : decide ((24 : Int) < ((n2 : Nat) : Int)) = false := decide_eq_false (by omega)
  have f3 : decide ((24 : Int) < ((n3 : Nat) : Int)) = false := decide_eq_false (by omega)
  have f5 : decide (p < 0) = false := decide_eq_false (by omega)
  have f6 : decide (q < 0) = false := decide_eq_false (by omega)
  have f7 : decide (1048576 < p) = true := decide_eq_true (by omega)
  clear h0 h1 h2 h3 h5 h6 h7
  go_enter Try.func8, Try.ntmps8
  go_wp2_with fail
  refine (HFM.out _ HBM.out).mono ?_
  rintro e w1 ⟨rfl, hb⟩
  have HB := Lib.hid hb
  clear hb
  have R_z := Lib.hid (row_st0 w1 m)
  replace HB := Lib.hid (HB.out.trans ((bel_st0 w1 m).mono HB.out.size))
  go_wp2_with fail
  obtain ⟨W1, hW⟩ : ∃ W, (w1.alloc (.cells (natA 0) 28)).setRow w1.heap.size (natA m) = W := ⟨_, rfl⟩
  rw [hW] at HB R_z ⊢
  obtain ⟨gz, hbn⟩ : ∃ b, w1.heap.size = b := ⟨_, rfl⟩
  rw [hbn] at R_z ⊢
  clear hW hbn w1
  refine (IZ.out _).mono ?_
  rintro e w2 ⟨rfl, hb⟩
  replace R_z := Lib.hid (keptW hb R_z.out)
  replace HB := Lib.hid (HB.out.trans (hb.mono HB.out.size))
  clear hb
  go_wp2_with fail
  refine (known_any _).mono ?_
  rintro e wK ⟨rfl, hb⟩
  have HBK := Lib.hid (HB.out.trans (hb.mono HB.out.size))
  clear hb
  go_wp2_with fail
  go_ret
  exact ⟨rfl, HBK.out⟩

set_option maxRecDepth 100000 in
set_option maxHeartbeats 1000000 in
theorem mh_out8 (ms : List Nat) (n0 n1 n2 n3 : Nat) (a0 a1 a2 a3 : Option Addr) (c0 c1 c2 c3 : Nat) (p q : Int) (m : Nat) (w : World)
    (h0 : ¬ 24 < n0) (h1 : ¬ 24 < n1) (h2 : ¬ 24 < n2) (h3 : ¬ 24 < n3) (h5 : ¬ p < 0) (h6 : ¬ q < 0) (h7 : ¬ 1048576 < p) (h8 : 1048576 < q)
    (HBM : Go.RowKit.Hid (BytesAt ms (.slice a3 n3 c3) w)) (HFM : Go.RowKit.Hid (∀ W : World, BytesAt ms (.slice a3 n3 c3) W → Calls Try.prog 11 #[(.slice a3 n3 c3)] W fun e w' => e = .returned (.agg (natA m)) ∧ Below W.heap.size W w'))
    (IZ : Go.RowKit.Hid (∀ W : World, Calls Try.prog 16 #[.agg (natA m)] W fun e w' => e = .returned (.bool false) ∧ Below W.heap.size W w')) :
    Calls Try.prog 8 #[.slice a0 n0 c0, .slice a1 n1 c1, .slice a2 n2 c2, .slice a3 n3 c3, .int .i64 p, .int .i64 q] w fun e w' => e = .returned (.bool true) ∧ Below w.heap.size w w' := by
  have f0 : decide ((24 : Int) < ((n0 : Nat) : Int)) = false := decide_eq_false (by omega)
  have f1 : decide ((24 : Int) < ((n1 : Nat) : Int)) = false := decide_eq_false (by omega)
  have f2 : decide ((24 : Int) < ((n2 : Nat) : Int)) = false := decide_eq_false (by omega)
  have f3 : decide ((24 : Int) < ((n3 : Nat) : Int)) = false := decide_eq_false (by omega)
  have f5 : decide (p < 0) = false := decide_eq_false (by omega)
  have f6 : decide (q < 0) = false := decide_eq_false (by omega)
  have f7 : decide (1048576 < p) = false := decide_eq_false (by omega)
  have f8 : decide (1048576 < q) = true := decide_eq_true (by omega)
  clear h0 h1 h2 h3 h5 h6 h7 h8
  go_enter Try.func8, Try.ntmps8
  go_wp2_with fail
  refine (HFM.out _ HBM.out).mono ?_
  rintro e w1 ⟨rfl, hb⟩
  have HB := Lib.hid hb
  clear hb
  have R_z := Lib.hid (row_st0 w1 m)
  replace HB := Lib.hid (HB.out.trans ((bel_st0 w1 m).mono HB.out.size))
  go_wp2_with fail
  obtain ⟨W1, hW⟩ : ∃ W, (w1.alloc (.cells (natA 0) 28)).setRow w1.heap.size (natA m) = W := ⟨_, rfl⟩
  rw [hW] at HB R_z ⊢
  obtain ⟨gz, hbn⟩ : ∃ b, w1.heap.size = b := ⟨_, rfl⟩
  rw [hbn] at R_z ⊢
  clear hW hbn w1
  refine (IZ.out _).mono ?_
  rintro e w2 ⟨rfl, hb⟩
  replace R_z := Lib.hid (keptW hb R_z.out)
  replace HB := Lib.hid (HB.out.trans (hb.mono HB.out.size))
  clear hb
  go_wp2_with fail
  refine (known_any _).mono ?_
  rintro e wK ⟨rfl, hb⟩
  have HBK := Lib.hid (HB.out.trans (hb.mono HB.out.size))
  clear hb
  go_wp2_with fail
  go_ret
  exact ⟨rfl, HBK.out⟩

theorem mh_all (zs ys xs ms : List Nat) (a0 a1 a2 a3 : Option Addr) (c0 c1 c2 c3 : Nat) (p q : Int) (w : World) (hx : BytesAt zs (.slice a0 zs.length c0) w) (hy : BytesAt ys (.slice a1 ys.length c1) w) (hc : BytesAt xs (.slice a2 xs.length c2) w) (hm : BytesAt ms (.slice a3 ms.length c3) w)
    (hn : ms.length ≤ 9223372036854775807) :
    Calls Try.prog 8 #[.slice a0 zs.length c0, .slice a1 ys.length c1, .slice a2 xs.length c2, .slice a3 ms.length c3, .int .i64 p, .int .i64 q] w fun e w' => e = .returned (.bool true) ∧ Below w.heap.size w w' := by
  have HFW := fun W hW => made_wide ms (.slice a3 ms.length c3) W hW hn
  by_cases g0 : 24 < zs.length
  · exact mh_out0 ms _ _ _ _ a0 a1 a2 a3 c0 c1 c2 c3 p q _ w g0 hm HFW
  by_cases g1 : 24 < ys.length
  · exact mh_out1 ms _ _ _ _ a0 a1 a2 a3 c0 c1 c2 c3 p q _ w g0 g1 hm HFW
  by_cases g2 : 24 < xs.length
  · exact mh_out2 ms _ _ _ _ a0 a1 a2 a3 c0 c1 c2 c3 p q _ w g0 g1 g2 hm HFW
  by_cases g3 : 24 < ms.length
  · exact mh_out3 ms _ _ _ _ a0 a1 a2 a3 c0 c1 c2 c3 p q _ w g0 g1 g2 g3 hm HFW
  have bx : valBE 256 zs < P64 ^ 16 := short_fits0 hx.1 (by omega)
  have by_ : valBE 256 ys < P64 ^ 16 := short_fits0 hy.1 (by omega)
  have bc : valBE 256 xs < P64 ^ 16 := short_fits0 hc.1 (by omega)
  have bm : valBE 256 ms < P64 ^ 16 := short_fits0 hm.1 (by omega)
  rw [fb_is bm] at HFW
  have HFX := fun W hW => made_wide zs (.slice a0 zs.length c0) W hW (by omega)
  have HFY := fun W hW => made_wide ys (.slice a1 ys.length c1) W hW (by omega)
  have HFC := fun W hW => made_wide xs (.slice a2 xs.length c2) W hW (by omega)
  rw [fb_is bx] at HFX
  rw [fb_is by_] at HFY
  rw [fb_is bc] at HFC
  generalize valBE 256 zs = x at *
  generalize valBE 256 ys = y at *
  generalize valBE 256 xs = c at *
  generalize valBE 256 ms = m at *
  by_cases g4 : m = 0
  · exact mh_out4 ms _ _ _ _ a0 a1 a2 a3 c0 c1 c2 c3 p q m w g0 g1 g2 g3 hm HFW (isZ_true m g4)
  have h0 : 0 < m := by omega
  have IZ := isZ_false m bm h0
  by_cases g5 : p < 0
  · exact mh_out5 ms _ _ _ _ a0 a1 a2 a3 c0 c1 c2 c3 p q m w g0 g1 g2 g3 g5 hm HFW IZ
  by_cases g6 : q < 0
  · exact mh_out6 ms _ _ _ _ a0 a1 a2 a3 c0 c1 c2 c3 p q m w g0 g1 g2 g3 g5 g6 hm HFW IZ
  by_cases g7 : 1048576 < p
  · exact mh_out7 ms _ _ _ _ a0 a1 a2 a3 c0 c1 c2 c3 p q m w g0 g1 g2 g3 g5 g6 g7 hm HFW IZ
  by_cases g8 : 1048576 < q
  · exact mh_out8 ms _ _ _ _ a0 a1 a2 a3 c0 c1 c2 c3 p q m w g0 g1 g2 g3 g5 g6 g7 g8 hm HFW IZ
  obtain ⟨p, rfl⟩ : ∃ n : Nat, p = n := ⟨p.toNat, by omega⟩
  obtain ⟨q, rfl⟩ : ∃ n : Nat, q = n := ⟨q.toNat, by omega⟩
  have bd : ∀ v, v % m < P64 ^ 16 := fun v => Nat.lt_trans (Nat.mod_lt v h0) bm
  have bp : p < P64 ^ 16 := kS (by omega)
  have bq : q < P64 ^ 16 := kS (by omega)
  have bpq : p + q < P64 ^ 16 := kS (by omega)
  have bD : (x % m + (m - y % m)) % m < P64 ^ 16 := bd _
  have X : ∀ b v r : Nat, b < P64 ^ 16 → v < P64 ^ 16 → b ^ v % m = r → ∀ W : World, Calls Try.prog 23 #[.agg (natA b), .agg (natA v), .agg (natA m)] W fun e w' => e = .returned (.tuple #[.agg (natA r), .int .i64 0]) ∧ Below W.heap.size W w' := fun b v r hb hv hr W => by
    have h := mod_exp_pos m b v bm h0 hb hv W
    rw [pm_eq, hr] at h
    exact h
  exact mh_walk zs ys xs ms zs.length ys.length xs.length ms.length a0 a1 a2 a3 c0 c1 c2 c3 p q x y c m ((x + y) % m) (c * (x + y) % m) (c * x % m) (c * y % m) (c * x * y % m) (x * y % m) ((x % m + (m - y % m)) % m) (x % m) (x ^ p % m) (x ^ q % m) (x ^ (p + q) % m) w
    (by omega) (by omega) (by omega) (by omega) (by omega) (by omega) hm hx hy hc HFW HFX HFY HFC IZ
    (mod_add_pos m x y _ bm h0 bx by_ (mh_sum m x y))
    (mod_mul_pos m c _ _ bm h0 bc (bd _) (by rw [tm_mod, tm_eq]; exact mh_left m x y c))
    (mod_mul_pos m c x _ bm h0 bc bx (by rw [tm_mod, tm_eq]))
    (mod_mul_pos m c y _ bm h0 bc by_ (by rw [tm_mod, tm_eq]))
    (mod_add_pos m _ _ _ bm h0 (bd _) (bd _) (mh_right m x y c))
    (mod_mul_pos m _ y _ bm h0 (bd _) by_ (by rw [tm_mod, tm_eq]; exact mh_pq m x y c))
    (mod_mul_pos m x y _ bm h0 bx by_ (by rw [tm_mod, tm_eq]))
    (mod_mul_pos m c _ _ bm h0 bc (bd _) (by rw [tm_mod, tm_eq]; exact mh_wxy m x y c))
    (mod_sub_pos m x y _ bm h0 bx by_ rfl)
    (mod_add_pos m _ y _ bm h0 (bd _) by_ (mh_back m x y h0))
    (reduce_pos m x bm h0 bx) (cmp_less (x % m) m bm (Nat.mod_lt x h0))
    (number_any p (by omega)) (number_any q (by omega)) (fun W => k_num _ (p + q) (by omega) (by omega) W)
    (X x p _ bx bp rfl) (X (x % m) q _ (bd _) bq (mh_pow m x q)) (X x (p + q) _ bx bpq rfl)
    (mod_mul_pos m _ _ _ bm h0 (bd _) (bd _) (by rw [tm_mod, tm_eq]; exact mh_prod m x p q))
    (neq_self (bd _)) (neq_self (bd _)) (neq_self (bd _)) (neq_self (bd _))

end Go.Proofs.Ytlmfiggmjpjpiaa
