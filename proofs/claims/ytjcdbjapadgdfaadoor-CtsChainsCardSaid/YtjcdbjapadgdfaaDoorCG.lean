/- known, of law07. -/
import Derived.StillTailTactics
import Derived.Lib.SlBytesConst
import Derived.Deep.RegionHeld3
import Derived.Test.YtjcdbjapadgdfaaDoorCF
namespace Go.Proofs.YtjcdbjapadgdfaaDoor
open Go.RowKit Go.Shelf

attribute [local go_sem] Oper.semAt_some
def JK : List Nat := [99, 104, 105, 99, 107, 101, 110, 32, 116, 101, 114, 105, 121, 97, 107, 105]
def JT : List Nat := [73, 32, 119, 111, 117, 108, 100, 32, 108, 105, 107, 101, 32, 116, 104, 101, 32]
def JD : List Nat := [198, 53, 53, 104, 242, 191, 140, 180, 216, 165, 128, 54, 45, 167, 255, 127, 151]
theorem enc_jefe : encL JK (zr 16) JT = JD := by rw [zr_eq]; decide +kernel
theorem str_jefe : strOf JD = { data := #[198, 53, 53, 104, 242, 191, 140, 180, 216, 165, 128, 54, 45, 167, 255, 127, 151] } := by rfl
theorem JK_256 : ∀ x ∈ JK, x < 256 := by decide
theorem JT_256 : ∀ x ∈ JT, x < 256 := by decide
theorem JK_lit : (#[Value.int .u8 99, Value.int .u8 104, Value.int .u8 105, Value.int .u8 99, Value.int .u8 107, Value.int .u8 101, Value.int .u8 110, Value.int .u8 32, Value.int .u8 116, Value.int .u8 101, Value.int .u8 114, Value.int .u8 105, Value.int .u8 121, Value.int .u8 97, Value.int .u8 107, Value.int .u8 105] : Array Value) = arr .u8 JK := by rw [arr_lit]; rfl
theorem JK_size : (arr .u8 JK).size = 16 := by rw [arr_size]; rfl
theorem zr16_256 (n : Nat) : ∀ x ∈ zr n, x < 256 := by rw [zr_eq]; intro x hx; rw [List.mem_replicate] at hx; omega
theorem zrl (n : Nat) : (zr n).length = n := by rw [zr_eq]; simp
theorem run_made15 (W : World) : (Instr.makeSlice 22 (.int .i64 15) (.int .i64 15)).run Tryd.prog W = .ok (.slice (some ⟨W.heap.size, 0, none⟩) 15 15) (W.alloc (.cells (arr .u8 (zr 15)) 5)) := by
  obtain ⟨i0, hi, hz0, hz1, hz2⟩ := info_parts Tryd.info5
  rw [run_makeSlice W 22 5 i0 (.int .u8 0) Tryd.underlying22 hi hz0 .i64 .i64 15 15 (by omega) (by omega) (by rw [hz1]; omega) (by rw [hz2]; decide) (by omega), hz1, arr_lit, zr_eq, List.map_replicate]
  kernel_rfl
theorem bytes_const {V : World} {g n : Nat} {l : List Nat} {fz : Nat × Nat} (h256 : ∀ x ∈ l, x < 256) (hn : l.length = n) (hh : V.heap[g]? = some (.cells (arr .u8 l) 5 fz)) : BytesAt l (.slice (some ⟨g, 0, none⟩) n n) V := by
  have hg : g < V.heap.size := (Array.getElem?_eq_some_iff.1 hh).1
  rw [arr_lit] at hh
  refine ⟨h256, _, n, by rw [hn], by omega, .inr ⟨g, 0, rfl, hg, fun j hj => ?_⟩⟩
  unfold World.cell?
  simp only [hh, Nat.zero_add]
  simp [List.getD, hj]
def tObj : Obj := .cells #[.int .u8 73, .int .u8 32, .int .u8 119, .int .u8 111, .int .u8 117, .int .u8 108, .int .u8 100, .int .u8 32, .int .u8 108, .int .u8 105, .int .u8 107, .int .u8 101, .int .u8 32, .int .u8 116, .int .u8 104, .int .u8 101, .int .u8 32] 5 (17, 18)
theorem conv17 (W : World) : (convert 22 22 (.slice (some ⟨W.heap.size, 0, none⟩) 17 17)).run Tryd.prog (W.alloc (.cells #[.int .u8 73, .int .u8 32, .int .u8 119, .int .u8 111, .int .u8 117, .int .u8 108, .int .u8 100, .int .u8 32, .int .u8 108, .int .u8 105, .int .u8 107, .int .u8 101, .int .u8 32, .int .u8 116, .int .u8 104, .int .u8 101, .int .u8 32] 5)) = .ok (.slice (some ⟨W.heap.size, 0, none⟩) 17 17) (W.alloc tObj) :=
  Lib.run_convert_bytes_const W 22 5 #[.int .u8 73, .int .u8 32, .int .u8 119, .int .u8 111, .int .u8 117, .int .u8 108, .int .u8 100, .int .u8 32, .int .u8 108, .int .u8 105, .int .u8 107, .int .u8 101, .int .u8 32, .int .u8 116, .int .u8 104, .int .u8 101, .int .u8 32] 17 17 Tryd.underlying22 Tryd.underlying5
theorem tObj_eq : tObj = .cells (arr .u8 JT) 5 (17, 18) := by rw [arr_lit]; rfl
/-- A row becomes a constant's. -/
theorem conv_row {W : World} {g : Nat} {l : List Nat} (n c : Nat) (h : RowT W g l) : ∃ V, (convert 22 22 (.slice (some ⟨g, 0, none⟩) n c)).run Tryd.prog W = .ok (.slice (some ⟨g, 0, none⟩) n c) V ∧ V.heap[g]? = some (.cells (arr .u8 l) 5 ((arr .u8 l).size, (arr .u8 l).size + 1)) ∧ V.heap.size = W.heap.size ∧ Below g W V ∧ ∀ k, k ≠ g → V.heap[k]? = W.heap[k]? := by
  have h' : W.heap[g]? = some (.cells (arr .u8 l) 5 (0, 0)) := h
  have hsh : W.shape? g = some (5, (arr .u8 l).size) := by unfold World.shape?; rw [h']
  have ho : ∀ k, k ≠ g → (W.freeze ⟨g, (arr .u8 l).size, none⟩ 1).heap[k]? = W.heap[k]? := fun k hk => by
    unfold World.freeze
    rw [if_neg (by decide)]
    simp only [Array.getElem?_modify]
    rw [if_neg (fun e => hk e.symm)]
  refine ⟨W.freeze ⟨g, (arr .u8 l).size, none⟩ 1, ?_, ?_, ?_, ⟨?_, ?_, ?_, ?_, fun k hk => ho k (by omega)⟩, ho⟩
  · simp [convert, run_underlying Tryd.underlying22, run_underlying Tryd.underlying5, markStringish, hsh]
  · unfold World.freeze
    rw [if_neg (by decide)]
    simp only [Array.getElem?_modify, if_true, h']
    rfl
  all_goals (unfold World.freeze; rw [if_neg (by decide)]; try simp)
/-- known's key and iv: how far they are. -/
def KI (w : World) (s t gk gz : Nat) (W : World) : Prop :=
  Below w.heap.size w W ∧ (s = 1 → w.heap.size ≤ gk ∧ RowT W gk JK) ∧ (s = 2 → w.heap.size ≤ gk ∧ BytesAt JK (.slice (some ⟨gk, 0, none⟩) 16 16) W) ∧ (t = 1 → rowN W gz = some (arr .u8 (zr 16))) ∧ (t = 1 → s = 1 → gk ≠ gz)
theorem KI.kept {w W V : World} {s t gk gz : Nat} (h : KI w s t gk gz W) (hb : Below W.heap.size W V) : KI w s t gk gz V :=
  ⟨h.1.trans (hb.mono h.1.size), fun e => ⟨(h.2.1 e).1, (h.2.1 e).2.kept hb (h.2.1 e).2.lt⟩, fun e => ⟨(h.2.2.1 e).1, (h.2.2.1 e).2.kept hb⟩, fun e => keptW hb (h.2.2.2.1 e), h.2.2.2.2⟩
theorem KI.start (w : World) : KI w 0 0 0 0 w.drew := ⟨(Below.refl _ _).drew, fun e => (by cases e), fun e => (by cases e), fun e => (by cases e), fun e => (by cases e)⟩
theorem KI.build {w W : World} {t gz : Nat} (h : KI w 0 t 0 gz W) : KI w 1 t W.heap.size gz (W.alloc (.cells (arr .u8 JK) 5)) := by
  have hb : Below W.heap.size W (W.alloc (.cells (arr .u8 JK) 5)) := (Below.refl _ _).alloc (Nat.le_refl _) _
  have h2 := h.kept hb
  refine ⟨h2.1, fun _ => ⟨h.1.size, World.alloc_heap_new W _⟩, fun e => (by cases e), h2.2.2.2.1, fun e _ => ?_⟩
  have := rowN_lt (h.2.2.2.1 e)
  omega
theorem KI.make {w W : World} {s gk : Nat} (h : KI w s 0 gk 0 W) : KI w s 1 gk W.heap.size (W.alloc (.cells (arr .u8 (zr 16)) 5)) := by
  have hb : Below W.heap.size W (W.alloc (.cells (arr .u8 (zr 16)) 5)) := (Below.refl _ _).alloc (Nat.le_refl _) _
  have h2 := h.kept hb
  refine ⟨h2.1, h2.2.1, h2.2.2.1, fun _ => by rw [rowN_alloc, if_pos rfl], fun _ e => ?_⟩
  have := (h.2.1 e).2.lt
  omega
theorem KI.conv {w W : World} {t gk gz : Nat} (h : KI w 1 t gk gz W) : ∃ V, (convert 22 22 (.slice (some ⟨gk, 0, none⟩) 16 16)).run Tryd.prog W = .ok (.slice (some ⟨gk, 0, none⟩) 16 16) V ∧ KI w 2 t gk gz V := by
  obtain ⟨V, h1, h2, h3, h4, h5⟩ := conv_row 16 16 (h.2.1 rfl).2
  refine ⟨V, h1, h.1.trans (h4.mono (h.2.1 rfl).1), fun e => (by cases e), fun _ => ⟨(h.2.1 rfl).1, bytes_const JK_256 rfl h2⟩, fun e => ?_, fun _ e => (by cases e)⟩
  have := h.2.2.2.1 e
  unfold rowN at this ⊢
  rw [h5 gz (fun hh => h.2.2.2.2 e rfl hh.symm)]
  exact this
set_option maxRecDepth 100000 in
set_option maxHeartbeats 4000000 in
theorem known_any (w : World) : Calls Tryd.prog 5 #[] w fun e w' => e = .returned (.bool true) ∧ Below w.heap.size w w' := by
  have HENC := Lib.hid (fun (gk gz : Nat) (W : World) (h : KI w 2 1 gk gz W) => show Calls Tryd.prog 6 #[.slice (some ⟨gk, 0, none⟩) 16 16, .slice (some ⟨gz, 0, none⟩) 16 16, .slice (some ⟨W.heap.size, 0, none⟩) 17 17] (W.alloc tObj) (fun e w' => ∃ s', e = .returned (.tuple #[s', .int .i64 0]) ∧ BytesAt JD s' w' ∧ Nil0 s' ∧ KI w 2 1 gk gz w') from by
    have hb : Below W.heap.size W (W.alloc tObj) := (Below.refl _ _).alloc (Nat.le_refl _) _
    have h2 := h.kept hb
    have hT : BytesAt JT (.slice (some ⟨W.heap.size, 0, none⟩) 17 17) (W.alloc tObj) := bytes_const (fz := (17, 18)) JT_256 rfl (by rw [tObj_eq]; exact World.alloc_heap_new W _)
    have h3 := enc_any JK (zr 16) JT _ _ _ 17 17 rfl rfl (zrl 16) (by omega) (by omega) (W.alloc tObj) (h2.2.2.1 rfl).2 (bytes_row (zr16_256 16) (h2.2.2.2.1 rfl) 16 (zrl 16)) hT
    rw [enc_jefe] at h3
    refine h3.mono ?_
    rintro e w' ⟨s', e1, e2, e3, _, e4⟩
    exact ⟨s', e1, e2, e3, h2.kept e4⟩)
  have HSH := Lib.hid (fun (gk gz : Nat) (W : World) (h : KI w 2 1 gk gz W) => show Calls Tryd.prog 6 #[.slice (some ⟨gk, 0, none⟩) 16 16, .slice (some ⟨gz, 0, none⟩) 16 16, .slice (some ⟨W.heap.size, 0, none⟩) 15 15] (W.alloc (.cells (arr .u8 (zr 15)) 5)) (fun e w' => e = .returned (.tuple #[.slice none 0 0, .int .i64 4]) ∧ Below W.heap.size W w') from by
    have hb : Below W.heap.size W (W.alloc (.cells (arr .u8 (zr 15)) 5)) := (Below.refl _ _).alloc (Nat.le_refl _) _
    have h2 := h.kept hb
    refine (enc_short JK (zr 16) _ _ _ 15 15 rfl (zrl 16) (by omega) _ (h2.2.2.1 rfl).2 (bytes_row (zr16_256 16) (h2.2.2.2.1 rfl) 16 (zrl 16))).mono ?_
    rintro e w' ⟨e1, e4⟩
    exact ⟨e1, hb.trans (e4.mono hb.size)⟩)
  have HAR := Lib.hid (fun (gk gz : Nat) (W : World) (h : KI w 2 1 gk gz W) => show Calls Tryd.prog 6 #[.slice (some ⟨gk, 0, none⟩) 16 16, .slice (some ⟨gz, 0, none⟩) 15 16, .slice (some ⟨W.heap.size, 0, none⟩) 16 16] (W.alloc (.cells (arr .u8 (zr 16)) 5)) (fun e w' => e = .returned (.tuple #[.slice none 0 0, .int .i64 2]) ∧ Below W.heap.size W w') from by
    have hb : Below W.heap.size W (W.alloc (.cells (arr .u8 (zr 16)) 5)) := (Below.refl _ _).alloc (Nat.le_refl _) _
    have h2 := h.kept hb
    have hz := bytes_cutm (bytes_row (zr16_256 16) (h2.2.2.2.1 rfl) 16 (zrl 16)) 0 15 16 (by rw [zrl]; omega) (by omega)
    refine (enc_arg JK _ _ _ _ 16 16 (.inr (by rw [List.length_take, List.drop_zero, zrl]; decide)) _ (h2.2.2.1 rfl).2 hz).mono ?_
    rintro e w' ⟨e1, e4⟩
    exact ⟨e1, hb.trans (e4.mono hb.size)⟩)
  have HSTR := Lib.hid str_jefe
  obtain ⟨O, hO⟩ : ∃ O, JD = O := ⟨_, rfl⟩
  rw [hO] at HENC HSTR
  have HL_0 := Lib.hid (show Below w.heap.size w w.drew from (Below.refl _ w).drew)
  have HI_0 := Lib.hid (KI.start w)
  have hm16 := run_made16
  have hm15 := run_made15
  have hcv := conv17
  clear hO
  go_enter Tryd.func5, Tryd.ntmps5
  go_upto_region 1 with fail
  refine wp_region_noPanic ?_
  refine wp_region_held_drew (S := fun W => True) (by kernel_rfl) trivial (fun hHeld0 => ?_)
  obtain ⟨x0, hx0⟩ : ∃ X, w.drew = X := ⟨_, rfl⟩
  rw [hx0] at HI_0 HL_0 ⊢
  clear hx0
  refine wpAnyH_ready (rs := [0, 2]) (by kernel_rfl) (by simp) ?_
  refine AllReadyH.cons (o := { dst := some 9, op := Op.buildSlice 22 16 #[(0, Operand.const (Value.int IntKind.u8 99)), (1, Operand.const (Value.int IntKind.u8 104)), (2, Operand.const (Value.int IntKind.u8 105)), (3, Operand.const (Value.int IntKind.u8 99)), (4, Operand.const (Value.int IntKind.u8 107)), (5, Operand.const (Value.int IntKind.u8 101)), (6, Operand.const (Value.int IntKind.u8 110)), (7, Operand.const (Value.int IntKind.u8 32)), (8, Operand.const (Value.int IntKind.u8 116)), (9, Operand.const (Value.int IntKind.u8 101)), (10, Operand.const (Value.int IntKind.u8 114)), (11, Operand.const (Value.int IntKind.u8 105)), (12, Operand.const (Value.int IntKind.u8 121)), (13, Operand.const (Value.int IntKind.u8 97)), (14, Operand.const (Value.int IntKind.u8 107)), (15, Operand.const (Value.int IntKind.u8 105))], type := 22, pos := "law.go:12", after := #[], guard := none }) rfl (fun K' hK => ?_) ?_
  · go_simp
    try rw [JK_lit]
    have hi := HI_0.out.build
    obtain ⟨x1, hy⟩ : ∃ X, x0.alloc (.cells (arr .u8 JK) 5) = X := ⟨_, rfl⟩
    rw [hy] at hi
    rw [hy]
    obtain ⟨gk, hgk⟩ : ∃ g, x0.heap.size = g := ⟨_, rfl⟩
    rw [hgk] at hi
    rw [hgk]
    have HI_1 := Lib.hid hi
    clear hi hy hgk
    refine hK.out _ _ trivial (fun hHeld1 => ?_)
    clear hK K'
    try simp only [Act.put, List.setIfInBounds_toArray, List.set_cons_zero, List.set_cons_succ]
    refine wpAnyH_ready (rs := [1, 2]) (by kernel_rfl) (by simp) ?_
    refine AllReadyH.cons (o := { dst := some 10, op := Op.convert 22 22 (Operand.tmp 9), type := 22, pos := "law.go:12", after := #[{ on := 0, ground := Ground.data }], guard := none }) rfl (fun K' hK => ?_) ?_
    · obtain ⟨x2, hcv1, hi⟩ := HI_1.out.conv
      go_simp
      have HI_2 := Lib.hid hi
      clear hi hcv1
      refine hK.out _ _ trivial (fun hHeld2 => ?_)
      clear hK K'
      try simp only [Act.put, List.setIfInBounds_toArray, List.set_cons_zero, List.set_cons_succ]
      refine wpAnyH_take (i := 3) (oi := { dst := some 1, op := Op.assign (Operand.tmp 10), type := 22, pos := "law.go:12", after := #[{ on := 1, ground := Ground.data }, { on := 0, ground := Ground.phase }, { on := 1, ground := Ground.phase }, { on := 2, ground := Ground.textOnly Departure.lateStoresUnsure }], guard := none }) (v := ?tk0) rfl (by kernel_rfl) (by kernel_rfl) (by kernel_rfl) (fun _ _ _ h => h) (Or.inl ⟨by rfl, ?tw0⟩) hHeld2 ?_
      case tw0 => (intro W hW; clear hW; first | (go_simp; done) | (go_simp; with_reducible rfl))
      try simp only [Act.put, List.setIfInBounds_toArray, List.set_cons_zero, List.set_cons_succ]
      refine wpAnyH_ready (rs := [2]) (by kernel_rfl) (by simp) ?_
      refine AllReadyH.cons (o := { dst := some 11, op := Op.makeSlice 22 (Operand.const (Value.int IntKind.i64 16)) (Operand.const (Value.int IntKind.i64 16)), type := 22, pos := "law.go:12", after := #[], guard := none }) rfl (fun K' hK => ?_) AllReadyH.nil
      go_simp
      have hi := HI_2.out.make
      obtain ⟨x3, hy⟩ : ∃ X, x2.alloc (.cells (arr .u8 (zr 16)) 5) = X := ⟨_, rfl⟩
      rw [hy] at hi
      rw [hy]
      obtain ⟨gz, hgz⟩ : ∃ g, x2.heap.size = g := ⟨_, rfl⟩
      rw [hgz] at hi
      rw [hgz]
      have HI_3 := Lib.hid hi
      clear hi hy hgz
      refine hK.out _ _ trivial (fun hHeld3 => ?_)
      clear hK K'
      try simp only [Act.put, List.setIfInBounds_toArray, List.set_cons_zero, List.set_cons_succ]
      refine wpAnyH_take (i := 4) (oi := { dst := some 2, op := Op.assign (Operand.tmp 11), type := 22, pos := "law.go:12", after := #[{ on := 2, ground := Ground.data }, { on := 3, ground := Ground.chain }, { on := 0, ground := Ground.phase }, { on := 1, ground := Ground.phase }, { on := 2, ground := Ground.phase }, { on := 3, ground := Ground.phase }], guard := none }) (v := ?tk1) rfl (by kernel_rfl) (by kernel_rfl) (by kernel_rfl) (fun _ _ _ h => h) (Or.inl ⟨by rfl, ?tw1⟩) hHeld3 ?_
      case tw1 => (intro W hW; clear hW; first | (go_simp; done) | (go_simp; with_reducible rfl))
      try simp only [Act.put, List.setIfInBounds_toArray, List.set_cons_zero, List.set_cons_succ]
      refine wpAnyH_done (by kernel_rfl) ?_ _
      refine NoPanic.normal ?_
      go_wp2_with fail
      refine (HENC.out gk gz _ HI_3.out).mono ?_
      rintro e v1 ⟨s1, rfl, hb1, hn1, hi1⟩
      have HB1 := Lib.hid hb1
      have HN1 := Lib.hid hn1
      have HI1 := Lib.hid hi1
      clear hb1 hn1 hi1
      go_wp2_with fail
      refine (HSH.out gk gz _ HI1.out).mono ?_
      rintro e v2 ⟨rfl, hb⟩
      have HB2 := Lib.hid (HB1.out.kept hb)
      have HI2 := Lib.hid (HI1.out.kept hb)
      clear hb
      go_upto_region 4 with fail
      have HL_0 := Lib.hid (show Below v2.heap.size v2 v2.drew from (Below.refl _ v2).drew)
      refine wp_region_noPanic ?_
      refine wp_region_held_drew (S := fun W => True) (by kernel_rfl) trivial (fun hHeld0 => ?_)
      obtain ⟨x0, hx0⟩ : ∃ X, v2.drew = X := ⟨_, rfl⟩
      rw [hx0] at  HL_0 ⊢
      clear hx0
      refine wpAnyH_take (i := 0) (oi := { dst := some 28, op := Op.move (Operand.tmp 1), type := 22, pos := "law.go:15", after := #[], guard := none }) (v := ?tk2) rfl (by kernel_rfl) (by kernel_rfl) (by kernel_rfl) (fun _ _ _ h => h) (Or.inl ⟨by rfl, ?tw2⟩) hHeld0 ?_
      case tw2 => (intro W hW; clear hW; first | (go_simp; done) | (go_simp; with_reducible rfl))
      try simp only [Act.put, List.setIfInBounds_toArray, List.set_cons_zero, List.set_cons_succ]
      refine wpAnyH_take (i := 1) (oi := { dst := some 29, op := Op.move (Operand.tmp 2), type := 22, pos := "law.go:15", after := #[], guard := none }) (v := ?tk3) rfl (by kernel_rfl) (by kernel_rfl) (by kernel_rfl) (fun _ _ _ h => h) (Or.inl ⟨by rfl, ?tw3⟩) hHeld0 ?_
      case tw3 => (intro W hW; clear hW; first | (go_simp; done) | (go_simp; with_reducible rfl))
      try simp only [Act.put, List.setIfInBounds_toArray, List.set_cons_zero, List.set_cons_succ]
      refine wpAnyH_take (i := 2) (oi := { dst := some 30, op := Op.slice 22 (Operand.tmp 29) none (some (Operand.const (Value.int IntKind.i64 15))) none, type := 22, pos := "law.go:15", after := #[{ on := 1, ground := Ground.data }], guard := none }) (v := ?tk4) rfl (by kernel_rfl) (by kernel_rfl) (by kernel_rfl) (fun _ _ _ h => h) (Or.inl ⟨by rfl, ?tw4⟩) hHeld0 ?_
      case tw4 => (intro W hW; clear hW; first | (go_simp; done) | (go_simp; with_reducible rfl))
      try simp only [Act.put, List.setIfInBounds_toArray, List.set_cons_zero, List.set_cons_succ]
      refine wpAnyH_ready (rs := [3]) (by kernel_rfl) (by simp) ?_
      refine AllReadyH.cons (o := { dst := some 31, op := Op.makeSlice 22 (Operand.const (Value.int IntKind.i64 16)) (Operand.const (Value.int IntKind.i64 16)), type := 22, pos := "law.go:15", after := #[], guard := none }) rfl (fun K' hK => ?_) AllReadyH.nil
      go_simp
      have HG := Lib.hid (show KI w 2 1 gk gz x0 from HI2.out.kept HL_0.out)
      have hcall := HAR.out gk gz _ HG.out
      obtain ⟨x1, hy⟩ : ∃ X, x0.alloc (.cells (arr .u8 (zr 16)) 5) = X := ⟨_, rfl⟩
      rw [hy] at hcall
      rw [hy]
      have HC := Lib.hid hcall
      have HLB_1 := HL_0
      clear hy hcall HG
      refine hK.out _ _ trivial (fun hHeld1 => ?_)
      clear hK K'
      try simp only [Act.put, List.setIfInBounds_toArray, List.set_cons_zero, List.set_cons_succ]
      refine wpAnyH_ready (rs := [4]) (by kernel_rfl) (by simp) ?_
      refine AllReadyH.cons (o := { dst := some 32, op := Op.call { callee := Callee.value (Operand.func 6), args := #[Operand.tmp 28, Operand.tmp 30, Operand.tmp 31], argTypes := #[22, 22, 22] }, type := 25, pos := "law.go:15", after := #[{ on := 0, ground := Ground.data }, { on := 2, ground := Ground.data }, { on := 3, ground := Ground.data }], guard := none }) rfl (fun K' hK => ?_) AllReadyH.nil
      go_simp
      refine HC.out.mono ?_
      rintro e x2 ⟨rfl, hb⟩
      have HL_2 := Lib.hid (HLB_1.out.trans (hb.mono HLB_1.out.size))
      clear hb
      refine hK.out _ _ trivial (fun hHeld2 => ?_)
      clear hK K'
      try simp only [Act.put, List.setIfInBounds_toArray, List.set_cons_zero, List.set_cons_succ]
      refine wpAnyH_take (i := 5) (oi := { dst := some 27, op := Op.move (Operand.tmp 32), type := 25, pos := "law.go:15", after := #[{ on := 4, ground := Ground.data }], guard := none }) (v := ?tk5) rfl (by kernel_rfl) (by kernel_rfl) (by kernel_rfl) (fun _ _ _ h => h) (Or.inl ⟨by rfl, ?tw5⟩) hHeld2 ?_
      case tw5 => (intro W hW; clear hW; first | (go_simp; done) | (go_simp; with_reducible rfl))
      try simp only [Act.put, List.setIfInBounds_toArray, List.set_cons_zero, List.set_cons_succ]
      refine wpAnyH_take (i := 6) (oi := { dst := some 33, op := Op.extract (Operand.tmp 27) 0, type := 22, pos := "law.go:15", after := #[{ on := 5, ground := Ground.data }], guard := none }) (v := ?tk6) rfl (by kernel_rfl) (by kernel_rfl) (by kernel_rfl) (fun _ _ _ h => h) (Or.inl ⟨by rfl, ?tw6⟩) hHeld2 ?_
      case tw6 => (intro W hW; clear hW; first | (go_simp; done) | (go_simp; with_reducible rfl))
      try simp only [Act.put, List.setIfInBounds_toArray, List.set_cons_zero, List.set_cons_succ]
      refine wpAnyH_take (i := 7) (oi := { dst := some 34, op := Op.extract (Operand.tmp 27) 1, type := 24, pos := "law.go:15", after := #[{ on := 5, ground := Ground.data }, { on := 8, ground := Ground.gcOnly Departure.lateStores }], guard := none }) (v := ?tk7) rfl (by kernel_rfl) (by kernel_rfl) (by kernel_rfl) (fun _ _ _ h => h) (Or.inl ⟨by rfl, ?tw7⟩) hHeld2 ?_
      case tw7 => (intro W hW; clear hW; first | (go_simp; done) | (go_simp; with_reducible rfl))
      try simp only [Act.put, List.setIfInBounds_toArray, List.set_cons_zero, List.set_cons_succ]
      refine wpAnyH_take (i := 8) (oi := { dst := some 7, op := Op.assign (Operand.tmp 33), type := 22, pos := "law.go:15", after := #[{ on := 6, ground := Ground.data }, { on := 4, ground := Ground.chain }, { on := 0, ground := Ground.phase }, { on := 1, ground := Ground.phase }, { on := 2, ground := Ground.phase }, { on := 3, ground := Ground.phase }, { on := 4, ground := Ground.phase }, { on := 5, ground := Ground.phase }, { on := 6, ground := Ground.phase }, { on := 7, ground := Ground.textOnly Departure.lateStores }], guard := none }) (v := ?tk8) rfl (by kernel_rfl) (by kernel_rfl) (by kernel_rfl) (fun _ _ _ h => h) (Or.inl ⟨by rfl, ?tw8⟩) hHeld2 ?_
      case tw8 => (intro W hW; clear hW; first | (go_simp; done) | (go_simp; with_reducible rfl))
      try simp only [Act.put, List.setIfInBounds_toArray, List.set_cons_zero, List.set_cons_succ]
      refine wpAnyH_take (i := 9) (oi := { dst := some 8, op := Op.assign (Operand.tmp 34), type := 24, pos := "law.go:15", after := #[{ on := 7, ground := Ground.data }, { on := 8, ground := Ground.chain }, { on := 0, ground := Ground.phase }, { on := 1, ground := Ground.phase }, { on := 2, ground := Ground.phase }, { on := 3, ground := Ground.phase }, { on := 4, ground := Ground.phase }, { on := 5, ground := Ground.phase }, { on := 6, ground := Ground.phase }, { on := 7, ground := Ground.phase }, { on := 8, ground := Ground.phase }], guard := none }) (v := ?tk9) rfl (by kernel_rfl) (by kernel_rfl) (by kernel_rfl) (fun _ _ _ h => h) (Or.inl ⟨by rfl, ?tw9⟩) hHeld2 ?_
      case tw9 => (intro W hW; clear hW; first | (go_simp; done) | (go_simp; with_reducible rfl))
      try simp only [Act.put, List.setIfInBounds_toArray, List.set_cons_zero, List.set_cons_succ]
      refine wpAnyH_done (by kernel_rfl) ?_ _
      refine NoPanic.normal ?_
      have HI3 := Lib.hid (HI2.out.kept HL_2.out)
      have hst := str_bytes (HB2.out.kept HL_2.out) HN1.out
      rw [HSTR.out] at hst
      go_wp2_with fail
      go_ret
      exact ⟨rfl, HI3.out.1⟩
    refine AllReadyH.cons (o := { dst := some 11, op := Op.makeSlice 22 (Operand.const (Value.int IntKind.i64 16)) (Operand.const (Value.int IntKind.i64 16)), type := 22, pos := "law.go:12", after := #[], guard := none }) rfl (fun K' hK => ?_) AllReadyH.nil
    go_simp
    have hi := HI_1.out.make
    obtain ⟨x2, hy⟩ : ∃ X, x1.alloc (.cells (arr .u8 (zr 16)) 5) = X := ⟨_, rfl⟩
    rw [hy] at hi
    rw [hy]
    obtain ⟨gz, hgz⟩ : ∃ g, x1.heap.size = g := ⟨_, rfl⟩
    rw [hgz] at hi
    rw [hgz]
    have HI_2 := Lib.hid hi
    clear hi hy hgz
    refine hK.out _ _ trivial (fun hHeld2 => ?_)
    clear hK K'
    try simp only [Act.put, List.setIfInBounds_toArray, List.set_cons_zero, List.set_cons_succ]
    refine wpAnyH_ready (rs := [1]) (by kernel_rfl) (by simp) ?_
    refine AllReadyH.cons (o := { dst := some 10, op := Op.convert 22 22 (Operand.tmp 9), type := 22, pos := "law.go:12", after := #[{ on := 0, ground := Ground.data }], guard := none }) rfl (fun K' hK => ?_) AllReadyH.nil
    obtain ⟨x3, hcv1, hi⟩ := HI_2.out.conv
    go_simp
    have HI_3 := Lib.hid hi
    clear hi hcv1
    refine hK.out _ _ trivial (fun hHeld3 => ?_)
    clear hK K'
    try simp only [Act.put, List.setIfInBounds_toArray, List.set_cons_zero, List.set_cons_succ]
    refine wpAnyH_take (i := 3) (oi := { dst := some 1, op := Op.assign (Operand.tmp 10), type := 22, pos := "law.go:12", after := #[{ on := 1, ground := Ground.data }, { on := 0, ground := Ground.phase }, { on := 1, ground := Ground.phase }, { on := 2, ground := Ground.textOnly Departure.lateStoresUnsure }], guard := none }) (v := ?tk10) rfl (by kernel_rfl) (by kernel_rfl) (by kernel_rfl) (fun _ _ _ h => h) (Or.inl ⟨by rfl, ?tw10⟩) hHeld3 ?_
    case tw10 => (intro W hW; clear hW; first | (go_simp; done) | (go_simp; with_reducible rfl))
    try simp only [Act.put, List.setIfInBounds_toArray, List.set_cons_zero, List.set_cons_succ]
    refine wpAnyH_take (i := 4) (oi := { dst := some 2, op := Op.assign (Operand.tmp 11), type := 22, pos := "law.go:12", after := #[{ on := 2, ground := Ground.data }, { on := 3, ground := Ground.chain }, { on := 0, ground := Ground.phase }, { on := 1, ground := Ground.phase }, { on := 2, ground := Ground.phase }, { on := 3, ground := Ground.phase }], guard := none }) (v := ?tk11) rfl (by kernel_rfl) (by kernel_rfl) (by kernel_rfl) (fun _ _ _ h => h) (Or.inl ⟨by rfl, ?tw11⟩) hHeld3 ?_
    case tw11 => (intro W hW; clear hW; first | (go_simp; done) | (go_simp; with_reducible rfl))
    try simp only [Act.put, List.setIfInBounds_toArray, List.set_cons_zero, List.set_cons_succ]
    refine wpAnyH_done (by kernel_rfl) ?_ _
    refine NoPanic.normal ?_
    go_wp2_with fail
    refine (HENC.out gk gz _ HI_3.out).mono ?_
    rintro e v1 ⟨s1, rfl, hb1, hn1, hi1⟩
    have HB1 := Lib.hid hb1
    have HN1 := Lib.hid hn1
    have HI1 := Lib.hid hi1
    clear hb1 hn1 hi1
    go_wp2_with fail
    refine (HSH.out gk gz _ HI1.out).mono ?_
    rintro e v2 ⟨rfl, hb⟩
    have HB2 := Lib.hid (HB1.out.kept hb)
    have HI2 := Lib.hid (HI1.out.kept hb)
    clear hb
    go_upto_region 4 with fail
    have HL_0 := Lib.hid (show Below v2.heap.size v2 v2.drew from (Below.refl _ v2).drew)
    refine wp_region_noPanic ?_
    refine wp_region_held_drew (S := fun W => True) (by kernel_rfl) trivial (fun hHeld0 => ?_)
    obtain ⟨x0, hx0⟩ : ∃ X, v2.drew = X := ⟨_, rfl⟩
    rw [hx0] at  HL_0 ⊢
    clear hx0
    refine wpAnyH_take (i := 0) (oi := { dst := some 28, op := Op.move (Operand.tmp 1), type := 22, pos := "law.go:15", after := #[], guard := none }) (v := ?tk12) rfl (by kernel_rfl) (by kernel_rfl) (by kernel_rfl) (fun _ _ _ h => h) (Or.inl ⟨by rfl, ?tw12⟩) hHeld0 ?_
    case tw12 => (intro W hW; clear hW; first | (go_simp; done) | (go_simp; with_reducible rfl))
    try simp only [Act.put, List.setIfInBounds_toArray, List.set_cons_zero, List.set_cons_succ]
    refine wpAnyH_take (i := 1) (oi := { dst := some 29, op := Op.move (Operand.tmp 2), type := 22, pos := "law.go:15", after := #[], guard := none }) (v := ?tk13) rfl (by kernel_rfl) (by kernel_rfl) (by kernel_rfl) (fun _ _ _ h => h) (Or.inl ⟨by rfl, ?tw13⟩) hHeld0 ?_
    case tw13 => (intro W hW; clear hW; first | (go_simp; done) | (go_simp; with_reducible rfl))
    try simp only [Act.put, List.setIfInBounds_toArray, List.set_cons_zero, List.set_cons_succ]
    refine wpAnyH_take (i := 2) (oi := { dst := some 30, op := Op.slice 22 (Operand.tmp 29) none (some (Operand.const (Value.int IntKind.i64 15))) none, type := 22, pos := "law.go:15", after := #[{ on := 1, ground := Ground.data }], guard := none }) (v := ?tk14) rfl (by kernel_rfl) (by kernel_rfl) (by kernel_rfl) (fun _ _ _ h => h) (Or.inl ⟨by rfl, ?tw14⟩) hHeld0 ?_
    case tw14 => (intro W hW; clear hW; first | (go_simp; done) | (go_simp; with_reducible rfl))
    try simp only [Act.put, List.setIfInBounds_toArray, List.set_cons_zero, List.set_cons_succ]
    refine wpAnyH_ready (rs := [3]) (by kernel_rfl) (by simp) ?_
    refine AllReadyH.cons (o := { dst := some 31, op := Op.makeSlice 22 (Operand.const (Value.int IntKind.i64 16)) (Operand.const (Value.int IntKind.i64 16)), type := 22, pos := "law.go:15", after := #[], guard := none }) rfl (fun K' hK => ?_) AllReadyH.nil
    go_simp
    have HG := Lib.hid (show KI w 2 1 gk gz x0 from HI2.out.kept HL_0.out)
    have hcall := HAR.out gk gz _ HG.out
    obtain ⟨x1, hy⟩ : ∃ X, x0.alloc (.cells (arr .u8 (zr 16)) 5) = X := ⟨_, rfl⟩
    rw [hy] at hcall
    rw [hy]
    have HC := Lib.hid hcall
    have HLB_1 := HL_0
    clear hy hcall HG
    refine hK.out _ _ trivial (fun hHeld1 => ?_)
    clear hK K'
    try simp only [Act.put, List.setIfInBounds_toArray, List.set_cons_zero, List.set_cons_succ]
    refine wpAnyH_ready (rs := [4]) (by kernel_rfl) (by simp) ?_
    refine AllReadyH.cons (o := { dst := some 32, op := Op.call { callee := Callee.value (Operand.func 6), args := #[Operand.tmp 28, Operand.tmp 30, Operand.tmp 31], argTypes := #[22, 22, 22] }, type := 25, pos := "law.go:15", after := #[{ on := 0, ground := Ground.data }, { on := 2, ground := Ground.data }, { on := 3, ground := Ground.data }], guard := none }) rfl (fun K' hK => ?_) AllReadyH.nil
    go_simp
    refine HC.out.mono ?_
    rintro e x2 ⟨rfl, hb⟩
    have HL_2 := Lib.hid (HLB_1.out.trans (hb.mono HLB_1.out.size))
    clear hb
    refine hK.out _ _ trivial (fun hHeld2 => ?_)
    clear hK K'
    try simp only [Act.put, List.setIfInBounds_toArray, List.set_cons_zero, List.set_cons_succ]
    refine wpAnyH_take (i := 5) (oi := { dst := some 27, op := Op.move (Operand.tmp 32), type := 25, pos := "law.go:15", after := #[{ on := 4, ground := Ground.data }], guard := none }) (v := ?tk15) rfl (by kernel_rfl) (by kernel_rfl) (by kernel_rfl) (fun _ _ _ h => h) (Or.inl ⟨by rfl, ?tw15⟩) hHeld2 ?_
    case tw15 => (intro W hW; clear hW; first | (go_simp; done) | (go_simp; with_reducible rfl))
    try simp only [Act.put, List.setIfInBounds_toArray, List.set_cons_zero, List.set_cons_succ]
    refine wpAnyH_take (i := 6) (oi := { dst := some 33, op := Op.extract (Operand.tmp 27) 0, type := 22, pos := "law.go:15", after := #[{ on := 5, ground := Ground.data }], guard := none }) (v := ?tk16) rfl (by kernel_rfl) (by kernel_rfl) (by kernel_rfl) (fun _ _ _ h => h) (Or.inl ⟨by rfl, ?tw16⟩) hHeld2 ?_
    case tw16 => (intro W hW; clear hW; first | (go_simp; done) | (go_simp; with_reducible rfl))
    try simp only [Act.put, List.setIfInBounds_toArray, List.set_cons_zero, List.set_cons_succ]
    refine wpAnyH_take (i := 7) (oi := { dst := some 34, op := Op.extract (Operand.tmp 27) 1, type := 24, pos := "law.go:15", after := #[{ on := 5, ground := Ground.data }, { on := 8, ground := Ground.gcOnly Departure.lateStores }], guard := none }) (v := ?tk17) rfl (by kernel_rfl) (by kernel_rfl) (by kernel_rfl) (fun _ _ _ h => h) (Or.inl ⟨by rfl, ?tw17⟩) hHeld2 ?_
    case tw17 => (intro W hW; clear hW; first | (go_simp; done) | (go_simp; with_reducible rfl))
    try simp only [Act.put, List.setIfInBounds_toArray, List.set_cons_zero, List.set_cons_succ]
    refine wpAnyH_take (i := 8) (oi := { dst := some 7, op := Op.assign (Operand.tmp 33), type := 22, pos := "law.go:15", after := #[{ on := 6, ground := Ground.data }, { on := 4, ground := Ground.chain }, { on := 0, ground := Ground.phase }, { on := 1, ground := Ground.phase }, { on := 2, ground := Ground.phase }, { on := 3, ground := Ground.phase }, { on := 4, ground := Ground.phase }, { on := 5, ground := Ground.phase }, { on := 6, ground := Ground.phase }, { on := 7, ground := Ground.textOnly Departure.lateStores }], guard := none }) (v := ?tk18) rfl (by kernel_rfl) (by kernel_rfl) (by kernel_rfl) (fun _ _ _ h => h) (Or.inl ⟨by rfl, ?tw18⟩) hHeld2 ?_
    case tw18 => (intro W hW; clear hW; first | (go_simp; done) | (go_simp; with_reducible rfl))
    try simp only [Act.put, List.setIfInBounds_toArray, List.set_cons_zero, List.set_cons_succ]
    refine wpAnyH_take (i := 9) (oi := { dst := some 8, op := Op.assign (Operand.tmp 34), type := 24, pos := "law.go:15", after := #[{ on := 7, ground := Ground.data }, { on := 8, ground := Ground.chain }, { on := 0, ground := Ground.phase }, { on := 1, ground := Ground.phase }, { on := 2, ground := Ground.phase }, { on := 3, ground := Ground.phase }, { on := 4, ground := Ground.phase }, { on := 5, ground := Ground.phase }, { on := 6, ground := Ground.phase }, { on := 7, ground := Ground.phase }, { on := 8, ground := Ground.phase }], guard := none }) (v := ?tk19) rfl (by kernel_rfl) (by kernel_rfl) (by kernel_rfl) (fun _ _ _ h => h) (Or.inl ⟨by rfl, ?tw19⟩) hHeld2 ?_
    case tw19 => (intro W hW; clear hW; first | (go_simp; done) | (go_simp; with_reducible rfl))
    try simp only [Act.put, List.setIfInBounds_toArray, List.set_cons_zero, List.set_cons_succ]
    refine wpAnyH_done (by kernel_rfl) ?_ _
    refine NoPanic.normal ?_
    have HI3 := Lib.hid (HI2.out.kept HL_2.out)
    have hst := str_bytes (HB2.out.kept HL_2.out) HN1.out
    rw [HSTR.out] at hst
    go_wp2_with fail
    go_ret
    exact ⟨rfl, HI3.out.1⟩
  refine AllReadyH.cons (o := { dst := some 11, op := Op.makeSlice 22 (Operand.const (Value.int IntKind.i64 16)) (Operand.const (Value.int IntKind.i64 16)), type := 22, pos := "law.go:12", after := #[], guard := none }) rfl (fun K' hK => ?_) AllReadyH.nil
  go_simp
  have hi := HI_0.out.make
  obtain ⟨x1, hy⟩ : ∃ X, x0.alloc (.cells (arr .u8 (zr 16)) 5) = X := ⟨_, rfl⟩
  rw [hy] at hi
  rw [hy]
  obtain ⟨gz, hgz⟩ : ∃ g, x0.heap.size = g := ⟨_, rfl⟩
  rw [hgz] at hi
  rw [hgz]
  have HI_1 := Lib.hid hi
  clear hi hy hgz
  refine hK.out _ _ trivial (fun hHeld1 => ?_)
  clear hK K'
  try simp only [Act.put, List.setIfInBounds_toArray, List.set_cons_zero, List.set_cons_succ]
  refine wpAnyH_ready (rs := [0]) (by kernel_rfl) (by simp) ?_
  refine AllReadyH.cons (o := { dst := some 9, op := Op.buildSlice 22 16 #[(0, Operand.const (Value.int IntKind.u8 99)), (1, Operand.const (Value.int IntKind.u8 104)), (2, Operand.const (Value.int IntKind.u8 105)), (3, Operand.const (Value.int IntKind.u8 99)), (4, Operand.const (Value.int IntKind.u8 107)), (5, Operand.const (Value.int IntKind.u8 101)), (6, Operand.const (Value.int IntKind.u8 110)), (7, Operand.const (Value.int IntKind.u8 32)), (8, Operand.const (Value.int IntKind.u8 116)), (9, Operand.const (Value.int IntKind.u8 101)), (10, Operand.const (Value.int IntKind.u8 114)), (11, Operand.const (Value.int IntKind.u8 105)), (12, Operand.const (Value.int IntKind.u8 121)), (13, Operand.const (Value.int IntKind.u8 97)), (14, Operand.const (Value.int IntKind.u8 107)), (15, Operand.const (Value.int IntKind.u8 105))], type := 22, pos := "law.go:12", after := #[], guard := none }) rfl (fun K' hK => ?_) AllReadyH.nil
  go_simp
  try rw [JK_lit]
  have hi := HI_1.out.build
  obtain ⟨x2, hy⟩ : ∃ X, x1.alloc (.cells (arr .u8 JK) 5) = X := ⟨_, rfl⟩
  rw [hy] at hi
  rw [hy]
  obtain ⟨gk, hgk⟩ : ∃ g, x1.heap.size = g := ⟨_, rfl⟩
  rw [hgk] at hi
  rw [hgk]
  have HI_2 := Lib.hid hi
  clear hi hy hgk
  refine hK.out _ _ trivial (fun hHeld2 => ?_)
  clear hK K'
  try simp only [Act.put, List.setIfInBounds_toArray, List.set_cons_zero, List.set_cons_succ]
  refine wpAnyH_ready (rs := [1]) (by kernel_rfl) (by simp) ?_
  refine AllReadyH.cons (o := { dst := some 10, op := Op.convert 22 22 (Operand.tmp 9), type := 22, pos := "law.go:12", after := #[{ on := 0, ground := Ground.data }], guard := none }) rfl (fun K' hK => ?_) AllReadyH.nil
  obtain ⟨x3, hcv1, hi⟩ := HI_2.out.conv
  go_simp
  have HI_3 := Lib.hid hi
  clear hi hcv1
  refine hK.out _ _ trivial (fun hHeld3 => ?_)
  clear hK K'
  try simp only [Act.put, List.setIfInBounds_toArray, List.set_cons_zero, List.set_cons_succ]
  refine wpAnyH_take (i := 3) (oi := { dst := some 1, op := Op.assign (Operand.tmp 10), type := 22, pos := "law.go:12", after := #[{ on := 1, ground := Ground.data }, { on := 0, ground := Ground.phase }, { on := 1, ground := Ground.phase }, { on := 2, ground := Ground.textOnly Departure.lateStoresUnsure }], guard := none }) (v := ?tk20) rfl (by kernel_rfl) (by kernel_rfl) (by kernel_rfl) (fun _ _ _ h => h) (Or.inl ⟨by rfl, ?tw20⟩) hHeld3 ?_
  case tw20 => (intro W hW; clear hW; first | (go_simp; done) | (go_simp; with_reducible rfl))
  try simp only [Act.put, List.setIfInBounds_toArray, List.set_cons_zero, List.set_cons_succ]
  refine wpAnyH_take (i := 4) (oi := { dst := some 2, op := Op.assign (Operand.tmp 11), type := 22, pos := "law.go:12", after := #[{ on := 2, ground := Ground.data }, { on := 3, ground := Ground.chain }, { on := 0, ground := Ground.phase }, { on := 1, ground := Ground.phase }, { on := 2, ground := Ground.phase }, { on := 3, ground := Ground.phase }], guard := none }) (v := ?tk21) rfl (by kernel_rfl) (by kernel_rfl) (by kernel_rfl) (fun _ _ _ h => h) (Or.inl ⟨by rfl, ?tw21⟩) hHeld3 ?_
  case tw21 => (intro W hW; clear hW; first | (go_simp; done) | (go_simp; with_reducible rfl))
  try simp only [Act.put, List.setIfInBounds_toArray, List.set_cons_zero, List.set_cons_succ]
  refine wpAnyH_done (by kernel_rfl) ?_ _
  refine NoPanic.normal ?_
  go_wp2_with fail
  refine (HENC.out gk gz _ HI_3.out).mono ?_
  rintro e v1 ⟨s1, rfl, hb1, hn1, hi1⟩
  have HB1 := Lib.hid hb1
  have HN1 := Lib.hid hn1
  have HI1 := Lib.hid hi1
  clear hb1 hn1 hi1
  go_wp2_with fail
  refine (HSH.out gk gz _ HI1.out).mono ?_
  rintro e v2 ⟨rfl, hb⟩
  have HB2 := Lib.hid (HB1.out.kept hb)
  have HI2 := Lib.hid (HI1.out.kept hb)
  clear hb
  go_upto_region 4 with fail
  have HL_0 := Lib.hid (show Below v2.heap.size v2 v2.drew from (Below.refl _ v2).drew)
  refine wp_region_noPanic ?_
  refine wp_region_held_drew (S := fun W => True) (by kernel_rfl) trivial (fun hHeld0 => ?_)
  obtain ⟨x0, hx0⟩ : ∃ X, v2.drew = X := ⟨_, rfl⟩
  rw [hx0] at  HL_0 ⊢
  clear hx0
  refine wpAnyH_take (i := 0) (oi := { dst := some 28, op := Op.move (Operand.tmp 1), type := 22, pos := "law.go:15", after := #[], guard := none }) (v := ?tk22) rfl (by kernel_rfl) (by kernel_rfl) (by kernel_rfl) (fun _ _ _ h => h) (Or.inl ⟨by rfl, ?tw22⟩) hHeld0 ?_
  case tw22 => (intro W hW; clear hW; first | (go_simp; done) | (go_simp; with_reducible rfl))
  try simp only [Act.put, List.setIfInBounds_toArray, List.set_cons_zero, List.set_cons_succ]
  refine wpAnyH_take (i := 1) (oi := { dst := some 29, op := Op.move (Operand.tmp 2), type := 22, pos := "law.go:15", after := #[], guard := none }) (v := ?tk23) rfl (by kernel_rfl) (by kernel_rfl) (by kernel_rfl) (fun _ _ _ h => h) (Or.inl ⟨by rfl, ?tw23⟩) hHeld0 ?_
  case tw23 => (intro W hW; clear hW; first | (go_simp; done) | (go_simp; with_reducible rfl))
  try simp only [Act.put, List.setIfInBounds_toArray, List.set_cons_zero, List.set_cons_succ]
  refine wpAnyH_take (i := 2) (oi := { dst := some 30, op := Op.slice 22 (Operand.tmp 29) none (some (Operand.const (Value.int IntKind.i64 15))) none, type := 22, pos := "law.go:15", after := #[{ on := 1, ground := Ground.data }], guard := none }) (v := ?tk24) rfl (by kernel_rfl) (by kernel_rfl) (by kernel_rfl) (fun _ _ _ h => h) (Or.inl ⟨by rfl, ?tw24⟩) hHeld0 ?_
  case tw24 => (intro W hW; clear hW; first | (go_simp; done) | (go_simp; with_reducible rfl))
  try simp only [Act.put, List.setIfInBounds_toArray, List.set_cons_zero, List.set_cons_succ]
  refine wpAnyH_ready (rs := [3]) (by kernel_rfl) (by simp) ?_
  refine AllReadyH.cons (o := { dst := some 31, op := Op.makeSlice 22 (Operand.const (Value.int IntKind.i64 16)) (Operand.const (Value.int IntKind.i64 16)), type := 22, pos := "law.go:15", after := #[], guard := none }) rfl (fun K' hK => ?_) AllReadyH.nil
  go_simp
  have HG := Lib.hid (show KI w 2 1 gk gz x0 from HI2.out.kept HL_0.out)
  have hcall := HAR.out gk gz _ HG.out
  obtain ⟨x1, hy⟩ : ∃ X, x0.alloc (.cells (arr .u8 (zr 16)) 5) = X := ⟨_, rfl⟩
  rw [hy] at hcall
  rw [hy]
  have HC := Lib.hid hcall
  have HLB_1 := HL_0
  clear hy hcall HG
  refine hK.out _ _ trivial (fun hHeld1 => ?_)
  clear hK K'
  try simp only [Act.put, List.setIfInBounds_toArray, List.set_cons_zero, List.set_cons_succ]
  refine wpAnyH_ready (rs := [4]) (by kernel_rfl) (by simp) ?_
  refine AllReadyH.cons (o := { dst := some 32, op := Op.call { callee := Callee.value (Operand.func 6), args := #[Operand.tmp 28, Operand.tmp 30, Operand.tmp 31], argTypes := #[22, 22, 22] }, type := 25, pos := "law.go:15", after := #[{ on := 0, ground := Ground.data }, { on := 2, ground := Ground.data }, { on := 3, ground := Ground.data }], guard := none }) rfl (fun K' hK => ?_) AllReadyH.nil
  go_simp
  refine HC.out.mono ?_
  rintro e x2 ⟨rfl, hb⟩
  have HL_2 := Lib.hid (HLB_1.out.trans (hb.mono HLB_1.out.size))
  clear hb
  refine hK.out _ _ trivial (fun hHeld2 => ?_)
  clear hK K'
  try simp only [Act.put, List.setIfInBounds_toArray, List.set_cons_zero, List.set_cons_succ]
  refine wpAnyH_take (i := 5) (oi := { dst := some 27, op := Op.move (Operand.tmp 32), type := 25, pos := "law.go:15", after := #[{ on := 4, ground := Ground.data }], guard := none }) (v := ?tk25) rfl (by kernel_rfl) (by kernel_rfl) (by kernel_rfl) (fun _ _ _ h => h) (Or.inl ⟨by rfl, ?tw25⟩) hHeld2 ?_
  case tw25 => (intro W hW; clear hW; first | (go_simp; done) | (go_simp; with_reducible rfl))
  try simp only [Act.put, List.setIfInBounds_toArray, List.set_cons_zero, List.set_cons_succ]
  refine wpAnyH_take (i := 6) (oi := { dst := some 33, op := Op.extract (Operand.tmp 27) 0, type := 22, pos := "law.go:15", after := #[{ on := 5, ground := Ground.data }], guard := none }) (v := ?tk26) rfl (by kernel_rfl) (by kernel_rfl) (by kernel_rfl) (fun _ _ _ h => h) (Or.inl ⟨by rfl, ?tw26⟩) hHeld2 ?_
  case tw26 => (intro W hW; clear hW; first | (go_simp; done) | (go_simp; with_reducible rfl))
  try simp only [Act.put, List.setIfInBounds_toArray, List.set_cons_zero, List.set_cons_succ]
  refine wpAnyH_take (i := 7) (oi := { dst := some 34, op := Op.extract (Operand.tmp 27) 1, type := 24, pos := "law.go:15", after := #[{ on := 5, ground := Ground.data }, { on := 8, ground := Ground.gcOnly Departure.lateStores }], guard := none }) (v := ?tk27) rfl (by kernel_rfl) (by kernel_rfl) (by kernel_rfl) (fun _ _ _ h => h) (Or.inl ⟨by rfl, ?tw27⟩) hHeld2 ?_
  case tw27 => (intro W hW; clear hW; first | (go_simp; done) | (go_simp; with_reducible rfl))
  try simp only [Act.put, List.setIfInBounds_toArray, List.set_cons_zero, List.set_cons_succ]
  refine wpAnyH_take (i := 8) (oi := { dst := some 7, op := Op.assign (Operand.tmp 33), type := 22, pos := "law.go:15", after := #[{ on := 6, ground := Ground.data }, { on := 4, ground := Ground.chain }, { on := 0, ground := Ground.phase }, { on := 1, ground := Ground.phase }, { on := 2, ground := Ground.phase }, { on := 3, ground := Ground.phase }, { on := 4, ground := Ground.phase }, { on := 5, ground := Ground.phase }, { on := 6, ground := Ground.phase }, { on := 7, ground := Ground.textOnly Departure.lateStores }], guard := none }) (v := ?tk28) rfl (by kernel_rfl) (by kernel_rfl) (by kernel_rfl) (fun _ _ _ h => h) (Or.inl ⟨by rfl, ?tw28⟩) hHeld2 ?_
  case tw28 => (intro W hW; clear hW; first | (go_simp; done) | (go_simp; with_reducible rfl))
  try simp only [Act.put, List.setIfInBounds_toArray, List.set_cons_zero, List.set_cons_succ]
  refine wpAnyH_take (i := 9) (oi := { dst := some 8, op := Op.assign (Operand.tmp 34), type := 24, pos := "law.go:15", after := #[{ on := 7, ground := Ground.data }, { on := 8, ground := Ground.chain }, { on := 0, ground := Ground.phase }, { on := 1, ground := Ground.phase }, { on := 2, ground := Ground.phase }, { on := 3, ground := Ground.phase }, { on := 4, ground := Ground.phase }, { on := 5, ground := Ground.phase }, { on := 6, ground := Ground.phase }, { on := 7, ground := Ground.phase }, { on := 8, ground := Ground.phase }], guard := none }) (v := ?tk29) rfl (by kernel_rfl) (by kernel_rfl) (by kernel_rfl) (fun _ _ _ h => h) (Or.inl ⟨by rfl, ?tw29⟩) hHeld2 ?_
  case tw29 => (intro W hW; clear hW; first | (go_simp; done) | (go_simp; with_reducible rfl))
  try simp only [Act.put, List.setIfInBounds_toArray, List.set_cons_zero, List.set_cons_succ]
  refine wpAnyH_done (by kernel_rfl) ?_ _
  refine NoPanic.normal ?_
  have HI3 := Lib.hid (HI2.out.kept HL_2.out)
  have hst := str_bytes (HB2.out.kept HL_2.out) HN1.out
  rw [HSTR.out] at hst
  go_wp2_with fail
  go_ret
  exact ⟨rfl, HI3.out.1⟩
end Go.Proofs.YtjcdbjapadgdfaaDoor
