/- known, of law05. -/
import Derived.StillTailTactics
import Derived.Lib.SlBytesConst
import Derived.Deep.RegionHeld3
import Derived.Test.YtmlacbdonkfbdaaDoorWI
namespace Go.Proofs.YtmlacbdonkfbdaaDoor
open Go.RowKit Go.Shelf

attribute [local go_sem] Oper.semAt_some
def JK : List Nat := [74, 101, 102, 101]
def JT : List Nat := [119, 104, 97, 116, 32, 100, 111, 32, 121, 97, 32, 119, 97, 110, 116, 32, 102, 111, 114, 32, 110, 111, 116, 104, 105, 110, 103, 63]
def JD : List Nat := [91, 220, 193, 70, 191, 96, 117, 78, 106, 4, 36, 38, 8, 149, 117, 199, 90, 0, 63, 8, 157, 39, 57, 131, 157, 236, 88, 185, 100, 236, 56, 67]
theorem mac_jefe : macL JK JT = JD := by decide +kernel
theorem str_jefe : strOf JD = { data := #[91, 220, 193, 70, 191, 96, 117, 78, 106, 4, 36, 38, 8, 149, 117, 199, 90, 0, 63, 8, 157, 39, 57, 131, 157, 236, 88, 185, 100, 236, 56, 67] } := by rfl
theorem str_jefe4 : strOf (JD.take 4) = { data := #[91, 220, 193, 70] } := by rfl
theorem JD_len : JD.length = 32 := rfl
theorem JD_256 : ∀ x ∈ JD, x < 256 := by decide
theorem JK_256 : ∀ x ∈ JK, x < 256 := by decide
theorem JT_256 : ∀ x ∈ JT, x < 256 := by decide
theorem bytes_const {V : World} {g n : Nat} {l : List Nat} {fz : Nat × Nat} (h256 : ∀ x ∈ l, x < 256) (hn : l.length = n) (hh : V.heap[g]? = some (.cells (l.map fun x => Value.int .u8 (x : Nat)).toArray 5 fz)) : BytesAt l (.slice (some ⟨g, 0, none⟩) n n) V := by
  have hg : g < V.heap.size := (Array.getElem?_eq_some_iff.1 hh).1
  refine ⟨h256, _, n, by rw [hn], by omega, .inr ⟨g, 0, rfl, hg, fun j hj => ?_⟩⟩
  unfold World.cell?
  simp only [hh, Nat.zero_add]
  simp [List.getD, hj]
def kObj : Obj := .cells #[.int .u8 74, .int .u8 101, .int .u8 102, .int .u8 101] 5 (4, 5)
def tObj : Obj := .cells #[.int .u8 119, .int .u8 104, .int .u8 97, .int .u8 116, .int .u8 32, .int .u8 100, .int .u8 111, .int .u8 32, .int .u8 121, .int .u8 97, .int .u8 32, .int .u8 119, .int .u8 97, .int .u8 110, .int .u8 116, .int .u8 32, .int .u8 102, .int .u8 111, .int .u8 114, .int .u8 32, .int .u8 110, .int .u8 111, .int .u8 116, .int .u8 104, .int .u8 105, .int .u8 110, .int .u8 103, .int .u8 63] 5 (28, 29)
theorem conv4 (W : World) : (convert 22 22 (.slice (some ⟨W.heap.size, 0, none⟩) 4 4)).run Tryd.prog (W.alloc (.cells #[.int .u8 74, .int .u8 101, .int .u8 102, .int .u8 101] 5)) = .ok (.slice (some ⟨W.heap.size, 0, none⟩) 4 4) (W.alloc kObj) :=
  Lib.run_convert_bytes_const W 22 5 #[.int .u8 74, .int .u8 101, .int .u8 102, .int .u8 101] 4 4 Tryd.underlying22 Tryd.underlying5
theorem conv28 (W : World) (o : Obj) : (convert 22 22 (.slice (some ⟨W.heap.size + 1, 0, none⟩) 28 28)).run Tryd.prog ((W.alloc o).alloc (.cells #[.int .u8 119, .int .u8 104, .int .u8 97, .int .u8 116, .int .u8 32, .int .u8 100, .int .u8 111, .int .u8 32, .int .u8 121, .int .u8 97, .int .u8 32, .int .u8 119, .int .u8 97, .int .u8 110, .int .u8 116, .int .u8 32, .int .u8 102, .int .u8 111, .int .u8 114, .int .u8 32, .int .u8 110, .int .u8 111, .int .u8 116, .int .u8 104, .int .u8 105, .int .u8 110, .int .u8 103, .int .u8 63] 5)) = .ok (.slice (some ⟨W.heap.size + 1, 0, none⟩) 28 28) ((W.alloc o).alloc tObj) := by
  have h := Lib.run_convert_bytes_const (P := Tryd.prog) (W.alloc o) 22 5 #[.int .u8 119, .int .u8 104, .int .u8 97, .int .u8 116, .int .u8 32, .int .u8 100, .int .u8 111, .int .u8 32, .int .u8 121, .int .u8 97, .int .u8 32, .int .u8 119, .int .u8 97, .int .u8 110, .int .u8 116, .int .u8 32, .int .u8 102, .int .u8 111, .int .u8 114, .int .u8 32, .int .u8 110, .int .u8 111, .int .u8 116, .int .u8 104, .int .u8 105, .int .u8 110, .int .u8 103, .int .u8 63] 28 28 Tryd.underlying22 Tryd.underlying5
  rw [World.size_alloc] at h
  exact h
theorem consts (w : World) : ∃ V, (w.alloc kObj).alloc tObj = V ∧ BytesAt JK (.slice (some ⟨w.heap.size, 0, none⟩) 4 4) V ∧ BytesAt JT (.slice (some ⟨w.heap.size + 1, 0, none⟩) 28 28) V ∧ Below w.heap.size w V := by
  have h1 : ((w.alloc kObj).alloc tObj).heap[w.heap.size + 1]? = some tObj := by
    have := World.alloc_heap_new (w.alloc kObj) tObj
    rw [World.size_alloc] at this; exact this
  have hb : Below w.heap.size w ((w.alloc kObj).alloc tObj) := ((Below.refl _ w).alloc (Nat.le_refl _) _).alloc (by simp) _
  have h0 : ((w.alloc kObj).alloc tObj).heap[w.heap.size]? = some kObj := by
    have hb2 : Below (w.alloc kObj).heap.size (w.alloc kObj) ((w.alloc kObj).alloc tObj) := (Below.refl _ _).alloc (Nat.le_refl _) _
    rw [hb2.block w.heap.size (by simp)]
    exact World.alloc_heap_new w kObj
  exact ⟨_, rfl, bytes_const JK_256 rfl h0, bytes_const JT_256 rfl h1, hb⟩
theorem listAt_one {S : Value} {l : List Nat} {g : Nat} {W : World} (hr : rowN W g = some #[S]) (hB : BytesAt l S W) (hn : Nil0 S) : ListAt [l] (.slice (some ⟨g, 0, none⟩) 1 1) W :=
  ⟨_, 1, rfl, .inr ⟨g, 0, rfl, rowN_lt hr, fun i hi => by
    obtain rfl : i = 0 := by simp at hi; omega
    exact ⟨S, (rowN_cell hr).1 0, hB, hn⟩⟩⟩
theorem listAt_two {S S' : Value} {l l' : List Nat} {g : Nat} {W : World} (hr : rowN W g = some #[S, S']) (hB : BytesAt l S W) (hn : Nil0 S) (hB' : BytesAt l' S' W) (hn' : Nil0 S') : ListAt [l, l'] (.slice (some ⟨g, 0, none⟩) 2 2) W :=
  ⟨_, 2, rfl, .inr ⟨g, 0, rfl, rowN_lt hr, fun i hi => by
    have hi2 : i < 2 := hi
    rcases (by omega : i = 0 ∨ i = 1) with rfl | rfl
    · exact ⟨S, (rowN_cell hr).1 0, hB, hn⟩
    · exact ⟨S', (rowN_cell hr).1 1, hB', hn'⟩⟩⟩
theorem nil0_some (a : Addr) (L c : Nat) : Nil0 (.slice (some a) L c) := fun L c e => by cases e
theorem half1 {g : Nat} {W : World} (h : BytesAt JT (.slice (some ⟨g, 0, none⟩) 28 28) W) : BytesAt (JT.take 16) (.slice (some ⟨g, 0, none⟩) 16 28) W := by
  obtain ⟨h1, a, c, e, hc, h2⟩ := h
  cases e
  rcases h2 with h2 | ⟨b, off, ea, hb, hj⟩
  · exact absurd h2 (by decide)
  · cases ea
    exact ⟨fun x hx => h1 x (List.mem_of_mem_take hx), _, 28, rfl, by decide, .inr ⟨_, _, rfl, hb, fun j hjl => by
      have hj16 : j < 16 := hjl
      rw [hj j (show j < 28 by omega)]
      simp [List.getD, hj16]⟩⟩
theorem half2 {g : Nat} {W : World} (h : BytesAt JT (.slice (some ⟨g, 0, none⟩) 28 28) W) : BytesAt (JT.drop 16) (.slice (some ⟨g, 16, none⟩) 12 12) W := by
  obtain ⟨h1, a, c, e, hc, h2⟩ := h
  cases e
  rcases h2 with h2 | ⟨b, off, ea, hb, hj⟩
  · exact absurd h2 (by decide)
  · cases ea
    exact ⟨fun x hx => h1 x (List.mem_of_mem_drop hx), _, 12, rfl, by decide, .inr ⟨_, _, rfl, hb, fun j hjl => by
      have hj12 : j < 12 := hjl
      have := hj (16 + j) (show 16 + j < 28 by omega)
      rw [Nat.zero_add] at this
      rw [this]
      simp [List.getD, List.getElem?_drop]⟩⟩
set_option maxRecDepth 100000 in
set_option maxHeartbeats 4000000 in
theorem known_any (w : World) (hK : KG w) : Calls Tryd.prog 9 #[] w fun e w' => e = .returned (.bool true) ∧ Below w.heap.size w w' := by
  obtain ⟨V, hV, hJK, hJT, hbV⟩ := consts w
  have hcv4 := conv4
  have hcv28 := conv28
  have HMC := Lib.hid (fun (g : Nat) (W : World) (hb : Below V.heap.size V W) (hr : rowN W g = some #[.slice (some ⟨w.heap.size + 1, 0, none⟩) 16 28, .slice (some ⟨w.heap.size + 1, 16, none⟩) 12 12]) =>
    show Calls Tryd.prog 10 #[.slice (some ⟨w.heap.size, 0, none⟩) 4 4, .slice (some ⟨g, 0, none⟩) 2 2] W (fun e w' => e = .returned (.tuple #[.agg (arr .u8 JD), .int .i64 0]) ∧ Below W.heap.size W w') from
    mac_jefe ▸ hmac_any JK [JT.take 16, JT.drop 16] _ _ (by decide) (by decide) (by decide) W ((hK.kept hbV).kept hb) (hJK.kept hb) (nil0_some _ _ _) (listAt_two hr (half1 (hJT.kept hb)) (nil0_some _ _ _) (half2 (hJT.kept hb)) (nil0_some _ _ _)))
  have HONE := Lib.hid (fun (X : World) (hb : Below V.heap.size V X) => show Below X.heap.size X (X.alloc (.cells #[.slice (some ⟨w.heap.size + 1, 0, none⟩) 28 28] 22)) ∧ KG (X.alloc (.cells #[.slice (some ⟨w.heap.size + 1, 0, none⟩) 28 28] 22)) ∧ BytesAt JK (.slice (some ⟨w.heap.size, 0, none⟩) 4 4) (X.alloc (.cells #[.slice (some ⟨w.heap.size + 1, 0, none⟩) 28 28] 22)) ∧ ListAt [JT] (.slice (some ⟨X.heap.size, 0, none⟩) 1 1) (X.alloc (.cells #[.slice (some ⟨w.heap.size + 1, 0, none⟩) 28 28] 22)) from by
    have h1 : Below X.heap.size X (X.alloc (.cells #[.slice (some ⟨w.heap.size + 1, 0, none⟩) 28 28] 22)) := (Below.refl _ _).alloc (Nat.le_refl _) _
    exact ⟨h1, ((hK.kept hbV).kept hb).kept h1, (hJK.kept hb).kept h1, listAt_one (by rw [rowN_alloc, if_pos rfl]) ((hJT.kept hb).kept h1) (nil0_some _ _ _)⟩)
  have HT4 := Lib.hid (fun (X : World) (hb : Below V.heap.size V X) => show Calls Tryd.prog 11 #[.int .i64 4, .slice (some ⟨w.heap.size, 0, none⟩) 4 4, .slice (some ⟨X.heap.size, 0, none⟩) 1 1] (X.alloc (.cells #[.slice (some ⟨w.heap.size + 1, 0, none⟩) 28 28] 22)) (fun e w' => ∃ s', e = .returned (.tuple #[s', .int .i64 0]) ∧ BytesAt (JD.take 4) s' w' ∧ Nil0 s' ∧ Below X.heap.size X w') from by
    obtain ⟨h1, h2, h3, h4⟩ := HONE.out X hb
    have h := trunc_any 4 (by omega) (by omega) JK [JT] _ _ (by decide) (by decide) (by decide) _ h2 h3 (nil0_some _ _ _) h4
    rw [show macL JK (catL [JT]) = JD from mac_jefe] at h
    refine h.mono ?_
    rintro e w' ⟨s', e1, e2, e3, e4⟩
    exact ⟨s', e1, e2, e3, h1.trans (e4.mono h1.size)⟩)
  have HT33 := Lib.hid (fun (X : World) (hb : Below V.heap.size V X) => show Calls Tryd.prog 11 #[.int .i64 33, .slice (some ⟨w.heap.size, 0, none⟩) 4 4, .slice (some ⟨X.heap.size, 0, none⟩) 1 1] (X.alloc (.cells #[.slice (some ⟨w.heap.size + 1, 0, none⟩) 28 28] 22)) (fun e w' => e = .returned (.tuple #[.slice none 0 0, .int .i64 2]) ∧ Below X.heap.size X w') from by
    obtain ⟨h1, h2, h3, h4⟩ := HONE.out X hb
    refine (trunc_no 33 (by omega) _ _ _).mono ?_
    rintro e w' ⟨e1, e4⟩
    exact ⟨e1, h1.trans (e4.mono h1.size)⟩)
  have HCK := Lib.hid (fun (x : Nat) (hx : x < 256) (r : Int) (hr : (if [91, x] = JD.take 2 then (0 : Int) else 10) = r) (X : World) (hb : Below V.heap.size V X) =>
    show Calls Tryd.prog 13 #[.slice (some ⟨w.heap.size, 0, none⟩) 4 4, .slice (some ⟨X.heap.size, 0, none⟩) 2 2, .slice (some ⟨X.heap.size + 1, 0, none⟩) 1 1] ((X.alloc (.cells #[.int .u8 91, .int .u8 (x : Nat)] 5)).alloc (.cells #[.slice (some ⟨w.heap.size + 1, 0, none⟩) 28 28] 22)) (fun e w' => e = .returned (.int .i64 r) ∧ Below X.heap.size X w') from by
    have h0 : Below X.heap.size X (X.alloc (.cells #[.int .u8 91, .int .u8 (x : Nat)] 5)) := (Below.refl _ _).alloc (Nat.le_refl _) _
    have hr0 : rowN (X.alloc (.cells #[.int .u8 91, .int .u8 (x : Nat)] 5)) X.heap.size = some (arr .u8 [91, x]) := by rw [arr_lit, rowN_alloc, if_pos rfl]; rfl
    obtain ⟨h1, h2, h3, h4⟩ := HONE.out _ (hb.trans (h0.mono hb.size))
    rw [World.size_alloc] at h4
    have h := check_any [91, x] _ (by simp) (by simp) JK [JT] _ _ (by decide) (by decide) (by decide) _ h2 h3 (nil0_some _ _ _) h4 (bytes_row (by intro y hy; simp at hy; omega) (keptW h1 hr0) 2 rfl)
    rw [show macL JK (catL [JT]) = JD from mac_jefe] at h
    refine h.mono ?_
    rintro e w' ⟨e1, e4⟩
    exact ⟨by rw [e1, ← hr]; rfl, (h0.trans (h1.mono h0.size)).trans (e4.mono (h0.trans (h1.mono h0.size)).size)⟩)
  have HC1 := Lib.hid (fun X hb => HCK.out 220 (by omega) 0 (by decide) X hb)
  have HC2 := Lib.hid (fun X hb => HCK.out 221 (by omega) 10 (by decide) X hb)
  have HC3 := Lib.hid (fun (X : World) (hb : Below V.heap.size V X) => show Calls Tryd.prog 13 #[.slice (some ⟨w.heap.size, 0, none⟩) 4 4, .slice none 0 0, .slice (some ⟨X.heap.size, 0, none⟩) 1 1] (X.alloc (.cells #[.slice (some ⟨w.heap.size + 1, 0, none⟩) 28 28] 22)) (fun e w' => e = .returned (.int .i64 10) ∧ Below X.heap.size X w') from by
    obtain ⟨h1, h2, h3, h4⟩ := HONE.out X hb
    refine (check_len [] (.slice none 0 0) (by simp) JK [JT] _ _ (by decide) (by decide) (by decide) _ h2 h3 (nil0_some _ _ _) h4 ⟨fun x hx => (by cases hx), none, 0, rfl, by decide, .inl rfl⟩).mono ?_
    rintro e w' ⟨e1, e4⟩
    exact ⟨e1, h1.trans (e4.mono h1.size)⟩)
  have hO32 := JD_len
  have HSTR := Lib.hid str_jefe
  have HSTR4 := Lib.hid str_jefe4
  obtain ⟨O, hO⟩ : ∃ O, JD = O := ⟨_, rfl⟩
  rw [hO] at HMC HT4 hO32 HSTR HSTR4
  have sz2 : (arr .u8 O).size = 32 := by rw [arr_size, hO32]
  have HO32 := Lib.hid hO32
  have hz32 := z32_lit
  have hzl : z32.length = 32 := rfl
  have sz4 : (arr .u8 z32).size = 32 := by rw [arr_size]; rfl
  have hs24 := run_slice24_all
  have HBV := Lib.hid hbV
  have HL_0 := Lib.hid (show Below V.heap.size V V.drew from (Below.refl _ V).drew)
  clear hO hK hJK hJT hbV HCK HONE
  go_enter Tryd.func9, Tryd.ntmps9
  go_upto_region 2 with fail
  try rw [hV]
  clear hV hcv4 hcv28
  refine wp_region_noPanic ?_
  refine wp_region_held_drew (S := fun W => True) (by kernel_rfl) trivial (fun hHeld0 => ?_)
  obtain ⟨x0, hx0⟩ : ∃ X, V.drew = X := ⟨_, rfl⟩
  rw [hx0] at  HL_0 ⊢
  clear hx0
  refine wpAnyH_take (i := 0) (oi := { dst := some 14, op := Op.move (Operand.tmp 1), type := 22, pos := "law.go:13", after := #[], guard := none }) (v := ?tk0) rfl (by kernel_rfl) (by kernel_rfl) (by kernel_rfl) (fun _ _ _ h => h) (Or.inl ⟨by rfl, ?tw0⟩) hHeld0 ?_
  case tw0 => (intro W hW; clear hW; first | (go_simp; done) | (go_simp; with_reducible rfl))
  try simp only [Act.put, List.setIfInBounds_toArray, List.set_cons_zero, List.set_cons_succ]
  refine wpAnyH_take (i := 1) (oi := { dst := some 15, op := Op.move (Operand.tmp 2), type := 22, pos := "law.go:13", after := #[], guard := none }) (v := ?tk1) rfl (by kernel_rfl) (by kernel_rfl) (by kernel_rfl) (fun _ _ _ h => h) (Or.inl ⟨by rfl, ?tw1⟩) hHeld0 ?_
  case tw1 => (intro W hW; clear hW; first | (go_simp; done) | (go_simp; with_reducible rfl))
  try simp only [Act.put, List.setIfInBounds_toArray, List.set_cons_zero, List.set_cons_succ]
  refine wpAnyH_take (i := 2) (oi := { dst := some 16, op := Op.slice 22 (Operand.tmp 15) none (some (Operand.const (Value.int IntKind.i64 16))) none, type := 22, pos := "law.go:13", after := #[{ on := 1, ground := Ground.data }], guard := none }) (v := ?tk2) rfl (by kernel_rfl) (by kernel_rfl) (by kernel_rfl) (fun _ _ _ h => h) (Or.inl ⟨by rfl, ?tw2⟩) hHeld0 ?_
  case tw2 => (intro W hW; clear hW; first | (go_simp; done) | (go_simp; with_reducible rfl))
  try simp only [Act.put, List.setIfInBounds_toArray, List.set_cons_zero, List.set_cons_succ]
  refine wpAnyH_take (i := 3) (oi := { dst := some 17, op := Op.move (Operand.tmp 2), type := 22, pos := "law.go:13", after := #[], guard := none }) (v := ?tk3) rfl (by kernel_rfl) (by kernel_rfl) (by kernel_rfl) (fun _ _ _ h => h) (Or.inl ⟨by rfl, ?tw3⟩) hHeld0 ?_
  case tw3 => (intro W hW; clear hW; first | (go_simp; done) | (go_simp; with_reducible rfl))
  try simp only [Act.put, List.setIfInBounds_toArray, List.set_cons_zero, List.set_cons_succ]
  refine wpAnyH_take (i := 4) (oi := { dst := some 18, op := Op.slice 22 (Operand.tmp 17) (some (Operand.const (Value.int IntKind.i64 16))) none none, type := 22, pos := "law.go:13", after := #[{ on := 3, ground := Ground.data }], guard := none }) (v := ?tk4) rfl (by kernel_rfl) (by kernel_rfl) (by kernel_rfl) (fun _ _ _ h => h) (Or.inl ⟨by rfl, ?tw4⟩) hHeld0 ?_
  case tw4 => (intro W hW; clear hW; first | (go_simp; done) | (go_simp; with_reducible rfl))
  try simp only [Act.put, List.setIfInBounds_toArray, List.set_cons_zero, List.set_cons_succ]
  refine wpAnyH_ready (rs := [5, 10]) (by kernel_rfl) (by simp) ?_
  refine AllReadyH.cons (o := { dst := some 19, op := Op.buildSlice 23 2 #[(0, Operand.tmp 16), (1, Operand.tmp 18)], type := 23, pos := "law.go:13", after := #[{ on := 2, ground := Ground.data }, { on := 4, ground := Ground.data }], guard := none }) rfl (fun K' hK => ?_) ?_
  · go_simp
    obtain ⟨x1, hx1⟩ : ∃ X, x0.alloc (.cells #[.slice (some ⟨w.heap.size + 1, 0, none⟩) 16 28, .slice (some ⟨w.heap.size + 1, 16, none⟩) 12 12] 22) = X := ⟨_, rfl⟩
    have hb : Below x0.heap.size x0 x1 := by rw [← hx1]; exact (Below.refl _ _).alloc (Nat.le_refl _) _
    have HL_1 := Lib.hid (HL_0.out.trans (hb.mono HL_0.out.size))
    have hnew : rowN x1 x0.heap.size = some #[.slice (some ⟨w.heap.size + 1, 0, none⟩) 16 28, .slice (some ⟨w.heap.size + 1, 16, none⟩) 12 12] := by rw [← hx1, rowN_alloc, if_pos rfl]
    have hgel : V.heap.size ≤ x0.heap.size := HL_0.out.size
    rw [hx1]
    obtain ⟨gl, hgl⟩ : ∃ g, x0.heap.size = g := ⟨_, rfl⟩
    rw [hgl] at hnew hgel ⊢
    have Hl_1 := Lib.hid hnew
    clear hb hnew hgl hx1
    refine hK.out _ _ trivial (fun hHeld1 => ?_)
    clear hK K'
    try simp only [Act.put, List.setIfInBounds_toArray, List.set_cons_zero, List.set_cons_succ]
    refine wpAnyH_ready (rs := [6, 10]) (by kernel_rfl) (by simp) ?_
    refine AllReadyH.cons (o := { dst := some 20, op := Op.call { callee := Callee.value (Operand.func 10), args := #[Operand.tmp 14, Operand.tmp 19], argTypes := #[22, 23] }, type := 29, pos := "law.go:13", after := #[{ on := 0, ground := Ground.data }, { on := 5, ground := Ground.data }], guard := none }) rfl (fun K' hK => ?_) ?_
    · go_simp
      refine ((HMC.out _ _ HL_1.out Hl_1.out)).mono ?_
      rintro e x2 ⟨rfl, hb⟩
      have Hl_2 := Lib.hid (keptW hb Hl_1.out)
      have HL_2 := Lib.hid (HL_1.out.trans (hb.mono HL_1.out.size))
      clear hb
      refine hK.out _ _ trivial (fun hHeld2 => ?_)
      clear hK K'
      try simp only [Act.put, List.setIfInBounds_toArray, List.set_cons_zero, List.set_cons_succ]
      refine wpAnyH_take (i := 7) (oi := { dst := some 13, op := Op.move (Operand.tmp 20), type := 29, pos := "law.go:13", after := #[{ on := 6, ground := Ground.data }], guard := none }) (v := ?tk5) rfl (by kernel_rfl) (by kernel_rfl) (by kernel_rfl) (fun _ _ _ h => h) (Or.inl ⟨by rfl, ?tw5⟩) hHeld2 ?_
      case tw5 => (intro W hW; clear hW; first | (go_simp; done) | (go_simp; with_reducible rfl))
      try simp only [Act.put, List.setIfInBounds_toArray, List.set_cons_zero, List.set_cons_succ]
      refine wpAnyH_take (i := 8) (oi := { dst := some 21, op := Op.extract (Operand.tmp 13) 0, type := 27, pos := "law.go:13", after := #[{ on := 7, ground := Ground.data }], guard := none }) (v := ?tk6) rfl (by kernel_rfl) (by kernel_rfl) (by kernel_rfl) (fun _ _ _ h => h) (Or.inl ⟨by rfl, ?tw6⟩) hHeld2 ?_
      case tw6 => (intro W hW; clear hW; first | (go_simp; done) | (go_simp; with_reducible rfl))
      try simp only [Act.put, List.setIfInBounds_toArray, List.set_cons_zero, List.set_cons_succ]
      refine wpAnyH_take (i := 9) (oi := { dst := some 22, op := Op.extract (Operand.tmp 13) 1, type := 28, pos := "law.go:13", after := #[{ on := 7, ground := Ground.data }, { on := 11, ground := Ground.gcOnly Departure.lateStores }], guard := none }) (v := ?tk7) rfl (by kernel_rfl) (by kernel_rfl) (by kernel_rfl) (fun _ _ _ h => h) (Or.inl ⟨by rfl, ?tw7⟩) hHeld2 ?_
      case tw7 => (intro W hW; clear hW; first | (go_simp; done) | (go_simp; with_reducible rfl))
      try simp only [Act.put, List.setIfInBounds_toArray, List.set_cons_zero, List.set_cons_succ]
      refine wpAnyH_ready (rs := [10]) (by kernel_rfl) (by simp) ?_
      refine AllReadyH.cons (o := { dst := some 3, op := Op.alloc 27, type := 0, pos := "law.go:13", after := #[], guard := none }) rfl (fun K' hK => ?_) AllReadyH.nil
      go_simp
      obtain ⟨x3, hx3⟩ : ∃ X, x2.alloc (.cells (arr .u8 z32) 27) = X := ⟨_, rfl⟩
      have hb : Below x2.heap.size x2 x3 := by rw [← hx3]; exact (Below.refl _ _).alloc (Nat.le_refl _) _
      have Hl_3 := Lib.hid (keptW hb Hl_2.out)
      have HL_3 := Lib.hid (HL_2.out.trans (hb.mono HL_2.out.size))
      have hnew : rowN x3 x2.heap.size = some (arr .u8 z32) := by rw [← hx3, rowN_alloc, if_pos rfl]
      have hgeh : V.heap.size ≤ x2.heap.size := HL_2.out.size
      have hll_h := rowN_lt Hl_2.out
      rw [hx3]
      obtain ⟨gh, hgh⟩ : ∃ g, x2.heap.size = g := ⟨_, rfl⟩
      rw [hgh] at hnew hgeh hll_h ⊢
      have Hh_3 := Lib.hid hnew
      clear hb hnew hgh hx3
      refine hK.out _ _ trivial (fun hHeld3 => ?_)
      clear hK K'
      try simp only [Act.put, List.setIfInBounds_toArray, List.set_cons_zero, List.set_cons_succ]
      refine wpAnyH_ready (rs := [11]) (by kernel_rfl) (by simp) ?_
      refine AllReadyH.cons (o := { dst := none, op := Op.store 27 (Operand.tmp 3) (Operand.tmp 21), type := 0, pos := "law.go:13", after := #[{ on := 10, ground := Ground.data }, { on := 8, ground := Ground.data }, { on := 6, ground := Ground.chain }, { on := 0, ground := Ground.phase }, { on := 1, ground := Ground.phase }, { on := 2, ground := Ground.phase }, { on := 3, ground := Ground.phase }, { on := 4, ground := Ground.phase }, { on := 5, ground := Ground.phase }, { on := 6, ground := Ground.phase }, { on := 7, ground := Ground.phase }, { on := 8, ground := Ground.phase }, { on := 9, ground := Ground.textOnly Departure.lateStores }, { on := 10, ground := Ground.phase }], guard := none }) rfl (fun K' hK => ?_) AllReadyH.nil
      have hrow := Hh_3.out
      go_simp
      obtain ⟨x4, hx4⟩ : ∃ X, x3.setRow gh (arr .u8 O) = X := ⟨_, rfl⟩
      rw [hx4]
      have Hl_4 := Lib.hid (show rowN x4 gl = some #[.slice (some ⟨w.heap.size + 1, 0, none⟩) 16 28, .slice (some ⟨w.heap.size + 1, 16, none⟩) 12 12] by rw [← hx4, rowN_setRow, if_neg (by omega)]; exact Hl_3.out)
      have Hh_4 := Lib.hid (show rowN x4 gh = some (arr .u8 O) by rw [← hx4, rowN_setRow, if_pos rfl, hrow]; rfl)
      have hbl : Below V.heap.size V x4 := by rw [← hx4]; exact below_setRow' HL_3.out (by omega) _
      have HL_4 := Lib.hid hbl
      clear hrow hbl hx4
      refine hK.out _ _ trivial (fun hHeld4 => ?_)
      clear hK K'
      try simp only [Act.put, List.setIfInBounds_toArray, List.set_cons_zero, List.set_cons_succ]
      refine wpAnyH_take (i := 12) (oi := { dst := some 4, op := Op.assign (Operand.tmp 22), type := 28, pos := "law.go:13", after := #[{ on := 9, ground := Ground.data }, { on := 11, ground := Ground.chain }, { on := 0, ground := Ground.phase }, { on := 1, ground := Ground.phase }, { on := 2, ground := Ground.phase }, { on := 3, ground := Ground.phase }, { on := 4, ground := Ground.phase }, { on := 5, ground := Ground.phase }, { on := 6, ground := Ground.phase }, { on := 7, ground := Ground.phase }, { on := 8, ground := Ground.phase }, { on := 9, ground := Ground.phase }, { on := 10, ground := Ground.phase }, { on := 11, ground := Ground.phase }], guard := none }) (v := ?tk8) rfl (by kernel_rfl) (by kernel_rfl) (by kernel_rfl) (fun _ _ _ h => h) (Or.inl ⟨by rfl, ?tw8⟩) hHeld4 ?_
      case tw8 => (intro W hW; clear hW; first | (go_simp; done) | (go_simp; with_reducible rfl))
      try simp only [Act.put, List.setIfInBounds_toArray, List.set_cons_zero, List.set_cons_succ]
      refine wpAnyH_done (by kernel_rfl) ?_ _
      refine NoPanic.normal ?_
      have hst := str_arr Hh_4.out HO32.out
      rw [HSTR.out] at hst
      go_wp2_with fail
      refine (HT4.out _ HL_4.out).mono ?_
      rintro e v1 ⟨s4, rfl, hb4, hn4, hv1⟩
      have H4B := Lib.hid hb4
      have H4N := Lib.hid hn4
      have HV1 := Lib.hid (HL_4.out.trans (hv1.mono HL_4.out.size))
      clear hst hb4 hn4 hv1
      go_wp2_with fail
      refine (HT33.out _ HV1.out).mono ?_
      rintro e v2 ⟨rfl, hv2⟩
      have hst4 := str_bytes (H4B.out.kept hv2) H4N.out
      rw [HSTR4.out] at hst4
      have HV2 := Lib.hid (HV1.out.trans (hv2.mono HV1.out.size))
      clear hv2
      go_wp2_with fail
      refine (HC1.out _ HV2.out).mono ?_
      rintro e v3 ⟨rfl, hv3⟩
      have HV3 := Lib.hid (HV2.out.trans (hv3.mono HV2.out.size))
      clear hv3 hst4
      go_wp2_with fail
      refine (HC2.out _ HV3.out).mono ?_
      rintro e v4 ⟨rfl, hv4⟩
      have HV4 := Lib.hid (HV3.out.trans (hv4.mono HV3.out.size))
      clear hv4
      go_wp2_with fail
      refine (HC3.out _ HV4.out).mono ?_
      rintro e v5 ⟨rfl, hv5⟩
      have HV5 := Lib.hid (HV4.out.trans (hv5.mono HV4.out.size))
      clear hv5
      go_wp2_with fail
      go_ret
      exact ⟨rfl, HBV.out.trans (HV5.out.mono HBV.out.size)⟩
    refine AllReadyH.cons (o := { dst := some 3, op := Op.alloc 27, type := 0, pos := "law.go:13", after := #[], guard := none }) rfl (fun K' hK => ?_) AllReadyH.nil
    go_simp
    obtain ⟨x2, hx2⟩ : ∃ X, x1.alloc (.cells (arr .u8 z32) 27) = X := ⟨_, rfl⟩
    have hb : Below x1.heap.size x1 x2 := by rw [← hx2]; exact (Below.refl _ _).alloc (Nat.le_refl _) _
    have Hl_2 := Lib.hid (keptW hb Hl_1.out)
    have HL_2 := Lib.hid (HL_1.out.trans (hb.mono HL_1.out.size))
    have hnew : rowN x2 x1.heap.size = some (arr .u8 z32) := by rw [← hx2, rowN_alloc, if_pos rfl]
    have hgeh : V.heap.size ≤ x1.heap.size := HL_1.out.size
    have hll_h := rowN_lt Hl_1.out
    rw [hx2]
    obtain ⟨gh, hgh⟩ : ∃ g, x1.heap.size = g := ⟨_, rfl⟩
    rw [hgh] at hnew hgeh hll_h ⊢
    have Hh_2 := Lib.hid hnew
    clear hb hnew hgh hx2
    refine hK.out _ _ trivial (fun hHeld2 => ?_)
    clear hK K'
    try simp only [Act.put, List.setIfInBounds_toArray, List.set_cons_zero, List.set_cons_succ]
    refine wpAnyH_ready (rs := [6]) (by kernel_rfl) (by simp) ?_
    refine AllReadyH.cons (o := { dst := some 20, op := Op.call { callee := Callee.value (Operand.func 10), args := #[Operand.tmp 14, Operand.tmp 19], argTypes := #[22, 23] }, type := 29, pos := "law.go:13", after := #[{ on := 0, ground := Ground.data }, { on := 5, ground := Ground.data }], guard := none }) rfl (fun K' hK => ?_) AllReadyH.nil
    go_simp
    refine ((HMC.out _ _ HL_2.out Hl_2.out)).mono ?_
    rintro e x3 ⟨rfl, hb⟩
    have Hl_3 := Lib.hid (keptW hb Hl_2.out)
    have Hh_3 := Lib.hid (keptW hb Hh_2.out)
    have HL_3 := Lib.hid (HL_2.out.trans (hb.mono HL_2.out.size))
    clear hb
    refine hK.out _ _ trivial (fun hHeld3 => ?_)
    clear hK K'
    try simp only [Act.put, List.setIfInBounds_toArray, List.set_cons_zero, List.set_cons_succ]
    refine wpAnyH_take (i := 7) (oi := { dst := some 13, op := Op.move (Operand.tmp 20), type := 29, pos := "law.go:13", after := #[{ on := 6, ground := Ground.data }], guard := none }) (v := ?tk9) rfl (by kernel_rfl) (by kernel_rfl) (by kernel_rfl) (fun _ _ _ h => h) (Or.inl ⟨by rfl, ?tw9⟩) hHeld3 ?_
    case tw9 => (intro W hW; clear hW; first | (go_simp; done) | (go_simp; with_reducible rfl))
    try simp only [Act.put, List.setIfInBounds_toArray, List.set_cons_zero, List.set_cons_succ]
    refine wpAnyH_take (i := 8) (oi := { dst := some 21, op := Op.extract (Operand.tmp 13) 0, type := 27, pos := "law.go:13", after := #[{ on := 7, ground := Ground.data }], guard := none }) (v := ?tk10) rfl (by kernel_rfl) (by kernel_rfl) (by kernel_rfl) (fun _ _ _ h => h) (Or.inl ⟨by rfl, ?tw10⟩) hHeld3 ?_
    case tw10 => (intro W hW; clear hW; first | (go_simp; done) | (go_simp; with_reducible rfl))
    try simp only [Act.put, List.setIfInBounds_toArray, List.set_cons_zero, List.set_cons_succ]
    refine wpAnyH_take (i := 9) (oi := { dst := some 22, op := Op.extract (Operand.tmp 13) 1, type := 28, pos := "law.go:13", after := #[{ on := 7, ground := Ground.data }, { on := 11, ground := Ground.gcOnly Departure.lateStores }], guard := none }) (v := ?tk11) rfl (by kernel_rfl) (by kernel_rfl) (by kernel_rfl) (fun _ _ _ h => h) (Or.inl ⟨by rfl, ?tw11⟩) hHeld3 ?_
    case tw11 => (intro W hW; clear hW; first | (go_simp; done) | (go_simp; with_reducible rfl))
    try simp only [Act.put, List.setIfInBounds_toArray, List.set_cons_zero, List.set_cons_succ]
    refine wpAnyH_ready (rs := [11]) (by kernel_rfl) (by simp) ?_
    refine AllReadyH.cons (o := { dst := none, op := Op.store 27 (Operand.tmp 3) (Operand.tmp 21), type := 0, pos := "law.go:13", after := #[{ on := 10, ground := Ground.data }, { on := 8, ground := Ground.data }, { on := 6, ground := Ground.chain }, { on := 0, ground := Ground.phase }, { on := 1, ground := Ground.phase }, { on := 2, ground := Ground.phase }, { on := 3, ground := Ground.phase }, { on := 4, ground := Ground.phase }, { on := 5, ground := Ground.phase }, { on := 6, ground := Ground.phase }, { on := 7, ground := Ground.phase }, { on := 8, ground := Ground.phase }, { on := 9, ground := Ground.textOnly Departure.lateStores }, { on := 10, ground := Ground.phase }], guard := none }) rfl (fun K' hK => ?_) AllReadyH.nil
    have hrow := Hh_3.out
    go_simp
    obtain ⟨x4, hx4⟩ : ∃ X, x3.setRow gh (arr .u8 O) = X := ⟨_, rfl⟩
    rw [hx4]
    have Hl_4 := Lib.hid (show rowN x4 gl = some #[.slice (some ⟨w.heap.size + 1, 0, none⟩) 16 28, .slice (some ⟨w.heap.size + 1, 16, none⟩) 12 12] by rw [← hx4, rowN_setRow, if_neg (by omega)]; exact Hl_3.out)
    have Hh_4 := Lib.hid (show rowN x4 gh = some (arr .u8 O) by rw [← hx4, rowN_setRow, if_pos rfl, hrow]; rfl)
    have hbl : Below V.heap.size V x4 := by rw [← hx4]; exact below_setRow' HL_3.out (by omega) _
    have HL_4 := Lib.hid hbl
    clear hrow hbl hx4
    refine hK.out _ _ trivial (fun hHeld4 => ?_)
    clear hK K'
    try simp only [Act.put, List.setIfInBounds_toArray, List.set_cons_zero, List.set_cons_succ]
    refine wpAnyH_take (i := 12) (oi := { dst := some 4, op := Op.assign (Operand.tmp 22), type := 28, pos := "law.go:13", after := #[{ on := 9, ground := Ground.data }, { on := 11, ground := Ground.chain }, { on := 0, ground := Ground.phase }, { on := 1, ground := Ground.phase }, { on := 2, ground := Ground.phase }, { on := 3, ground := Ground.phase }, { on := 4, ground := Ground.phase }, { on := 5, ground := Ground.phase }, { on := 6, ground := Ground.phase }, { on := 7, ground := Ground.phase }, { on := 8, ground := Ground.phase }, { on := 9, ground := Ground.phase }, { on := 10, ground := Ground.phase }, { on := 11, ground := Ground.phase }], guard := none }) (v := ?tk12) rfl (by kernel_rfl) (by kernel_rfl) (by kernel_rfl) (fun _ _ _ h => h) (Or.inl ⟨by rfl, ?tw12⟩) hHeld4 ?_
    case tw12 => (intro W hW; clear hW; first | (go_simp; done) | (go_simp; with_reducible rfl))
    try simp only [Act.put, List.setIfInBounds_toArray, List.set_cons_zero, List.set_cons_succ]
    refine wpAnyH_done (by kernel_rfl) ?_ _
    refine NoPanic.normal ?_
    have hst := str_arr Hh_4.out HO32.out
    rw [HSTR.out] at hst
    go_wp2_with fail
    refine (HT4.out _ HL_4.out).mono ?_
    rintro e v1 ⟨s4, rfl, hb4, hn4, hv1⟩
    have H4B := Lib.hid hb4
    have H4N := Lib.hid hn4
    have HV1 := Lib.hid (HL_4.out.trans (hv1.mono HL_4.out.size))
    clear hst hb4 hn4 hv1
    go_wp2_with fail
    refine (HT33.out _ HV1.out).mono ?_
    rintro e v2 ⟨rfl, hv2⟩
    have hst4 := str_bytes (H4B.out.kept hv2) H4N.out
    rw [HSTR4.out] at hst4
    have HV2 := Lib.hid (HV1.out.trans (hv2.mono HV1.out.size))
    clear hv2
    go_wp2_with fail
    refine (HC1.out _ HV2.out).mono ?_
    rintro e v3 ⟨rfl, hv3⟩
    have HV3 := Lib.hid (HV2.out.trans (hv3.mono HV2.out.size))
    clear hv3 hst4
    go_wp2_with fail
    refine (HC2.out _ HV3.out).mono ?_
    rintro e v4 ⟨rfl, hv4⟩
    have HV4 := Lib.hid (HV3.out.trans (hv4.mono HV3.out.size))
    clear hv4
    go_wp2_with fail
    refine (HC3.out _ HV4.out).mono ?_
    rintro e v5 ⟨rfl, hv5⟩
    have HV5 := Lib.hid (HV4.out.trans (hv5.mono HV4.out.size))
    clear hv5
    go_wp2_with fail
    go_ret
    exact ⟨rfl, HBV.out.trans (HV5.out.mono HBV.out.size)⟩
  refine AllReadyH.cons (o := { dst := some 3, op := Op.alloc 27, type := 0, pos := "law.go:13", after := #[], guard := none }) rfl (fun K' hK => ?_) AllReadyH.nil
  go_simp
  obtain ⟨x1, hx1⟩ : ∃ X, x0.alloc (.cells (arr .u8 z32) 27) = X := ⟨_, rfl⟩
  have hb : Below x0.heap.size x0 x1 := by rw [← hx1]; exact (Below.refl _ _).alloc (Nat.le_refl _) _
  have HL_1 := Lib.hid (HL_0.out.trans (hb.mono HL_0.out.size))
  have hnew : rowN x1 x0.heap.size = some (arr .u8 z32) := by rw [← hx1, rowN_alloc, if_pos rfl]
  have hgeh : V.heap.size ≤ x0.heap.size := HL_0.out.size
  rw [hx1]
  obtain ⟨gh, hgh⟩ : ∃ g, x0.heap.size = g := ⟨_, rfl⟩
  rw [hgh] at hnew hgeh ⊢
  have Hh_1 := Lib.hid hnew
  clear hb hnew hgh hx1
  refine hK.out _ _ trivial (fun hHeld1 => ?_)
  clear hK K'
  try simp only [Act.put, List.setIfInBounds_toArray, List.set_cons_zero, List.set_cons_succ]
  refine wpAnyH_ready (rs := [5]) (by kernel_rfl) (by simp) ?_
  refine AllReadyH.cons (o := { dst := some 19, op := Op.buildSlice 23 2 #[(0, Operand.tmp 16), (1, Operand.tmp 18)], type := 23, pos := "law.go:13", after := #[{ on := 2, ground := Ground.data }, { on := 4, ground := Ground.data }], guard := none }) rfl (fun K' hK => ?_) AllReadyH.nil
  go_simp
  obtain ⟨x2, hx2⟩ : ∃ X, x1.alloc (.cells #[.slice (some ⟨w.heap.size + 1, 0, none⟩) 16 28, .slice (some ⟨w.heap.size + 1, 16, none⟩) 12 12] 22) = X := ⟨_, rfl⟩
  have hb : Below x1.heap.size x1 x2 := by rw [← hx2]; exact (Below.refl _ _).alloc (Nat.le_refl _) _
  have Hh_2 := Lib.hid (keptW hb Hh_1.out)
  have HL_2 := Lib.hid (HL_1.out.trans (hb.mono HL_1.out.size))
  have hnew : rowN x2 x1.heap.size = some #[.slice (some ⟨w.heap.size + 1, 0, none⟩) 16 28, .slice (some ⟨w.heap.size + 1, 16, none⟩) 12 12] := by rw [← hx2, rowN_alloc, if_pos rfl]
  have hgel : V.heap.size ≤ x1.heap.size := HL_1.out.size
  have hlh_l := rowN_lt Hh_1.out
  rw [hx2]
  obtain ⟨gl, hgl⟩ : ∃ g, x1.heap.size = g := ⟨_, rfl⟩
  rw [hgl] at hnew hgel hlh_l ⊢
  have Hl_2 := Lib.hid hnew
  clear hb hnew hgl hx2
  refine hK.out _ _ trivial (fun hHeld2 => ?_)
  clear hK K'
  try simp only [Act.put, List.setIfInBounds_toArray, List.set_cons_zero, List.set_cons_succ]
  refine wpAnyH_ready (rs := [6]) (by kernel_rfl) (by simp) ?_
  refine AllReadyH.cons (o := { dst := some 20, op := Op.call { callee := Callee.value (Operand.func 10), args := #[Operand.tmp 14, Operand.tmp 19], argTypes := #[22, 23] }, type := 29, pos := "law.go:13", after := #[{ on := 0, ground := Ground.data }, { on := 5, ground := Ground.data }], guard := none }) rfl (fun K' hK => ?_) AllReadyH.nil
  go_simp
  refine ((HMC.out _ _ HL_2.out Hl_2.out)).mono ?_
  rintro e x3 ⟨rfl, hb⟩
  have Hh_3 := Lib.hid (keptW hb Hh_2.out)
  have Hl_3 := Lib.hid (keptW hb Hl_2.out)
  have HL_3 := Lib.hid (HL_2.out.trans (hb.mono HL_2.out.size))
  clear hb
  refine hK.out _ _ trivial (fun hHeld3 => ?_)
  clear hK K'
  try simp only [Act.put, List.setIfInBounds_toArray, List.set_cons_zero, List.set_cons_succ]
  refine wpAnyH_take (i := 7) (oi := { dst := some 13, op := Op.move (Operand.tmp 20), type := 29, pos := "law.go:13", after := #[{ on := 6, ground := Ground.data }], guard := none }) (v := ?tk13) rfl (by kernel_rfl) (by kernel_rfl) (by kernel_rfl) (fun _ _ _ h => h) (Or.inl ⟨by rfl, ?tw13⟩) hHeld3 ?_
  case tw13 => (intro W hW; clear hW; first | (go_simp; done) | (go_simp; with_reducible rfl))
  try simp only [Act.put, List.setIfInBounds_toArray, List.set_cons_zero, List.set_cons_succ]
  refine wpAnyH_take (i := 8) (oi := { dst := some 21, op := Op.extract (Operand.tmp 13) 0, type := 27, pos := "law.go:13", after := #[{ on := 7, ground := Ground.data }], guard := none }) (v := ?tk14) rfl (by kernel_rfl) (by kernel_rfl) (by kernel_rfl) (fun _ _ _ h => h) (Or.inl ⟨by rfl, ?tw14⟩) hHeld3 ?_
  case tw14 => (intro W hW; clear hW; first | (go_simp; done) | (go_simp; with_reducible rfl))
  try simp only [Act.put, List.setIfInBounds_toArray, List.set_cons_zero, List.set_cons_succ]
  refine wpAnyH_take (i := 9) (oi := { dst := some 22, op := Op.extract (Operand.tmp 13) 1, type := 28, pos := "law.go:13", after := #[{ on := 7, ground := Ground.data }, { on := 11, ground := Ground.gcOnly Departure.lateStores }], guard := none }) (v := ?tk15) rfl (by kernel_rfl) (by kernel_rfl) (by kernel_rfl) (fun _ _ _ h => h) (Or.inl ⟨by rfl, ?tw15⟩) hHeld3 ?_
  case tw15 => (intro W hW; clear hW; first | (go_simp; done) | (go_simp; with_reducible rfl))
  try simp only [Act.put, List.setIfInBounds_toArray, List.set_cons_zero, List.set_cons_succ]
  refine wpAnyH_ready (rs := [11]) (by kernel_rfl) (by simp) ?_
  refine AllReadyH.cons (o := { dst := none, op := Op.store 27 (Operand.tmp 3) (Operand.tmp 21), type := 0, pos := "law.go:13", after := #[{ on := 10, ground := Ground.data }, { on := 8, ground := Ground.data }, { on := 6, ground := Ground.chain }, { on := 0, ground := Ground.phase }, { on := 1, ground := Ground.phase }, { on := 2, ground := Ground.phase }, { on := 3, ground := Ground.phase }, { on := 4, ground := Ground.phase }, { on := 5, ground := Ground.phase }, { on := 6, ground := Ground.phase }, { on := 7, ground := Ground.phase }, { on := 8, ground := Ground.phase }, { on := 9, ground := Ground.textOnly Departure.lateStores }, { on := 10, ground := Ground.phase }], guard := none }) rfl (fun K' hK => ?_) AllReadyH.nil
  have hrow := Hh_3.out
  go_simp
  obtain ⟨x4, hx4⟩ : ∃ X, x3.setRow gh (arr .u8 O) = X := ⟨_, rfl⟩
  rw [hx4]
  have Hl_4 := Lib.hid (show rowN x4 gl = some #[.slice (some ⟨w.heap.size + 1, 0, none⟩) 16 28, .slice (some ⟨w.heap.size + 1, 16, none⟩) 12 12] by rw [← hx4, rowN_setRow, if_neg (by omega)]; exact Hl_3.out)
  have Hh_4 := Lib.hid (show rowN x4 gh = some (arr .u8 O) by rw [← hx4, rowN_setRow, if_pos rfl, hrow]; rfl)
  have hbl : Below V.heap.size V x4 := by rw [← hx4]; exact below_setRow' HL_3.out (by omega) _
  have HL_4 := Lib.hid hbl
  clear hrow hbl hx4
  refine hK.out _ _ trivial (fun hHeld4 => ?_)
  clear hK K'
  try simp only [Act.put, List.setIfInBounds_toArray, List.set_cons_zero, List.set_cons_succ]
  refine wpAnyH_take (i := 12) (oi := { dst := some 4, op := Op.assign (Operand.tmp 22), type := 28, pos := "law.go:13", after := #[{ on := 9, ground := Ground.data }, { on := 11, ground := Ground.chain }, { on := 0, ground := Ground.phase }, { on := 1, ground := Ground.phase }, { on := 2, ground := Ground.phase }, { on := 3, ground := Ground.phase }, { on := 4, ground := Ground.phase }, { on := 5, ground := Ground.phase }, { on := 6, ground := Ground.phase }, { on := 7, ground := Ground.phase }, { on := 8, ground := Ground.phase }, { on := 9, ground := Ground.phase }, { on := 10, ground := Ground.phase }, { on := 11, ground := Ground.phase }], guard := none }) (v := ?tk16) rfl (by kernel_rfl) (by kernel_rfl) (by kernel_rfl) (fun _ _ _ h => h) (Or.inl ⟨by rfl, ?tw16⟩) hHeld4 ?_
  case tw16 => (intro W hW; clear hW; first | (go_simp; done) | (go_simp; with_reducible rfl))
  try simp only [Act.put, List.setIfInBounds_toArray, List.set_cons_zero, List.set_cons_succ]
  refine wpAnyH_done (by kernel_rfl) ?_ _
  refine NoPanic.normal ?_
  have hst := str_arr Hh_4.out HO32.out
  rw [HSTR.out] at hst
  go_wp2_with fail
  refine (HT4.out _ HL_4.out).mono ?_
  rintro e v1 ⟨s4, rfl, hb4, hn4, hv1⟩
  have H4B := Lib.hid hb4
  have H4N := Lib.hid hn4
  have HV1 := Lib.hid (HL_4.out.trans (hv1.mono HL_4.out.size))
  clear hst hb4 hn4 hv1
  go_wp2_with fail
  refine (HT33.out _ HV1.out).mono ?_
  rintro e v2 ⟨rfl, hv2⟩
  have hst4 := str_bytes (H4B.out.kept hv2) H4N.out
  rw [HSTR4.out] at hst4
  have HV2 := Lib.hid (HV1.out.trans (hv2.mono HV1.out.size))
  clear hv2
  go_wp2_with fail
  refine (HC1.out _ HV2.out).mono ?_
  rintro e v3 ⟨rfl, hv3⟩
  have HV3 := Lib.hid (HV2.out.trans (hv3.mono HV2.out.size))
  clear hv3 hst4
  go_wp2_with fail
  refine (HC2.out _ HV3.out).mono ?_
  rintro e v4 ⟨rfl, hv4⟩
  have HV4 := Lib.hid (HV3.out.trans (hv4.mono HV3.out.size))
  clear hv4
  go_wp2_with fail
  refine (HC3.out _ HV4.out).mono ?_
  rintro e v5 ⟨rfl, hv5⟩
  have HV5 := Lib.hid (HV4.out.trans (hv5.mono HV4.out.size))
  clear hv5
  go_wp2_with fail
  go_ret
  exact ⟨rfl, HBV.out.trans (HV5.out.mono HBV.out.size)⟩
end Go.Proofs.YtmlacbdonkfbdaaDoor
