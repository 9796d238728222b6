/- AES: the reference's words of a key. -/
import Derived.Maps.AppendAt
import Derived.Test.YtjcdbjapadgdfaaDoorBE
import Derived.Test.YtjcdbjapadgdfaaDoorBA
namespace Go.Proofs.YtjcdbjapadgdfaaDoor
open Go.RowKit Go.Shelf

attribute [local go_sem] Oper.semAt_some
theorem wpList_appL {w : World} {ops : Array Oper} {rest : List Oper} {o : Oper} {a : Act} {Q : Exit → Act → World → Prop} (hgd : o.guard = none) (s x : Operand)
    (ho : o.op = .call { callee := .builtin .append, args := #[s, x], argTypes := #[22, 22] }) (base : Nat) {l zs : List Nat} {v src : Value} (hs : a.eval s = v) (hx : a.eval x = src)
    (hown : w.ownsRow base 5 1 v l.length (cl l)) (hB : BytesAt zs src w) (h0 : 0 < zs.length) (hL : l.length + zs.length ≤ 1000000) (hbase : base ≤ w.heap.size)
    (h : ∀ v' w', w'.ownsRow base 5 1 v' (l ++ zs).length (cl (l ++ zs)) → w.grownBy w' v.ownBlock → (v'.ownBlock = v.ownBlock ∨ v'.ownBlock = some w.heap.size) → wpList Tryd.prog ops Q rest (a.put o.dst v') w') : wpList Tryd.prog ops Q (o :: rest) a w := by
  obtain ⟨i0, hi, hz0, hz1, hz2⟩ := info_parts Tryd.info5
  obtain ⟨b, off, c, rfl, _, _⟩ := hB.cells h0
  have hc := (bytes_cells hB).2
  refine wpList_append_own_at _ hgd s x 22 ho base 5 i0 (.int .u8 0) 1 1 Tryd.underlying22 hi hz0 hz1 hz2 rfl (by decide) v _ _ hs hown ⟨b, off, none⟩ zs.length c (cl zs) hx (by rw [cl_len, Nat.mul_one]) hc (cl_one zs) (by unfold maxLen; omega) (by omega) hbase ?_
  intro v' w' ho' hg _ hat
  exact h v' w' (by rw [List.length_append, cl_app]; exact ho') hg hat
theorem wp_appL {w : World} {o : Oper} {a : Act} {K : Act → World → Prop} {Q : Exit → Act → World → Prop} (s x : Operand)
    (ho : o.op = .call { callee := .builtin .append, args := #[s, x], argTypes := #[22, 22] }) (base : Nat) {l zs : List Nat} {v src : Value} (hs : a.eval s = v) (hx : a.eval x = src)
    (hown : w.ownsRow base 5 1 v l.length (cl l)) (hB : BytesAt zs src w) (h0 : 0 < zs.length) (hL : l.length + zs.length ≤ 1000000) (hbase : base ≤ w.heap.size)
    (h : ∀ v' w', w'.ownsRow base 5 1 v' (l ++ zs).length (cl (l ++ zs)) → w.grownBy w' v.ownBlock → (v'.ownBlock = v.ownBlock ∨ v'.ownBlock = some w.heap.size) → K (a.put o.dst v') w') : o.wp Tryd.prog a w K Q := by
  obtain ⟨i0, hi, hz0, hz1, hz2⟩ := info_parts Tryd.info5
  obtain ⟨b, off, c, rfl, _, _⟩ := hB.cells h0
  have hc := (bytes_cells hB).2
  obtain ⟨v', w', hr, h2, h3, _, h5⟩ := run_append_own_at (P := Tryd.prog) w base 22 o.type 5 i0 (.int .u8 0) 1 1 Tryd.underlying22 hi hz0 hz1 hz2 rfl (by decide) v _ _ hown ⟨b, off, none⟩ zs.length c (cl zs) (by rw [cl_len, Nat.mul_one]) hc (cl_one zs) (by unfold maxLen; omega) (by omega) hbase
  unfold Oper.wp execOp
  simp only [ho, resolve, invoke, builtin, Sem.run_bind, Sem.run_pure, Result.andThen_ok, List.map_toArray, List.map_cons, List.map_nil, hs, hx, hr]
  exact h v' w' (by rw [List.length_append, cl_app]; exact h2) h3 h5
theorem run_slice25_lh (b off L c l h : Nat) (hl : l ≤ h) (hh : h ≤ c) (hlt : l < c) (W : World) :
    (Instr.sliceAt 22 (.slice (some ⟨b, off, none⟩) L c) (some (.int .i64 (l : Nat))) (some (.int .i64 (h : Nat))) none).run Tryd.prog W = .ok (.slice (some ⟨b, off + l, none⟩) (h - l) (c - l)) W := by
  have e1 : ((h : Nat) : Int).toNat = h := Int.toNat_natCast h
  have e2 : ((l : Nat) : Int).toNat = l := Int.toNat_natCast l
  have e4 : max ((h : Nat) : Int) 0 = h := by omega
  have e5 : ¬ c = l := by omega
  have e6 : ((h : Nat) : Int) ≤ (c : Int) := by omega
  have e7 : (0 : Int) ≤ (h : Int) := by omega
  have e8 : (0 : Int) ≤ (l : Int) := by omega
  have e9 : ((l : Nat) : Int) ≤ (h : Int) := by omega
  go_simp
/-- A part of bytes. -/
theorem bytes_cut {zs : List Nat} {b off n c : Nat} {W : World} (h : BytesAt zs (.slice (some ⟨b, off, none⟩) n c) W) (lo m : Nat) (hm : lo + m ≤ zs.length) : BytesAt ((zs.drop lo).take m) (.slice (some ⟨b, off + lo, none⟩) m (c - lo)) W := by
  obtain ⟨h1, a, c2, e, hc, h2⟩ := h
  cases e
  have hlen : ((zs.drop lo).take m).length = m := by rw [List.length_take, List.length_drop]; omega
  refine ⟨fun x hx => h1 x (List.mem_of_mem_drop (List.mem_of_mem_take hx)), _, c - lo, by rw [hlen], by rw [hlen]; omega, ?_⟩
  rw [hlen]
  rcases h2 with h2 | ⟨b', off', ea, hb, hj⟩
  · exact .inl (by omega)
  · cases ea
    refine .inr ⟨b, _, rfl, hb, fun j hjl => ?_⟩
    rw [Nat.add_assoc, hj (lo + j) (by omega), dt_get _ _ hjl]
theorem own_bytes {l : List Nat} {base n : Nat} {w : World} {s : Value} (hl : ∀ x ∈ l, x < 256) (hn : l.length = n) (h : w.ownsRow base 5 1 s n (cl l)) : BytesAt l s w := by
  subst hn; exact owns_bytes hl h
def WoR (F : List Nat) (w : World) (v p i : Value) (wr : World) : Prop :=
  ∃ n : Nat, 4 ≤ n ∧ n ≤ 44 ∧ i = .int .i64 (n : Nat) ∧ p = .int .u8 (rc ((n - 1) / 4) : Nat) ∧ wr.ownsRow w.heap.size 5 1 v (F.take (4 * n)).length (cl (F.take (4 * n))) ∧ Below w.heap.size w wr
def WiR (F L : List Nat) (n bl : Nat) (w : World) (v k : Value) (wr : World) : Prop :=
  ∃ m : Nat, m ≤ 4 ∧ k = .int .i64 (m : Nat) ∧ wr.ownsRow w.heap.size 5 1 v (F.take (4 * n + m)).length (cl (F.take (4 * n + m))) ∧ Below w.heap.size w wr ∧ v.ownBlock ≠ some bl ∧ bl < wr.heap.size ∧ ∀ j, j < 4 → wr.cell? ⟨bl, j, none⟩ = some (.int .u8 (L.getD j 0 : Nat))
theorem take_succ_getD {l : List Nat} {n : Nat} (h : n < l.length) : l.take n ++ [l.getD n 0] = l.take (n + 1) := by
  rw [List.take_succ_eq_append_getElem h, List.getD, List.getElem?_eq_getElem h]; rfl
theorem ownsRow_form' {w : World} {base n : Nat} {v : Value} {xs : List Value} (h : w.ownsRow base 5 1 v n xs) (hn : 0 < n) : ∃ g cap, v = .slice (some ⟨g, 0, none⟩) n cap ∧ base ≤ g ∧ g < w.heap.size := by
  rcases h.2 with ⟨_, h0⟩ | ⟨g, cap, cur, hv, hb, hg, _⟩
  · omega
  · exact ⟨g, cap, hv, hb, (Array.getElem?_eq_some_iff.1 hg).1⟩
set_option maxRecDepth 100000 in
set_option maxHeartbeats 4000000 in
theorem rwords_any (key : List Nat) (s : Value) (hl : key.length = 16) (w : World) (hG : SG w) (hB : BytesAt key s w) (hnil : Nil0 s) :
    Calls Tryd.prog 16 #[s] w fun e w' => ∃ s', e = .returned s' ∧ BytesAt (FL (wordsL key)) s' w' ∧ Nil0 s' ∧ (∀ j, InS s' j → w.heap.size ≤ j) ∧ Below w.heap.size w w' := by
  have hkw := wordsL_w32 hB.1
  have hkl := wordsL_len key
  have HK0 := Lib.hid (show key = (FL (wordsL key)).take 16 by
    have h := bytes_words hl hB.1
    have e : (FL (wordsL key)).take 16 = bytesL (wordsL key) := by
      unfold FL kf
      rw [show (List.range 11).flatMap (rk (wordsL key)) = wordsL key ++ (List.range 10).flatMap (fun i => rk (wordsL key) (i + 1)) from rfl]
      unfold bytesL
      rw [List.flatMap_append, List.take_append_of_le_length (by have := bytesL_len (wordsL key); unfold bytesL at this; rw [this, hkl]; omega), List.take_of_length_le (by have := bytesL_len (wordsL key); unfold bytesL at this; rw [this, hkl]; omega)]
    rw [e, h])
  have HKW := Lib.hid hkw
  have HKL := Lib.hid hkl
  have HF2 := Lib.hid (FL_256 hkw)
  have HL := Lib.hid (FL_len hkl)
  obtain ⟨kw, hkwe⟩ : ∃ q, wordsL key = q := ⟨_, rfl⟩
  rw [hkwe] at HK0 HKW HKL HF2 HL ⊢
  obtain ⟨F, hF⟩ : ∃ q, FL kw = q := ⟨_, rfl⟩
  have HFE := Lib.hid hF
  rw [hF] at HK0 HF2 HL ⊢
  have HG := Lib.hid hG
  have HB0 := Lib.hid hB
  have HN0 := Lib.hid hnil
  have HLK := Lib.hid hl
  have hown2 : (w.alloc (.cells #[] 5)).ownsRow w.heap.size 5 1 (.slice (some ⟨w.heap.size, 0, none⟩) 0 0) ([] : List Nat).length (cl []) := World.ownsRow_lit w #[] 0 (Nat.le_refl _) (by unfold maxLen; omega) rfl
  have hbel2 : Below w.heap.size w (w.alloc (.cells #[] 5)) := (Below.refl _ w).alloc (Nat.le_refl _) _
  clear hl hB hnil hG hkw hkl hkwe hF
  go_enter Tryd.func16, Tryd.ntmps16
  go_wp2_with (at_builtin; refine wpList_app rfl _ _ rfl w.heap.size rfl rfl hown2 (HB0.out.kept hbel2) HN0.out (by rw [HLK.out]; simp) (by simp) ?_; intro v1 w1 hown1 hgrow1)
  have HB1 := Lib.hid (below_owned hbel2 hown2 hgrow1 (by simp))
  have HO1 := Lib.hid hown1
  rw [List.nil_append, HK0.out] at HO1
  clear hown1 hgrow1 hown2 hbel2 HB0 HN0 HK0
  go_wp2_with fail
  go_loopw [3, 4, 5] (fun v p i wr => WoR F w v p i wr) (fun _ _ i _ => 44 - (intOf i).toNat)
  case atStart => exact ⟨4, by omega, by omega, rfl, rfl, HO1.out, HB1.out⟩
  case round => as_aux_lemma =>
    clear HO1 HB1
    obtain ⟨n, h4n, hn, rfl, rfl, hown, hbel⟩ := hrel
    by_cases hlt : n < 44
    · have hF4 : (F.take (4 * n)).length = 4 * n := by rw [List.length_take, HL.out]; omega
      obtain ⟨g, cap, rfl, hgb, hgl⟩ := ownsRow_form' hown (by omega)
      have hBy := own_bytes (fun x hx => HF2.out x (List.mem_of_mem_take hx)) rfl hown
      have hcut := bytes_cut hBy (4 * n - 4) 4 (by omega)
      rw [Nat.zero_add, show ((F.take (4 * n)).drop (4 * n - 4)).take 4 = (F.drop (4 * n - 4)).take 4 by rw [List.drop_take, List.take_take, show min 4 (4 * n - (4 * n - 4)) = 4 by omega]] at hcut
      have hcap : 4 * n ≤ cap := by
        obtain ⟨_, a, c, e, hc, _⟩ := hBy
        cases e
        omega
      obtain ⟨Pn, hPn⟩ : ∃ q, (F.drop (4 * n - 4)).take 4 = q := ⟨_, rfl⟩
      have hPl : Pn.length = 4 := by rw [← hPn, List.length_take, List.length_drop, HL.out]; omega
      have hPe : ∀ j, j < 4 → Pn.getD j 0 = F.getD (4 * n - 4 + j) 0 := fun j hj => by rw [← hPn, dt_get _ _ hj]
      rw [hPn] at hcut
      have hP256 := hcut.1
      have HCUT := Lib.hid hcut
      have HPN := Lib.hid hPn
      have HPL := Lib.hid hPl
      have HPE := Lib.hid hPe
      have HP2 := Lib.hid hP256
      have HGV := Lib.hid (HG.out.kept hbel)
      have hsl : ∀ W : World, (Instr.sliceAt 22 (.slice (some ⟨g, 0, none⟩) (4 * n) cap) (some (.int .i64 (4 * ((n : Nat) : Int) - 4))) (some (.int .i64 (4 * ((n : Nat) : Int)))) none).run Tryd.prog W = .ok (.slice (some ⟨g, 4 * n - 4, none⟩) 4 (cap - (4 * n - 4))) W := fun W => by
        have h := run_slice25_lh g 0 (4 * n) cap (4 * n - 4) (4 * n) (by omega) hcap (by omega) W
        rw [show 4 * n - (4 * n - 4) = 4 by omega, show ((4 * n - 4 : Nat) : Int) = 4 * ((n : Nat) : Int) - 4 by omega, show ((4 * n : Nat) : Int) = 4 * ((n : Nat) : Int) by omega, Nat.zero_add] at h
        exact h
      have q0 : ((n : Nat) : Int) < 44 := by omega
      have q1 : IntKind.i64.wrap (4 * ((n : Nat) : Int)) = 4 * ((n : Nat) : Int) := IntWalk.i64_in _ (by omega)
      have q2 : IntKind.i64.wrap (4 * ((n : Nat) : Int) - 4) = 4 * ((n : Nat) : Int) - 4 := IntWalk.i64_in _ (by omega)
      have HO := Lib.hid hown
      have HB := Lib.hid hbel
      have HGL := Lib.hid hgl
      have HGB := Lib.hid hgb
      have hwz := hbel.size
      have hown2 : (wr.alloc (.cells #[] 5)).ownsRow wr.heap.size 5 1 (.slice (some ⟨wr.heap.size, 0, none⟩) 0 0) ([] : List Nat).length (cl []) := World.ownsRow_lit wr #[] 0 (Nat.le_refl _) (by unfold maxLen; omega) rfl
      have hbel2 : Below wr.heap.size wr (wr.alloc (.cells #[] 5)) := (Below.refl _ wr).alloc (Nat.le_refl _) _
      rw [hF4] at HO ⊢
      have HF4 := Lib.hid hF4
      by_cases h0 : n % 4 = 0
      · have m1 : ((n : Nat) : Int) % 4 = 0 := by omega
        have m2 : ((n : Nat) : Int).tmod 4 = 0 := by rw [Int.tmod_eq_emod_of_nonneg (by omega)]; exact m1
        clear hown hbel hBy hcut hPl hPe hP256 hPn hgl hgb hF4
        go_wp2_with (at_builtin; refine wpList_app rfl _ _ rfl wr.heap.size rfl rfl hown2 (HCUT.out.kept hbel2) (fun _ _ e => by cases e) (by rw [HPL.out]; simp) (by simp) ?_; intro v1 w1 hown1 hgrow1)
        have hb1 := below_owned (hbel2) hown2 hgrow1 (by simp)
        have HBW := Lib.hid hb1
        obtain ⟨bl, cp, rfl, hblb, hbll⟩ := ownsRow_form' hown1 (by rw [List.nil_append, HPL.out]; omega)
        rw [List.nil_append, HPL.out] at hown1
        try rw [List.nil_append]
        rw [HPL.out]
        have HCL := Lib.hid (show ∀ j, j < 4 → w1.cell? ⟨bl, j, none⟩ = some (.int .u8 (Pn.getD j 0 : Nat)) from fun j hj => by
          rw [hown1.cellAt j (by omega), cl_get Pn j (by rw [HPL.out]; exact hj)])
        have HOW := Lib.hid (show w1.ownsRow w.heap.size 5 1 (.slice (some ⟨g, 0, none⟩) (4 * n) cap) (4 * n) (cl (F.take (4 * n))) from (HO.out.alloc (.cells #[] 5)).kept hgrow1 (.inr (show some g ≠ some wr.heap.size from fun e => by injection e with e; have := HGL.out; omega)))
        have HBLB := Lib.hid hblb
        have HBLL := Lib.hid hbll
        have HBX := Lib.hid (HB.out.trans (hb1.mono hwz))
        have HGW := Lib.hid (HGV.out.kept hb1)
        clear hown1 hgrow1 hown2 hbel2 hb1 HCUT HO HB HGV hsl hblb hbll q1 q2
        have g1 := sb_lt (Pn.getD 1 0)
        have g2 := sb_lt (Pn.getD 2 0)
        have g3 := sb_lt (Pn.getD 3 0)
        have g0 := sb_lt (Pn.getD 0 0)
        have hrc := rc_lt ((n - 1) / 4)
        have HLA : LaL kw n = [tb sb (Pn.getD 1 0) ^^^ rc ((n - 1) / 4), tb sb (Pn.getD 2 0), tb sb (Pn.getD 3 0), tb sb (Pn.getD 0 0)] := by
          unfold LaL
          rw [if_pos h0, HFE.out, HPE.out 0 (by omega), HPE.out 1 (by omega), HPE.out 2 (by omega), HPE.out 3 (by omega), show 4 * n - 4 + 1 = 4 * n - 3 by omega, show 4 * n - 4 + 2 = 4 * n - 2 by omega, show 4 * n - 4 + 3 = 4 * n - 1 by omega, Nat.add_zero]
        have c1 : w1.drew.cell? ⟨bl, 1, none⟩ = _ := HCL.out 1 (by omega)
        have c2 : w1.drew.cell? ⟨bl, 2, none⟩ = _ := HCL.out 2 (by omega)
        have c3 : w1.drew.cell? ⟨bl, 3, none⟩ = _ := HCL.out 3 (by omega)
        have c0 : w1.drew.cell? ⟨bl, 0, none⟩ = _ := HCL.out 0 (by omega)
        have d1 : w1.drew.cell? ⟨0, Pn.getD 1 0, none⟩ = _ := HGW.out.2 _ (byte_lt HP2.out 1)
        have d2 : w1.drew.cell? ⟨0, Pn.getD 2 0, none⟩ = _ := HGW.out.2 _ (byte_lt HP2.out 2)
        have d3 : w1.drew.cell? ⟨0, Pn.getD 3 0, none⟩ = _ := HGW.out.2 _ (byte_lt HP2.out 3)
        have d0 : w1.drew.cell? ⟨0, Pn.getD 0 0, none⟩ = _ := HGW.out.2 _ (byte_lt HP2.out 0)
        have l1 : ((Pn.getD 1 0 : Nat) : Int) < 256 := by have := byte_lt HP2.out 1; omega
        have l2 : ((Pn.getD 2 0 : Nat) : Int) < 256 := by have := byte_lt HP2.out 2; omega
        have l3 : ((Pn.getD 3 0 : Nat) : Int) < 256 := by have := byte_lt HP2.out 3; omega
        have l0 : ((Pn.getD 0 0 : Nat) : Int) < 256 := by have := byte_lt HP2.out 0; omega
        obtain ⟨x1, hx1⟩ : ∃ q, Pn.getD 1 0 = q := ⟨_, rfl⟩
        obtain ⟨x2, hx2⟩ : ∃ q, Pn.getD 2 0 = q := ⟨_, rfl⟩
        obtain ⟨x3, hx3⟩ : ∃ q, Pn.getD 3 0 = q := ⟨_, rfl⟩
        obtain ⟨x0, hx0⟩ : ∃ q, Pn.getD 0 0 = q := ⟨_, rfl⟩
        rw [hx1] at g1 HLA c1 d1 l1
        rw [hx2] at g2 HLA c2 d2 l2
        rw [hx3] at g3 HLA c3 d3 l3
        rw [hx0] at g0 HLA c0 d0 l0
        have hpx := bits_xor8 _ _ g1 hrc
        have HRC := Lib.hid (show rc ((n + 1 - 1) / 4) = xt (rc ((n - 1) / 4)) by rw [show (n + 1 - 1) / 4 = (n - 1) / 4 + 1 by omega]; rfl)
        have HTW := Lib.hid (fun W => twice_any (rc ((n - 1) / 4)) hrc W)
        obtain ⟨p, hp⟩ : ∃ q, rc ((n - 1) / 4) = q := ⟨_, rfl⟩
        rw [hp] at hrc HLA hpx HRC HTW ⊢
        obtain ⟨y1, hy1⟩ : ∃ q, tb sb x1 = q := ⟨_, rfl⟩
        obtain ⟨y2, hy2⟩ : ∃ q, tb sb x2 = q := ⟨_, rfl⟩
        obtain ⟨y3, hy3⟩ : ∃ q, tb sb x3 = q := ⟨_, rfl⟩
        obtain ⟨y0, hy0⟩ : ∃ q, tb sb x0 = q := ⟨_, rfl⟩
        rw [hy1] at g1 HLA d1 hpx
        rw [hy2] at g2 HLA d2
        rw [hy3] at g3 HLA d3
        rw [hy0] at g0 HLA d0
        have HZ := Lib.hid (xor8 g1 hrc)
        obtain ⟨z, hz⟩ : ∃ q, y1 ^^^ p = q := ⟨_, rfl⟩
        rw [hz] at HLA hpx HZ
        have HLB := Lib.hid (show ∀ x ∈ LaL kw n, x < 256 from fun x hx => by
          rw [HLA] at hx
          simp only [List.mem_cons, List.not_mem_nil, or_false] at hx
          rcases hx with rfl | rfl | rfl | rfl
          · exact HZ.out
          · exact g2
          · exact g3
          · exact g0)
        have HLAE := Lib.hid HLA
        have hhs1 := HBX.out.size
        clear hx0 hx1 hx2 hx3 hy0 hy1 hy2 hy3 hz hp g0 g1 g2 g3 hrc HLA HPE HCL HGW HP2
        refine wp_region_still_tail 22 (by kernel_rfl) (by kernel_rfl) ?_
        simp only [List.take_succ_cons, List.take_zero, List.drop_succ_cons, List.drop_zero]
        repeat still_step
        refine wpStill_nil ?_
        change wpList _ _ _ _ _ w1.drew
        go_wp2_with fail
        obtain ⟨w2, hw2⟩ : ∃ q, (w1.alloc (.cells #[.int .u8 (z : Nat), .int .u8 (y2 : Nat), .int .u8 (y3 : Nat), .int .u8 (y0 : Nat)] 5)).drew = q := ⟨_, rfl⟩
        have HB1 := Lib.hid (show Below w.heap.size w w2 by rw [← hw2]; exact (HBX.out.alloc hhs1 _).drew)
        have HO1 := Lib.hid (show w2.ownsRow w.heap.size 5 1 (.slice (some ⟨g, 0, none⟩) (4 * n) cap) (F.take (4 * n + 0)).length (cl (F.take (4 * n + 0))) by rw [Nat.add_zero, HF4.out, ← hw2]; exact (HOW.out.alloc _).drew)
        have HR4 := Lib.hid (show rowN w2 w1.heap.size = some (arr .u8 [z, y2, y3, y0]) by rw [← hw2, rowN_drew, rowN_alloc, if_pos rfl, arr_lit]; rfl)
        have HBL := Lib.hid (rowN_lt HR4.out)
        have HCL := Lib.hid (show ∀ j, j < 4 → w2.cell? ⟨w1.heap.size, j, none⟩ = some (.int .u8 ((LaL kw n).getD j 0 : Nat)) from fun j hj => by rw [HLAE.out]; exact cell_arr HR4.out hj)
        have HNB := Lib.hid (show (Value.slice (some ⟨g, 0, none⟩) (4 * n) cap).ownBlock ≠ some w1.heap.size from (show some g ≠ some w1.heap.size from fun e => by injection e with e; have := HGL.out; have := HBLB.out; have := HBLL.out; omega))
        rw [hw2]
        clear c0 c1 c2 c3 d0 d1 d2 d3 l0 l1 l2 l3 hpx hw2 hhs1 HBX HOW HR4 HLAE
        obtain ⟨bl2, hbl2⟩ : ∃ q, w1.heap.size = q := ⟨_, rfl⟩
        rw [hbl2] at HBL HCL HNB ⊢
        clear hbl2 HBLL HBLB HZ
        refine (HTW.out _).mono ?_
        rintro e w3 ⟨rfl, rfl⟩
        rw [← HRC.out]
        have hF4 : (F.take (4 * n)).length = 4 * n := by rw [List.length_take, HL.out]; omega
        have hLL := Lib.hid (fun (j : Nat) (_ : j < 4) => byte_lt HLB.out j)
        go_wp2_with fail
        go_loopw [3, 7] (fun v k wq => WiR F (LaL kw n) n bl2 w v k wq) (fun _ k _ => 4 - (intOf k).toNat)
        case atStart => exact ⟨0, by omega, rfl, HO1.out, HB1.out, HNB.out, HBL.out, HCL.out⟩
        case round => as_aux_lemma =>
          clear HO1 HB1 HNB HBL HCL
          obtain ⟨m, hm, rfl, hown, hbel, hnb, hbl, hcl⟩ := hrel
          by_cases hlt2 : m < 4
          · have hl2 : (F.take (4 * n + m)).length = 4 * n + m := by rw [List.length_take, HL.out]; omega
            obtain ⟨g, cap, rfl, hgb, hgl⟩ := ownsRow_form' hown (by omega)
            have hBy := own_bytes (fun x hx => HF2.out x (List.mem_of_mem_take hx)) rfl hown
            have hco : wr.drew.cell? ⟨g, 4 * n - 16 + m, none⟩ = some (.int .u8 (F.getD (4 * n - 16 + m) 0 : Nat)) := by
              obtain ⟨b, off, c, e, _, hj⟩ := hBy.cells (by omega)
              cases e
              have h := hj (4 * n - 16 + m) (by omega)
              rw [Nat.zero_add] at h
              rw [show (F.take (4 * n + m)).getD (4 * n - 16 + m) 0 = F.getD (4 * n - 16 + m) 0 by rw [List.getD, List.getElem?_take, if_pos (by omega)]; rfl] at h
              exact h
            have hcm : wr.drew.cell? ⟨bl2, m, none⟩ = some (.int .u8 ((LaL kw n).getD m 0 : Nat)) := hcl m hlt2
            have y1 := byte_lt HF2.out (4 * n - 16 + m)
            have y2 := hLL.out m hlt2
            have hst := FL_step HKL.out HKW.out (i := n) h4n hlt hlt2
            rw [HFE.out] at hst
            have HTK := Lib.hid (take_succ_getD (l := F) (n := 4 * n + m) (by rw [HL.out]; omega))
            rw [hst] at HTK
            have HY := Lib.hid (xor8 y1 y2)
            have hxy := bits_xor8 _ _ y1 y2
            obtain ⟨x, hx⟩ : ∃ z, F.getD (4 * n - 16 + m) 0 = z := ⟨_, rfl⟩
            obtain ⟨y, hy⟩ : ∃ z, (LaL kw n).getD m 0 = z := ⟨_, rfl⟩
            rw [hx] at hco HTK hxy HY
            rw [hy] at hcm HTK hxy HY
            obtain ⟨z, hz⟩ : ∃ q, x ^^^ y = q := ⟨_, rfl⟩
            rw [hz] at HTK hxy HY
            have q0 : ((m : Nat) : Int) < 4 := by omega
            have q1 : IntKind.i64.wrap (4 * ((n : Nat) : Int)) = 4 * ((n : Nat) : Int) := IntWalk.i64_in _ (by omega)
            have q2 : IntKind.i64.wrap (4 * ((n : Nat) : Int) - 16) = 4 * ((n : Nat) : Int) - 16 := IntWalk.i64_in _ (by omega)
            have q3 : IntKind.i64.wrap (4 * ((n : Nat) : Int) - 16 + ((m : Nat) : Int)) = 4 * ((n : Nat) : Int) - 16 + ((m : Nat) : Int) := IntWalk.i64_in _ (by omega)
            have q4 : (0 : Int) ≤ 4 * ((n : Nat) : Int) - 16 + ((m : Nat) : Int) := by omega
            have q6 : (4 * ((n : Nat) : Int) - 16 + ((m : Nat) : Int)).toNat = 4 * n - 16 + m := by omega
            have HO := Lib.hid hown
            have HLN := Lib.hid hl2
            obtain ⟨Lv, hLv⟩ : ∃ q, (F.take (4 * n + m)).length = q := ⟨_, rfl⟩
            rw [hLv] at HO HLN
            have q5 : 4 * ((n : Nat) : Int) - 16 + ((m : Nat) : Int) < ((Lv : Nat) : Int) := by have := HLN.out; omega
            have HLV := Lib.hid hLv
            have HB := Lib.hid hbel
            have HN := Lib.hid hnb
            have HBL := Lib.hid hbl
            have HCL := Lib.hid hcl
            have HLIT := Lib.hid (fun (W : World) => show BytesAt [z] (.slice (some ⟨W.heap.size, 0, none⟩) 1 1) (W.alloc (.cells #[.int .u8 (z : Nat)] 5)) from
              bytes_row (fun y hy => by rw [List.mem_singleton.1 hy]; exact HY.out) (by rw [rowN_alloc, if_pos rfl, arr_lit]; rfl) 1 rfl)
            have hwz := hbel.size
            rw [HLV.out]
            have Ha_0 := Lib.hid hco
            have Hb_0 := Lib.hid hcm
            have HO_0 := Lib.hid (show wr.drew.ownsRow w.heap.size 5 1 (.slice (some ⟨g, 0, none⟩) Lv cap) Lv (cl (F.take (4 * n + m))) from HO.out.drew)
            have HB_0 := Lib.hid (show Below w.heap.size w wr.drew from HB.out.drew)
            have HC_0 := Lib.hid (show ∀ j, j < 4 → wr.drew.cell? ⟨bl2, j, none⟩ = some (.int .u8 ((LaL kw n).getD j 0 : Nat)) from HCL.out)
            have HS_0 := Lib.hid (show bl2 < wr.drew.heap.size from HBL.out)
            have HZ_0 := Lib.hid (show w.heap.size ≤ wr.drew.heap.size from hwz)
            have HL_0 := Lib.hid (show Below wr.heap.size wr wr.drew from (Below.refl _ _).drew)
            clear hown hbel hnb hbl hcl hBy hx hy hz hst hl2 hLv y1 y2 hgb hgl hco hcm HO HB HCL HBL hwz
            go_upto_region 13 with fail
            refine wp_region_noPanic ?_
            refine wp_region_held_drew (S := fun W => True) (by kernel_rfl) trivial (fun hHeld0 => ?_)
            obtain ⟨x0, hx0⟩ : ∃ X, wr.drew = X := ⟨_, rfl⟩
            rw [hx0] at Ha_0 Hb_0 HO_0 HB_0 HC_0 HS_0 HZ_0 HL_0 ⊢
            clear hx0
            refine wpAnyH_take (i := 0) (oi := { dst := some 56, op := Op.move (Operand.tmp 3), type := 22, pos := "ref.go:68", after := #[], guard := none }) (v := ?tk0) rfl (by kernel_rfl) (by kernel_rfl) (by kernel_rfl) (fun _ _ _ h => h) (Or.inl ⟨by rfl, ?tw0⟩) hHeld0 ?_
            case tw0 => (intro W hW; clear hW; first | (go_simp; done) | (go_simp; with_reducible rfl))
            try simp only [Act.put, List.setIfInBounds_toArray, List.set_cons_zero, List.set_cons_succ]
            refine wpAnyH_take (i := 1) (oi := { dst := some 57, op := Op.move (Operand.tmp 3), type := 22, pos := "ref.go:68", after := #[], guard := none }) (v := ?tk1) rfl (by kernel_rfl) (by kernel_rfl) (by kernel_rfl) (fun _ _ _ h => h) (Or.inl ⟨by rfl, ?tw1⟩) hHeld0 ?_
            case tw1 => (intro W hW; clear hW; first | (go_simp; done) | (go_simp; with_reducible rfl))
            try simp only [Act.put, List.setIfInBounds_toArray, List.set_cons_zero, List.set_cons_succ]
            refine wpAnyH_take (i := 2) (oi := { dst := some 58, op := Op.move (Operand.tmp 5), type := 3, pos := "ref.go:68", after := #[], guard := none }) (v := ?tk2) rfl (by kernel_rfl) (by kernel_rfl) (by kernel_rfl) (fun _ _ _ h => h) (Or.inl ⟨by rfl, ?tw2⟩) hHeld0 ?_
            case tw2 => (intro W hW; clear hW; first | (go_simp; done) | (go_simp; with_reducible rfl))
            try simp only [Act.put, List.setIfInBounds_toArray, List.set_cons_zero, List.set_cons_succ]
            refine wpAnyH_take (i := 3) (oi := { dst := some 59, op := Op.binOp BinOp.mul 3 (Operand.const (Value.int IntKind.i64 4)) (Operand.tmp 58) 3, type := 3, pos := "ref.go:68", after := #[{ on := 2, ground := Ground.data }], guard := none }) (v := ?tk3) rfl (by kernel_rfl) (by kernel_rfl) (by kernel_rfl) (fun _ _ _ h => h) (Or.inl ⟨by rfl, ?tw3⟩) hHeld0 ?_
            case tw3 => (intro W hW; clear hW; first | (go_simp; done) | (go_simp; with_reducible rfl))
            try simp only [Act.put, List.setIfInBounds_toArray, List.set_cons_zero, List.set_cons_succ]
            refine wpAnyH_take (i := 4) (oi := { dst := some 60, op := Op.binOp BinOp.sub 3 (Operand.tmp 59) (Operand.const (Value.int IntKind.i64 16)) 3, type := 3, pos := "ref.go:68", after := #[{ on := 3, ground := Ground.data }], guard := none }) (v := ?tk4) rfl (by kernel_rfl) (by kernel_rfl) (by kernel_rfl) (fun _ _ _ h => h) (Or.inl ⟨by rfl, ?tw4⟩) hHeld0 ?_
            case tw4 => (intro W hW; clear hW; first | (go_simp; done) | (go_simp; with_reducible rfl))
            try simp only [Act.put, List.setIfInBounds_toArray, List.set_cons_zero, List.set_cons_succ]
            refine wpAnyH_take (i := 5) (oi := { dst := some 61, op := Op.move (Operand.tmp 7), type := 3, pos := "ref.go:68", after := #[], guard := none }) (v := ?tk5) rfl (by kernel_rfl) (by kernel_rfl) (by kernel_rfl) (fun _ _ _ h => h) (Or.inl ⟨by rfl, ?tw5⟩) hHeld0 ?_
            case tw5 => (intro W hW; clear hW; first | (go_simp; done) | (go_simp; with_reducible rfl))
            try simp only [Act.put, List.setIfInBounds_toArray, List.set_cons_zero, List.set_cons_succ]
            refine wpAnyH_take (i := 6) (oi := { dst := some 62, op := Op.binOp BinOp.add 3 (Operand.tmp 60) (Operand.tmp 61) 3, type := 3, pos := "ref.go:68", after := #[{ on := 4, ground := Ground.data }, { on := 5, ground := Ground.data }], guard := none }) (v := ?tk6) rfl (by kernel_rfl) (by kernel_rfl) (by kernel_rfl) (fun _ _ _ h => h) (Or.inl ⟨by rfl, ?tw6⟩) hHeld0 ?_
            case tw6 => (intro W hW; clear hW; first | (go_simp; done) | (go_simp; with_reducible rfl))
            try simp only [Act.put, List.setIfInBounds_toArray, List.set_cons_zero, List.set_cons_succ]
            refine wpAnyH_take (i := 7) (oi := { dst := some 63, op := Op.indexAddr 22 (Operand.tmp 57) (Operand.tmp 62), type := 0, pos := "ref.go:68", after := #[{ on := 1, ground := Ground.data }, { on := 6, ground := Ground.data }], guard := none }) (v := ?tk7) rfl (by kernel_rfl) (by kernel_rfl) (by kernel_rfl) (fun _ _ _ h => h) (Or.inl ⟨by rfl, ?tw7⟩) hHeld0 ?_
            case tw7 => (intro W hW; clear hW; first | (go_simp; done) | (go_simp; with_reducible rfl))
            try simp only [Act.put, List.setIfInBounds_toArray, List.set_cons_zero, List.set_cons_succ]
            refine wpAnyH_take (i := 9) (oi := { dst := some 65, op := Op.move (Operand.tmp 6), type := 22, pos := "ref.go:68", after := #[], guard := none }) (v := ?tk8) rfl (by kernel_rfl) (by kernel_rfl) (by kernel_rfl) (fun _ _ _ h => h) (Or.inl ⟨by rfl, ?tw8⟩) hHeld0 ?_
            case tw8 => (intro W hW; clear hW; first | (go_simp; done) | (go_simp; with_reducible rfl))
            try simp only [Act.put, List.setIfInBounds_toArray, List.set_cons_zero, List.set_cons_succ]
            refine wpAnyH_take (i := 10) (oi := { dst := some 66, op := Op.move (Operand.tmp 7), type := 3, pos := "ref.go:68", after := #[], guard := none }) (v := ?tk9) rfl (by kernel_rfl) (by kernel_rfl) (by kernel_rfl) (fun _ _ _ h => h) (Or.inl ⟨by rfl, ?tw9⟩) hHeld0 ?_
            case tw9 => (intro W hW; clear hW; first | (go_simp; done) | (go_simp; with_reducible rfl))
            try simp only [Act.put, List.setIfInBounds_toArray, List.set_cons_zero, List.set_cons_succ]
            refine wpAnyH_take (i := 11) (oi := { dst := some 67, op := Op.indexAddr 22 (Operand.tmp 65) (Operand.tmp 66), type := 0, pos := "ref.go:68", after := #[{ on := 9, ground := Ground.data }, { on := 10, ground := Ground.data }], guard := none }) (v := ?tk10) rfl (by kernel_rfl) (by kernel_rfl) (by kernel_rfl) (fun _ _ _ h => h) (Or.inl ⟨by rfl, ?tw10⟩) hHeld0 ?_
            case tw10 => (intro W hW; clear hW; first | (go_simp; done) | (go_simp; with_reducible rfl))
            try simp only [Act.put, List.setIfInBounds_toArray, List.set_cons_zero, List.set_cons_succ]
            refine wpAnyH_ready (rs := [8, 12]) (by kernel_rfl) (by simp) ?_
            refine AllReadyH.cons (o := { dst := some 64, op := Op.load 5 (Operand.tmp 63), type := 5, pos := "ref.go:68", after := #[{ on := 7, ground := Ground.data }], guard := none }) rfl (fun K' hK => ?_) ?_
            · have hrow := Ha_0.out
              go_simp
              clear hrow
              obtain ⟨x1, hxx⟩ : ∃ X, X = x0 := ⟨_, rfl⟩
              subst hxx
              have Ha_1 := Ha_0
              have Hb_1 := Hb_0
              have HO_1 := HO_0
              have HB_1 := HB_0
              have HC_1 := HC_0
              have HS_1 := HS_0
              have HZ_1 := HZ_0
              refine hK.out _ _ trivial (fun hHeld1 => ?_)
              clear hK K'
              try simp only [Act.put, List.setIfInBounds_toArray, List.set_cons_zero, List.set_cons_succ]
              refine wpAnyH_ready (rs := [12]) (by kernel_rfl) (by simp) ?_
              refine AllReadyH.cons (o := { dst := some 68, op := Op.load 5 (Operand.tmp 67), type := 5, pos := "ref.go:68", after := #[{ on := 11, ground := Ground.data }], guard := none }) rfl (fun K' hK => ?_) AllReadyH.nil
              have hrow := Hb_1.out
              go_simp
              clear hrow
              obtain ⟨x2, hxx⟩ : ∃ X, X = x1 := ⟨_, rfl⟩
              subst hxx
              have Ha_2 := Ha_1
              have Hb_2 := Hb_1
              have HO_2 := HO_1
              have HB_2 := HB_1
              have HC_2 := HC_1
              have HS_2 := HS_1
              have HZ_2 := HZ_1
              refine hK.out _ _ trivial (fun hHeld2 => ?_)
              clear hK K'
              try simp only [Act.put, List.setIfInBounds_toArray, List.set_cons_zero, List.set_cons_succ]
              refine wpAnyH_take (i := 13) (oi := { dst := some 69, op := Op.binOp BinOp.xor 5 (Operand.tmp 64) (Operand.tmp 68) 5, type := 5, pos := "ref.go:68", after := #[{ on := 8, ground := Ground.data }, { on := 12, ground := Ground.data }], guard := none }) (v := ?tk11) rfl (by kernel_rfl) (by kernel_rfl) (by kernel_rfl) (fun _ _ _ h => h) (Or.inl ⟨by rfl, ?tw11⟩) hHeld2 ?_
              case tw11 => (intro W hW; clear hW; first | (go_simp; done) | (go_simp; with_reducible rfl))
              try simp only [Act.put, List.setIfInBounds_toArray, List.set_cons_zero, List.set_cons_succ]
              refine wpAnyH_ready (rs := [14]) (by kernel_rfl) (by simp) ?_
              refine AllReadyH.cons (o := { dst := some 70, op := Op.buildSlice 22 1 #[(0, Operand.tmp 69)], type := 22, pos := "ref.go:68", after := #[{ on := 13, ground := Ground.data }], guard := none }) rfl (fun K' hK => ?_) AllReadyH.nil
              go_simp
              obtain ⟨x3, hyy⟩ : ∃ X, x2.alloc (.cells #[.int .u8 (z : Nat)] 5) = X := ⟨_, rfl⟩
              have hb : Below x2.heap.size x2 x3 := by rw [← hyy]; exact (Below.refl _ _).alloc (Nat.le_refl _) _
              have HT_3 := Lib.hid (show BytesAt [z] (.slice (some ⟨x2.heap.size, 0, none⟩) 1 1) x3 by rw [← hyy]; exact HLIT.out _)
              have HO_3 := Lib.hid (show x3.ownsRow w.heap.size 5 1 (.slice (some ⟨g, 0, none⟩) Lv cap) Lv (cl (F.take (4 * n + m))) by rw [← hyy]; exact HO_2.out.alloc _)
              have HB_3 := Lib.hid (show Below w.heap.size w x3 from HB_2.out.trans (hb.mono HZ_2.out))
              have HC_3 := Lib.hid (show ∀ j, j < 4 → x3.cell? ⟨bl2, j, none⟩ = some (.int .u8 ((LaL kw n).getD j 0 : Nat)) from fun j hj => (hb.cell (p := ⟨bl2, j, none⟩) HS_2.out).trans (HC_2.out j hj))
              have HS_3 := Lib.hid (show bl2 < x3.heap.size from Nat.lt_of_lt_of_le HS_2.out hb.size)
              have HZ_3 := Lib.hid (show w.heap.size ≤ x3.heap.size from Nat.le_trans HZ_2.out hb.size)
              rw [hyy]
              clear hyy hb
              refine hK.out _ _ trivial (fun hHeld3 => ?_)
              clear hK K'
              try simp only [Act.put, List.setIfInBounds_toArray, List.set_cons_zero, List.set_cons_succ]
              refine wpAnyH_ready (rs := [15]) (by kernel_rfl) (by simp) ?_
              refine AllReadyH.cons (o := { dst := some 71, op := Op.call { callee := Callee.builtin Builtin.append, args := #[Operand.tmp 56, Operand.tmp 70], argTypes := #[22, 22] }, type := 22, pos := "ref.go:68", after := #[{ on := 0, ground := Ground.data }, { on := 14, ground := Ground.data }], guard := none }) rfl (fun K' hK => ?_) AllReadyH.nil
              refine wp_appL _ _ rfl w.heap.size (l := F.take (4 * n + m)) rfl rfl (by rw [HLV.out]; exact HO_3.out) HT_3.out (by simp) (by rw [HLV.out, HLN.out]; simp; omega) HZ_3.out ?_
              intro v' x4 hown' hgrow' hat'
              have HB_4 := Lib.hid (below_owned HB_3.out HO_3.out hgrow' HZ_3.out)
              have HO_4 := Lib.hid hown'
              rw [HTK.out] at HO_4
              have HN_4 := Lib.hid (show v'.ownBlock ≠ some bl2 by
                rcases hat' with h | h
                · rw [h]; exact HN.out
                · rw [h]; intro e; injection e with e; have := HS_3.out; omega)
              have HS_4 := Lib.hid (show bl2 < x4.heap.size from Nat.lt_of_lt_of_le HS_3.out hgrow'.size)
              have HC_4 := Lib.hid (show ∀ j, j < 4 → x4.cell? ⟨bl2, j, none⟩ = some (.int .u8 ((LaL kw n).getD j 0 : Nat)) from fun j hj => hgrow'.cell (HC_3.out j hj) (fun e => HN.out e.symm))
              clear hown' hgrow' hat'
              refine hK.out _ _ trivial (fun hHeld4 => ?_)
              clear hK K'
              try simp only [Act.put, List.setIfInBounds_toArray, List.set_cons_zero, List.set_cons_succ]
              refine wpAnyH_take (i := 16) (oi := { dst := some 3, op := Op.assign (Operand.tmp 71), type := 22, pos := "ref.go:68", after := #[{ on := 15, ground := Ground.data }, { on := 15, ground := Ground.chain }, { on := 0, ground := Ground.phase }, { on := 1, ground := Ground.phase }, { on := 2, ground := Ground.phase }, { on := 3, ground := Ground.phase }, { on := 4, ground := Ground.phase }, { on := 5, ground := Ground.phase }, { on := 6, ground := Ground.phase }, { on := 7, ground := Ground.phase }, { on := 8, ground := Ground.phase }, { on := 9, ground := Ground.phase }, { on := 10, ground := Ground.phase }, { on := 11, ground := Ground.phase }, { on := 12, ground := Ground.phase }, { on := 13, ground := Ground.phase }, { on := 14, ground := Ground.phase }, { on := 15, ground := Ground.phase }], guard := none }) (v := ?tk12) rfl (by kernel_rfl) (by kernel_rfl) (by kernel_rfl) (fun _ _ _ h => h) (Or.inl ⟨by rfl, ?tw12⟩) hHeld4 ?_
              case tw12 => (intro W hW; clear hW; first | (go_simp; done) | (go_simp; with_reducible rfl))
              try simp only [Act.put, List.setIfInBounds_toArray, List.set_cons_zero, List.set_cons_succ]
              refine wpAnyH_done (by kernel_rfl) ?_ _
              refine NoPanic.normal ?_
              go_wp2_with fail
              exact ⟨⟨m + 1, by omega, by go_num, HO_4.out, HB_4.out, HN_4.out, HS_4.out, HC_4.out⟩, by simp [intOf]; omega⟩
            refine AllReadyH.cons (o := { dst := some 68, op := Op.load 5 (Operand.tmp 67), type := 5, pos := "ref.go:68", after := #[{ on := 11, ground := Ground.data }], guard := none }) rfl (fun K' hK => ?_) AllReadyH.nil
            have hrow := Hb_0.out
            go_simp
            clear hrow
            obtain ⟨x1, hxx⟩ : ∃ X, X = x0 := ⟨_, rfl⟩
            subst hxx
            have Ha_1 := Ha_0
            have Hb_1 := Hb_0
            have HO_1 := HO_0
            have HB_1 := HB_0
            have HC_1 := HC_0
            have HS_1 := HS_0
            have HZ_1 := HZ_0
            refine hK.out _ _ trivial (fun hHeld1 => ?_)
            clear hK K'
            try simp only [Act.put, List.setIfInBounds_toArray, List.set_cons_zero, List.set_cons_succ]
            refine wpAnyH_ready (rs := [8]) (by kernel_rfl) (by simp) ?_
            refine AllReadyH.cons (o := { dst := some 64, op := Op.load 5 (Operand.tmp 63), type := 5, pos := "ref.go:68", after := #[{ on := 7, ground := Ground.data }], guard := none }) rfl (fun K' hK => ?_) AllReadyH.nil
            have hrow := Ha_1.out
            go_simp
            clear hrow
            obtain ⟨x2, hxx⟩ : ∃ X, X = x1 := ⟨_, rfl⟩
            subst hxx
            have Ha_2 := Ha_1
            have Hb_2 := Hb_1
            have HO_2 := HO_1
            have HB_2 := HB_1
            have HC_2 := HC_1
            have HS_2 := HS_1
            have HZ_2 := HZ_1
            refine hK.out _ _ trivial (fun hHeld2 => ?_)
            clear hK K'
            try simp only [Act.put, List.setIfInBounds_toArray, List.set_cons_zero, List.set_cons_succ]
            refine wpAnyH_take (i := 13) (oi := { dst := some 69, op := Op.binOp BinOp.xor 5 (Operand.tmp 64) (Operand.tmp 68) 5, type := 5, pos := "ref.go:68", after := #[{ on := 8, ground := Ground.data }, { on := 12, ground := Ground.data }], guard := none }) (v := ?tk13) rfl (by kernel_rfl) (by kernel_rfl) (by kernel_rfl) (fun _ _ _ h => h) (Or.inl ⟨by rfl, ?tw13⟩) hHeld2 ?_
            case tw13 => (intro W hW; clear hW; first | (go_simp; done) | (go_simp; with_reducible rfl))
            try simp only [Act.put, List.setIfInBounds_toArray, List.set_cons_zero, List.set_cons_succ]
            refine wpAnyH_ready (rs := [14]) (by kernel_rfl) (by simp) ?_
            refine AllReadyH.cons (o := { dst := some 70, op := Op.buildSlice 22 1 #[(0, Operand.tmp 69)], type := 22, pos := "ref.go:68", after := #[{ on := 13, ground := Ground.data }], guard := none }) rfl (fun K' hK => ?_) AllReadyH.nil
            go_simp
            obtain ⟨x3, hyy⟩ : ∃ X, x2.alloc (.cells #[.int .u8 (z : Nat)] 5) = X := ⟨_, rfl⟩
            have hb : Below x2.heap.size x2 x3 := by rw [← hyy]; exact (Below.refl _ _).alloc (Nat.le_refl _) _
            have HT_3 := Lib.hid (show BytesAt [z] (.slice (some ⟨x2.heap.size, 0, none⟩) 1 1) x3 by rw [← hyy]; exact HLIT.out _)
            have HO_3 := Lib.hid (show x3.ownsRow w.heap.size 5 1 (.slice (some ⟨g, 0, none⟩) Lv cap) Lv (cl (F.take (4 * n + m))) by rw [← hyy]; exact HO_2.out.alloc _)
            have HB_3 := Lib.hid (show Below w.heap.size w x3 from HB_2.out.trans (hb.mono HZ_2.out))
            have HC_3 := Lib.hid (show ∀ j, j < 4 → x3.cell? ⟨bl2, j, none⟩ = some (.int .u8 ((LaL kw n).getD j 0 : Nat)) from fun j hj => (hb.cell (p := ⟨bl2, j, none⟩) HS_2.out).trans (HC_2.out j hj))
            have HS_3 := Lib.hid (show bl2 < x3.heap.size from Nat.lt_of_lt_of_le HS_2.out hb.size)
            have HZ_3 := Lib.hid (show w.heap.size ≤ x3.heap.size from Nat.le_trans HZ_2.out hb.size)
            rw [hyy]
            clear hyy hb
            refine hK.out _ _ trivial (fun hHeld3 => ?_)
            clear hK K'
            try simp only [Act.put, List.setIfInBounds_toArray, List.set_cons_zero, List.set_cons_succ]
            refine wpAnyH_ready (rs := [15]) (by kernel_rfl) (by simp) ?_
            refine AllReadyH.cons (o := { dst := some 71, op := Op.call { callee := Callee.builtin Builtin.append, args := #[Operand.tmp 56, Operand.tmp 70], argTypes := #[22, 22] }, type := 22, pos := "ref.go:68", after := #[{ on := 0, ground := Ground.data }, { on := 14, ground := Ground.data }], guard := none }) rfl (fun K' hK => ?_) AllReadyH.nil
            refine wp_appL _ _ rfl w.heap.size (l := F.take (4 * n + m)) rfl rfl (by rw [HLV.out]; exact HO_3.out) HT_3.out (by simp) (by rw [HLV.out, HLN.out]; simp; omega) HZ_3.out ?_
            intro v' x4 hown' hgrow' hat'
            have HB_4 := Lib.hid (below_owned HB_3.out HO_3.out hgrow' HZ_3.out)
            have HO_4 := Lib.hid hown'
            rw [HTK.out] at HO_4
            have HN_4 := Lib.hid (show v'.ownBlock ≠ some bl2 by
              rcases hat' with h | h
              · rw [h]; exact HN.out
              · rw [h]; intro e; injection e with e; have := HS_3.out; omega)
            have HS_4 := Lib.hid (show bl2 < x4.heap.size from Nat.lt_of_lt_of_le HS_3.out hgrow'.size)
            have HC_4 := Lib.hid (show ∀ j, j < 4 → x4.cell? ⟨bl2, j, none⟩ = some (.int .u8 ((LaL kw n).getD j 0 : Nat)) from fun j hj => hgrow'.cell (HC_3.out j hj) (fun e => HN.out e.symm))
            clear hown' hgrow' hat'
            refine hK.out _ _ trivial (fun hHeld4 => ?_)
            clear hK K'
            try simp only [Act.put, List.setIfInBounds_toArray, List.set_cons_zero, List.set_cons_succ]
            refine wpAnyH_take (i := 16) (oi := { dst := some 3, op := Op.assign (Operand.tmp 71), type := 22, pos := "ref.go:68", after := #[{ on := 15, ground := Ground.data }, { on := 15, ground := Ground.chain }, { on := 0, ground := Ground.phase }, { on := 1, ground := Ground.phase }, { on := 2, ground := Ground.phase }, { on := 3, ground := Ground.phase }, { on := 4, ground := Ground.phase }, { on := 5, ground := Ground.phase }, { on := 6, ground := Ground.phase }, { on := 7, ground := Ground.phase }, { on := 8, ground := Ground.phase }, { on := 9, ground := Ground.phase }, { on := 10, ground := Ground.phase }, { on := 11, ground := Ground.phase }, { on := 12, ground := Ground.phase }, { on := 13, ground := Ground.phase }, { on := 14, ground := Ground.phase }, { on := 15, ground := Ground.phase }], guard := none }) (v := ?tk14) rfl (by kernel_rfl) (by kernel_rfl) (by kernel_rfl) (fun _ _ _ h => h) (Or.inl ⟨by rfl, ?tw14⟩) hHeld4 ?_
            case tw14 => (intro W hW; clear hW; first | (go_simp; done) | (go_simp; with_reducible rfl))
            try simp only [Act.put, List.setIfInBounds_toArray, List.set_cons_zero, List.set_cons_succ]
            refine wpAnyH_done (by kernel_rfl) ?_ _
            refine NoPanic.normal ?_
            go_wp2_with fail
            exact ⟨⟨m + 1, by omega, by go_num, HO_4.out, HB_4.out, HN_4.out, HS_4.out, HC_4.out⟩, by simp [intOf]; omega⟩
          · obtain rfl : m = 4 := by omega
            have HO := Lib.hid hown
            have HB := Lib.hid hbel
            clear hown hbel hnb hbl hcl
            go_wp2_with fail
            exact ⟨⟨n + 1, by omega, by omega, by go_num, rfl, by rw [show 4 * (n + 1) = 4 * n + 4 by omega]; exact HO.out, HB.out⟩, by simp [intOf]; omega⟩
      · have m1 : ¬ ((n : Nat) : Int) % 4 = 0 := by omega
        have m2 : ¬ ((n : Nat) : Int).tmod 4 = 0 := by rw [Int.tmod_eq_emod_of_nonneg (by omega)]; exact m1
        have m3 : (((n : Nat) : Int) % 4 == 0) = false := by simp only [beq_eq_false_iff_ne, ne_eq]; exact m1
        have m4 : (((n : Nat) : Int).tmod 4 == 0) = false := by simp only [beq_eq_false_iff_ne, ne_eq]; exact m2
        clear hown hbel hBy hcut hPl hPe hP256 hPn hgl hgb hF4
        go_wp2_with (at_builtin; refine wpList_app rfl _ _ rfl wr.heap.size rfl rfl hown2 (HCUT.out.kept hbel2) (fun _ _ e => by cases e) (by rw [HPL.out]; simp) (by simp) ?_; intro v1 w1 hown1 hgrow1)
        have hb1 := below_owned (hbel2) hown2 hgrow1 (by simp)
        have HBW := Lib.hid hb1
        obtain ⟨bl, cp, rfl, hblb, hbll⟩ := ownsRow_form' hown1 (by rw [List.nil_append, HPL.out]; omega)
        rw [List.nil_append, HPL.out] at hown1
        try rw [List.nil_append]
        rw [HPL.out]
        have HCL := Lib.hid (show ∀ j, j < 4 → w1.cell? ⟨bl, j, none⟩ = some (.int .u8 (Pn.getD j 0 : Nat)) from fun j hj => by
          rw [hown1.cellAt j (by omega), cl_get Pn j (by rw [HPL.out]; exact hj)])
        have HOW := Lib.hid (show w1.ownsRow w.heap.size 5 1 (.slice (some ⟨g, 0, none⟩) (4 * n) cap) (4 * n) (cl (F.take (4 * n))) from (HO.out.alloc (.cells #[] 5)).kept hgrow1 (.inr (show some g ≠ some wr.heap.size from fun e => by injection e with e; have := HGL.out; omega)))
        have HBLB := Lib.hid hblb
        have HBLL := Lib.hid hbll
        have HBX := Lib.hid (HB.out.trans (hb1.mono hwz))
        have HGW := Lib.hid (HGV.out.kept hb1)
        clear hown1 hgrow1 hown2 hbel2 hb1 HCUT HO HB HGV hsl hblb hbll q1 q2
        have HLAE := Lib.hid (show LaL kw n = Pn by unfold LaL; rw [if_neg h0, HFE.out]; exact HPN.out)
        have HLB := Lib.hid (show ∀ x ∈ LaL kw n, x < 256 by rw [HLAE.out]; exact HP2.out)
        rw [← HLAE.out] at HCL
        have HB1 := HBX
        have HO1 := Lib.hid (show w1.ownsRow w.heap.size 5 1 (.slice (some ⟨g, 0, none⟩) (4 * n) cap) (F.take (4 * n + 0)).length (cl (F.take (4 * n + 0))) by rw [Nat.add_zero, HF4.out]; exact HOW.out)
        have HBL := HBLL
        have HNB := Lib.hid (show (Value.slice (some ⟨g, 0, none⟩) (4 * n) cap).ownBlock ≠ some bl from (show some g ≠ some bl from fun e => by injection e with e; have := HGL.out; have := HBLB.out; omega))
        have HRCE := Lib.hid (show (Value.int .u8 (rc ((n - 1) / 4) : Nat)) = .int .u8 (rc ((n + 1 - 1) / 4) : Nat) by rw [show (n + 1 - 1) / 4 = (n - 1) / 4 by omega])
        clear HOW HBX HBLB HBLL HPE HGW
        have hF4 : (F.take (4 * n)).length = 4 * n := by rw [List.length_take, HL.out]; omega
        have hLL := Lib.hid (fun (j : Nat) (_ : j < 4) => byte_lt HLB.out j)
        go_wp2_with fail
        go_loopw [3, 7] (fun v k wq => WiR F (LaL kw n) n bl w v k wq) (fun _ k _ => 4 - (intOf k).toNat)
        case atStart => exact ⟨0, by omega, rfl, HO1.out, HB1.out, HNB.out, HBL.out, HCL.out⟩
        case round => as_aux_lemma =>
          clear HO1 HB1 HNB HBL HCL
          obtain ⟨m, hm, rfl, hown, hbel, hnb, hbl, hcl⟩ := hrel
          by_cases hlt2 : m < 4
          · have hl2 : (F.take (4 * n + m)).length = 4 * n + m := by rw [List.length_take, HL.out]; omega
            obtain ⟨g, cap, rfl, hgb, hgl⟩ := ownsRow_form' hown (by omega)
            have hBy := own_bytes (fun x hx => HF2.out x (List.mem_of_mem_take hx)) rfl hown
            have hco : wr.drew.cell? ⟨g, 4 * n - 16 + m, none⟩ = some (.int .u8 (F.getD (4 * n - 16 + m) 0 : Nat)) := by
              obtain ⟨b, off, c, e, _, hj⟩ := hBy.cells (by omega)
              cases e
              have h := hj (4 * n - 16 + m) (by omega)
              rw [Nat.zero_add] at h
              rw [show (F.take (4 * n + m)).getD (4 * n - 16 + m) 0 = F.getD (4 * n - 16 + m) 0 by rw [List.getD, List.getElem?_take, if_pos (by omega)]; rfl] at h
              exact h
            have hcm : wr.drew.cell? ⟨bl, m, none⟩ = some (.int .u8 ((LaL kw n).getD m 0 : Nat)) := hcl m hlt2
            have y1 := byte_lt HF2.out (4 * n - 16 + m)
            have y2 := hLL.out m hlt2
            have hst := FL_step HKL.out HKW.out (i := n) h4n hlt hlt2
            rw [HFE.out] at hst
            have HTK := Lib.hid (take_succ_getD (l := F) (n := 4 * n + m) (by rw [HL.out]; omega))
            rw [hst] at HTK
            have HY := Lib.hid (xor8 y1 y2)
            have hxy := bits_xor8 _ _ y1 y2
            obtain ⟨x, hx⟩ : ∃ z, F.getD (4 * n - 16 + m) 0 = z := ⟨_, rfl⟩
            obtain ⟨y, hy⟩ : ∃ z, (LaL kw n).getD m 0 = z := ⟨_, rfl⟩
            rw [hx] at hco HTK hxy HY
            rw [hy] at hcm HTK hxy HY
            obtain ⟨z, hz⟩ : ∃ q, x ^^^ y = q := ⟨_, rfl⟩
            rw [hz] at HTK hxy HY
            have q0 : ((m : Nat) : Int) < 4 := by omega
            have q1 : IntKind.i64.wrap (4 * ((n : Nat) : Int)) = 4 * ((n : Nat) : Int) := IntWalk.i64_in _ (by omega)
            have q2 : IntKind.i64.wrap (4 * ((n : Nat) : Int) - 16) = 4 * ((n : Nat) : Int) - 16 := IntWalk.i64_in _ (by omega)
            have q3 : IntKind.i64.wrap (4 * ((n : Nat) : Int) - 16 + ((m : Nat) : Int)) = 4 * ((n : Nat) : Int) - 16 + ((m : Nat) : Int) := IntWalk.i64_in _ (by omega)
            have q4 : (0 : Int) ≤ 4 * ((n : Nat) : Int) - 16 + ((m : Nat) : Int) := by omega
            have q6 : (4 * ((n : Nat) : Int) - 16 + ((m : Nat) : Int)).toNat = 4 * n - 16 + m := by omega
            have HO := Lib.hid hown
            have HLN := Lib.hid hl2
            obtain ⟨Lv, hLv⟩ : ∃ q, (F.take (4 * n + m)).length = q := ⟨_, rfl⟩
            rw [hLv] at HO HLN
            have q5 : 4 * ((n : Nat) : Int) - 16 + ((m : Nat) : Int) < ((Lv : Nat) : Int) := by have := HLN.out; omega
            have HLV := Lib.hid hLv
            have HB := Lib.hid hbel
            have HN := Lib.hid hnb
            have HBL := Lib.hid hbl
            have HCL := Lib.hid hcl
            have HLIT := Lib.hid (fun (W : World) => show BytesAt [z] (.slice (some ⟨W.heap.size, 0, none⟩) 1 1) (W.alloc (.cells #[.int .u8 (z : Nat)] 5)) from
              bytes_row (fun y hy => by rw [List.mem_singleton.1 hy]; exact HY.out) (by rw [rowN_alloc, if_pos rfl, arr_lit]; rfl) 1 rfl)
            have hwz := hbel.size
            rw [HLV.out]
            have Ha_0 := Lib.hid hco
            have Hb_0 := Lib.hid hcm
            have HO_0 := Lib.hid (show wr.drew.ownsRow w.heap.size 5 1 (.slice (some ⟨g, 0, none⟩) Lv cap) Lv (cl (F.take (4 * n + m))) from HO.out.drew)
            have HB_0 := Lib.hid (show Below w.heap.size w wr.drew from HB.out.drew)
            have HC_0 := Lib.hid (show ∀ j, j < 4 → wr.drew.cell? ⟨bl, j, none⟩ = some (.int .u8 ((LaL kw n).getD j 0 : Nat)) from HCL.out)
            have HS_0 := Lib.hid (show bl < wr.drew.heap.size from HBL.out)
            have HZ_0 := Lib.hid (show w.heap.size ≤ wr.drew.heap.size from hwz)
            have HL_0 := Lib.hid (show Below wr.heap.size wr wr.drew from (Below.refl _ _).drew)
            clear hown hbel hnb hbl hcl hBy hx hy hz hst hl2 hLv y1 y2 hgb hgl hco hcm HO HB HCL HBL hwz
            go_upto_region 13 with fail
            refine wp_region_noPanic ?_
            refine wp_region_held_drew (S := fun W => True) (by kernel_rfl) trivial (fun hHeld0 => ?_)
            obtain ⟨x0, hx0⟩ : ∃ X, wr.drew = X := ⟨_, rfl⟩
            rw [hx0] at Ha_0 Hb_0 HO_0 HB_0 HC_0 HS_0 HZ_0 HL_0 ⊢
            clear hx0
            refine wpAnyH_take (i := 0) (oi := { dst := some 56, op := Op.move (Operand.tmp 3), type := 22, pos := "ref.go:68", after := #[], guard := none }) (v := ?tk15) rfl (by kernel_rfl) (by kernel_rfl) (by kernel_rfl) (fun _ _ _ h => h) (Or.inl ⟨by rfl, ?tw15⟩) hHeld0 ?_
            case tw15 => (intro W hW; clear hW; first | (go_simp; done) | (go_simp; with_reducible rfl))
            try simp only [Act.put, List.setIfInBounds_toArray, List.set_cons_zero, List.set_cons_succ]
            refine wpAnyH_take (i := 1) (oi := { dst := some 57, op := Op.move (Operand.tmp 3), type := 22, pos := "ref.go:68", after := #[], guard := none }) (v := ?tk16) rfl (by kernel_rfl) (by kernel_rfl) (by kernel_rfl) (fun _ _ _ h => h) (Or.inl ⟨by rfl, ?tw16⟩) hHeld0 ?_
            case tw16 => (intro W hW; clear hW; first | (go_simp; done) | (go_simp; with_reducible rfl))
            try simp only [Act.put, List.setIfInBounds_toArray, List.set_cons_zero, List.set_cons_succ]
            refine wpAnyH_take (i := 2) (oi := { dst := some 58, op := Op.move (Operand.tmp 5), type := 3, pos := "ref.go:68", after := #[], guard := none }) (v := ?tk17) rfl (by kernel_rfl) (by kernel_rfl) (by kernel_rfl) (fun _ _ _ h => h) (Or.inl ⟨by rfl, ?tw17⟩) hHeld0 ?_
            case tw17 => (intro W hW; clear hW; first | (go_simp; done) | (go_simp; with_reducible rfl))
            try simp only [Act.put, List.setIfInBounds_toArray, List.set_cons_zero, List.set_cons_succ]
            refine wpAnyH_take (i := 3) (oi := { dst := some 59, op := Op.binOp BinOp.mul 3 (Operand.const (Value.int IntKind.i64 4)) (Operand.tmp 58) 3, type := 3, pos := "ref.go:68", after := #[{ on := 2, ground := Ground.data }], guard := none }) (v := ?tk18) rfl (by kernel_rfl) (by kernel_rfl) (by kernel_rfl) (fun _ _ _ h => h) (Or.inl ⟨by rfl, ?tw18⟩) hHeld0 ?_
            case tw18 => (intro W hW; clear hW; first | (go_simp; done) | (go_simp; with_reducible rfl))
            try simp only [Act.put, List.setIfInBounds_toArray, List.set_cons_zero, List.set_cons_succ]
            refine wpAnyH_take (i := 4) (oi := { dst := some 60, op := Op.binOp BinOp.sub 3 (Operand.tmp 59) (Operand.const (Value.int IntKind.i64 16)) 3, type := 3, pos := "ref.go:68", after := #[{ on := 3, ground := Ground.data }], guard := none }) (v := ?tk19) rfl (by kernel_rfl) (by kernel_rfl) (by kernel_rfl) (fun _ _ _ h => h) (Or.inl ⟨by rfl, ?tw19⟩) hHeld0 ?_
            case tw19 => (intro W hW; clear hW; first | (go_simp; done) | (go_simp; with_reducible rfl))
            try simp only [Act.put, List.setIfInBounds_toArray, List.set_cons_zero, List.set_cons_succ]
            refine wpAnyH_take (i := 5) (oi := { dst := some 61, op := Op.move (Operand.tmp 7), type := 3, pos := "ref.go:68", after := #[], guard := none }) (v := ?tk20) rfl (by kernel_rfl) (by kernel_rfl) (by kernel_rfl) (fun _ _ _ h => h) (Or.inl ⟨by rfl, ?tw20⟩) hHeld0 ?_
            case tw20 => (intro W hW; clear hW; first | (go_simp; done) | (go_simp; with_reducible rfl))
            try simp only [Act.put, List.setIfInBounds_toArray, List.set_cons_zero, List.set_cons_succ]
            refine wpAnyH_take (i := 6) (oi := { dst := some 62, op := Op.binOp BinOp.add 3 (Operand.tmp 60) (Operand.tmp 61) 3, type := 3, pos := "ref.go:68", after := #[{ on := 4, ground := Ground.data }, { on := 5, ground := Ground.data }], guard := none }) (v := ?tk21) rfl (by kernel_rfl) (by kernel_rfl) (by kernel_rfl) (fun _ _ _ h => h) (Or.inl ⟨by rfl, ?tw21⟩) hHeld0 ?_
            case tw21 => (intro W hW; clear hW; first | (go_simp; done) | (go_simp; with_reducible rfl))
            try simp only [Act.put, List.setIfInBounds_toArray, List.set_cons_zero, List.set_cons_succ]
            refine wpAnyH_take (i := 7) (oi := { dst := some 63, op := Op.indexAddr 22 (Operand.tmp 57) (Operand.tmp 62), type := 0, pos := "ref.go:68", after := #[{ on := 1, ground := Ground.data }, { on := 6, ground := Ground.data }], guard := none }) (v := ?tk22) rfl (by kernel_rfl) (by kernel_rfl) (by kernel_rfl) (fun _ _ _ h => h) (Or.inl ⟨by rfl, ?tw22⟩) hHeld0 ?_
            case tw22 => (intro W hW; clear hW; first | (go_simp; done) | (go_simp; with_reducible rfl))
            try simp only [Act.put, List.setIfInBounds_toArray, List.set_cons_zero, List.set_cons_succ]
            refine wpAnyH_take (i := 9) (oi := { dst := some 65, op := Op.move (Operand.tmp 6), type := 22, pos := "ref.go:68", after := #[], guard := none }) (v := ?tk23) rfl (by kernel_rfl) (by kernel_rfl) (by kernel_rfl) (fun _ _ _ h => h) (Or.inl ⟨by rfl, ?tw23⟩) hHeld0 ?_
            case tw23 => (intro W hW; clear hW; first | (go_simp; done) | (go_simp; with_reducible rfl))
            try simp only [Act.put, List.setIfInBounds_toArray, List.set_cons_zero, List.set_cons_succ]
            refine wpAnyH_take (i := 10) (oi := { dst := some 66, op := Op.move (Operand.tmp 7), type := 3, pos := "ref.go:68", after := #[], guard := none }) (v := ?tk24) rfl (by kernel_rfl) (by kernel_rfl) (by kernel_rfl) (fun _ _ _ h => h) (Or.inl ⟨by rfl, ?tw24⟩) hHeld0 ?_
            case tw24 => (intro W hW; clear hW; first | (go_simp; done) | (go_simp; with_reducible rfl))
            try simp only [Act.put, List.setIfInBounds_toArray, List.set_cons_zero, List.set_cons_succ]
            refine wpAnyH_take (i := 11) (oi := { dst := some 67, op := Op.indexAddr 22 (Operand.tmp 65) (Operand.tmp 66), type := 0, pos := "ref.go:68", after := #[{ on := 9, ground := Ground.data }, { on := 10, ground := Ground.data }], guard := none }) (v := ?tk25) rfl (by kernel_rfl) (by kernel_rfl) (by kernel_rfl) (fun _ _ _ h => h) (Or.inl ⟨by rfl, ?tw25⟩) hHeld0 ?_
            case tw25 => (intro W hW; clear hW; first | (go_simp; done) | (go_simp; with_reducible rfl))
            try simp only [Act.put, List.setIfInBounds_toArray, List.set_cons_zero, List.set_cons_succ]
            refine wpAnyH_ready (rs := [8, 12]) (by kernel_rfl) (by simp) ?_
            refine AllReadyH.cons (o := { dst := some 64, op := Op.load 5 (Operand.tmp 63), type := 5, pos := "ref.go:68", after := #[{ on := 7, ground := Ground.data }], guard := none }) rfl (fun K' hK => ?_) ?_
            · have hrow := Ha_0.out
              go_simp
              clear hrow
              obtain ⟨x1, hxx⟩ : ∃ X, X = x0 := ⟨_, rfl⟩
              subst hxx
              have Ha_1 := Ha_0
              have Hb_1 := Hb_0
              have HO_1 := HO_0
              have HB_1 := HB_0
              have HC_1 := HC_0
              have HS_1 := HS_0
              have HZ_1 := HZ_0
              refine hK.out _ _ trivial (fun hHeld1 => ?_)
              clear hK K'
              try simp only [Act.put, List.setIfInBounds_toArray, List.set_cons_zero, List.set_cons_succ]
              refine wpAnyH_ready (rs := [12]) (by kernel_rfl) (by simp) ?_
              refine AllReadyH.cons (o := { dst := some 68, op := Op.load 5 (Operand.tmp 67), type := 5, pos := "ref.go:68", after := #[{ on := 11, ground := Ground.data }], guard := none }) rfl (fun K' hK => ?_) AllReadyH.nil
              have hrow := Hb_1.out
              go_simp
              clear hrow
              obtain ⟨x2, hxx⟩ : ∃ X, X = x1 := ⟨_, rfl⟩
              subst hxx
              have Ha_2 := Ha_1
              have Hb_2 := Hb_1
              have HO_2 := HO_1
              have HB_2 := HB_1
              have HC_2 := HC_1
              have HS_2 := HS_1
              have HZ_2 := HZ_1
              refine hK.out _ _ trivial (fun hHeld2 => ?_)
              clear hK K'
              try simp only [Act.put, List.setIfInBounds_toArray, List.set_cons_zero, List.set_cons_succ]
              refine wpAnyH_take (i := 13) (oi := { dst := some 69, op := Op.binOp BinOp.xor 5 (Operand.tmp 64) (Operand.tmp 68) 5, type := 5, pos := "ref.go:68", after := #[{ on := 8, ground := Ground.data }, { on := 12, ground := Ground.data }], guard := none }) (v := ?tk26) rfl (by kernel_rfl) (by kernel_rfl) (by kernel_rfl) (fun _ _ _ h => h) (Or.inl ⟨by rfl, ?tw26⟩) hHeld2 ?_
              case tw26 => (intro W hW; clear hW; first | (go_simp; done) | (go_simp; with_reducible rfl))
              try simp only [Act.put, List.setIfInBounds_toArray, List.set_cons_zero, List.set_cons_succ]
              refine wpAnyH_ready (rs := [14]) (by kernel_rfl) (by simp) ?_
              refine AllReadyH.cons (o := { dst := some 70, op := Op.buildSlice 22 1 #[(0, Operand.tmp 69)], type := 22, pos := "ref.go:68", after := #[{ on := 13, ground := Ground.data }], guard := none }) rfl (fun K' hK => ?_) AllReadyH.nil
              go_simp
              obtain ⟨x3, hyy⟩ : ∃ X, x2.alloc (.cells #[.int .u8 (z : Nat)] 5) = X := ⟨_, rfl⟩
              have hb : Below x2.heap.size x2 x3 := by rw [← hyy]; exact (Below.refl _ _).alloc (Nat.le_refl _) _
              have HT_3 := Lib.hid (show BytesAt [z] (.slice (some ⟨x2.heap.size, 0, none⟩) 1 1) x3 by rw [← hyy]; exact HLIT.out _)
              have HO_3 := Lib.hid (show x3.ownsRow w.heap.size 5 1 (.slice (some ⟨g, 0, none⟩) Lv cap) Lv (cl (F.take (4 * n + m))) by rw [← hyy]; exact HO_2.out.alloc _)
              have HB_3 := Lib.hid (show Below w.heap.size w x3 from HB_2.out.trans (hb.mono HZ_2.out))
              have HC_3 := Lib.hid (show ∀ j, j < 4 → x3.cell? ⟨bl, j, none⟩ = some (.int .u8 ((LaL kw n).getD j 0 : Nat)) from fun j hj => (hb.cell (p := ⟨bl, j, none⟩) HS_2.out).trans (HC_2.out j hj))
              have HS_3 := Lib.hid (show bl < x3.heap.size from Nat.lt_of_lt_of_le HS_2.out hb.size)
              have HZ_3 := Lib.hid (show w.heap.size ≤ x3.heap.size from Nat.le_trans HZ_2.out hb.size)
              rw [hyy]
              clear hyy hb
              refine hK.out _ _ trivial (fun hHeld3 => ?_)
              clear hK K'
              try simp only [Act.put, List.setIfInBounds_toArray, List.set_cons_zero, List.set_cons_succ]
              refine wpAnyH_ready (rs := [15]) (by kernel_rfl) (by simp) ?_
              refine AllReadyH.cons (o := { dst := some 71, op := Op.call { callee := Callee.builtin Builtin.append, args := #[Operand.tmp 56, Operand.tmp 70], argTypes := #[22, 22] }, type := 22, pos := "ref.go:68", after := #[{ on := 0, ground := Ground.data }, { on := 14, ground := Ground.data }], guard := none }) rfl (fun K' hK => ?_) AllReadyH.nil
              refine wp_appL _ _ rfl w.heap.size (l := F.take (4 * n + m)) rfl rfl (by rw [HLV.out]; exact HO_3.out) HT_3.out (by simp) (by rw [HLV.out, HLN.out]; simp; omega) HZ_3.out ?_
              intro v' x4 hown' hgrow' hat'
              have HB_4 := Lib.hid (below_owned HB_3.out HO_3.out hgrow' HZ_3.out)
              have HO_4 := Lib.hid hown'
              rw [HTK.out] at HO_4
              have HN_4 := Lib.hid (show v'.ownBlock ≠ some bl by
                rcases hat' with h | h
                · rw [h]; exact HN.out
                · rw [h]; intro e; injection e with e; have := HS_3.out; omega)
              have HS_4 := Lib.hid (show bl < x4.heap.size from Nat.lt_of_lt_of_le HS_3.out hgrow'.size)
              have HC_4 := Lib.hid (show ∀ j, j < 4 → x4.cell? ⟨bl, j, none⟩ = some (.int .u8 ((LaL kw n).getD j 0 : Nat)) from fun j hj => hgrow'.cell (HC_3.out j hj) (fun e => HN.out e.symm))
              clear hown' hgrow' hat'
              refine hK.out _ _ trivial (fun hHeld4 => ?_)
              clear hK K'
              try simp only [Act.put, List.setIfInBounds_toArray, List.set_cons_zero, List.set_cons_succ]
              refine wpAnyH_take (i := 16) (oi := { dst := some 3, op := Op.assign (Operand.tmp 71), type := 22, pos := "ref.go:68", after := #[{ on := 15, ground := Ground.data }, { on := 15, ground := Ground.chain }, { on := 0, ground := Ground.phase }, { on := 1, ground := Ground.phase }, { on := 2, ground := Ground.phase }, { on := 3, ground := Ground.phase }, { on := 4, ground := Ground.phase }, { on := 5, ground := Ground.phase }, { on := 6, ground := Ground.phase }, { on := 7, ground := Ground.phase }, { on := 8, ground := Ground.phase }, { on := 9, ground := Ground.phase }, { on := 10, ground := Ground.phase }, { on := 11, ground := Ground.phase }, { on := 12, ground := Ground.phase }, { on := 13, ground := Ground.phase }, { on := 14, ground := Ground.phase }, { on := 15, ground := Ground.phase }], guard := none }) (v := ?tk27) rfl (by kernel_rfl) (by kernel_rfl) (by kernel_rfl) (fun _ _ _ h => h) (Or.inl ⟨by rfl, ?tw27⟩) hHeld4 ?_
              case tw27 => (intro W hW; clear hW; first | (go_simp; done) | (go_simp; with_reducible rfl))
              try simp only [Act.put, List.setIfInBounds_toArray, List.set_cons_zero, List.set_cons_succ]
              refine wpAnyH_done (by kernel_rfl) ?_ _
              refine NoPanic.normal ?_
              go_wp2_with fail
              exact ⟨⟨m + 1, by omega, by go_num, HO_4.out, HB_4.out, HN_4.out, HS_4.out, HC_4.out⟩, by simp [intOf]; omega⟩
            refine AllReadyH.cons (o := { dst := some 68, op := Op.load 5 (Operand.tmp 67), type := 5, pos := "ref.go:68", after := #[{ on := 11, ground := Ground.data }], guard := none }) rfl (fun K' hK => ?_) AllReadyH.nil
            have hrow := Hb_0.out
            go_simp
            clear hrow
            obtain ⟨x1, hxx⟩ : ∃ X, X = x0 := ⟨_, rfl⟩
            subst hxx
            have Ha_1 := Ha_0
            have Hb_1 := Hb_0
            have HO_1 := HO_0
            have HB_1 := HB_0
            have HC_1 := HC_0
            have HS_1 := HS_0
            have HZ_1 := HZ_0
            refine hK.out _ _ trivial (fun hHeld1 => ?_)
            clear hK K'
            try simp only [Act.put, List.setIfInBounds_toArray, List.set_cons_zero, List.set_cons_succ]
            refine wpAnyH_ready (rs := [8]) (by kernel_rfl) (by simp) ?_
            refine AllReadyH.cons (o := { dst := some 64, op := Op.load 5 (Operand.tmp 63), type := 5, pos := "ref.go:68", after := #[{ on := 7, ground := Ground.data }], guard := none }) rfl (fun K' hK => ?_) AllReadyH.nil
            have hrow := Ha_1.out
            go_simp
            clear hrow
            obtain ⟨x2, hxx⟩ : ∃ X, X = x1 := ⟨_, rfl⟩
            subst hxx
            have Ha_2 := Ha_1
            have Hb_2 := Hb_1
            have HO_2 := HO_1
            have HB_2 := HB_1
            have HC_2 := HC_1
            have HS_2 := HS_1
            have HZ_2 := HZ_1
            refine hK.out _ _ trivial (fun hHeld2 => ?_)
            clear hK K'
            try simp only [Act.put, List.setIfInBounds_toArray, List.set_cons_zero, List.set_cons_succ]
            refine wpAnyH_take (i := 13) (oi := { dst := some 69, op := Op.binOp BinOp.xor 5 (Operand.tmp 64) (Operand.tmp 68) 5, type := 5, pos := "ref.go:68", after := #[{ on := 8, ground := Ground.data }, { on := 12, ground := Ground.data }], guard := none }) (v := ?tk28) rfl (by kernel_rfl) (by kernel_rfl) (by kernel_rfl) (fun _ _ _ h => h) (Or.inl ⟨by rfl, ?tw28⟩) hHeld2 ?_
            case tw28 => (intro W hW; clear hW; first | (go_simp; done) | (go_simp; with_reducible rfl))
            try simp only [Act.put, List.setIfInBounds_toArray, List.set_cons_zero, List.set_cons_succ]
            refine wpAnyH_ready (rs := [14]) (by kernel_rfl) (by simp) ?_
            refine AllReadyH.cons (o := { dst := some 70, op := Op.buildSlice 22 1 #[(0, Operand.tmp 69)], type := 22, pos := "ref.go:68", after := #[{ on := 13, ground := Ground.data }], guard := none }) rfl (fun K' hK => ?_) AllReadyH.nil
            go_simp
            obtain ⟨x3, hyy⟩ : ∃ X, x2.alloc (.cells #[.int .u8 (z : Nat)] 5) = X := ⟨_, rfl⟩
            have hb : Below x2.heap.size x2 x3 := by rw [← hyy]; exact (Below.refl _ _).alloc (Nat.le_refl _) _
            have HT_3 := Lib.hid (show BytesAt [z] (.slice (some ⟨x2.heap.size, 0, none⟩) 1 1) x3 by rw [← hyy]; exact HLIT.out _)
            have HO_3 := Lib.hid (show x3.ownsRow w.heap.size 5 1 (.slice (some ⟨g, 0, none⟩) Lv cap) Lv (cl (F.take (4 * n + m))) by rw [← hyy]; exact HO_2.out.alloc _)
            have HB_3 := Lib.hid (show Below w.heap.size w x3 from HB_2.out.trans (hb.mono HZ_2.out))
            have HC_3 := Lib.hid (show ∀ j, j < 4 → x3.cell? ⟨bl, j, none⟩ = some (.int .u8 ((LaL kw n).getD j 0 : Nat)) from fun j hj => (hb.cell (p := ⟨bl, j, none⟩) HS_2.out).trans (HC_2.out j hj))
            have HS_3 := Lib.hid (show bl < x3.heap.size from Nat.lt_of_lt_of_le HS_2.out hb.size)
            have HZ_3 := Lib.hid (show w.heap.size ≤ x3.heap.size from Nat.le_trans HZ_2.out hb.size)
            rw [hyy]
            clear hyy hb
            refine hK.out _ _ trivial (fun hHeld3 => ?_)
            clear hK K'
            try simp only [Act.put, List.setIfInBounds_toArray, List.set_cons_zero, List.set_cons_succ]
            refine wpAnyH_ready (rs := [15]) (by kernel_rfl) (by simp) ?_
            refine AllReadyH.cons (o := { dst := some 71, op := Op.call { callee := Callee.builtin Builtin.append, args := #[Operand.tmp 56, Operand.tmp 70], argTypes := #[22, 22] }, type := 22, pos := "ref.go:68", after := #[{ on := 0, ground := Ground.data }, { on := 14, ground := Ground.data }], guard := none }) rfl (fun K' hK => ?_) AllReadyH.nil
            refine wp_appL _ _ rfl w.heap.size (l := F.take (4 * n + m)) rfl rfl (by rw [HLV.out]; exact HO_3.out) HT_3.out (by simp) (by rw [HLV.out, HLN.out]; simp; omega) HZ_3.out ?_
            intro v' x4 hown' hgrow' hat'
            have HB_4 := Lib.hid (below_owned HB_3.out HO_3.out hgrow' HZ_3.out)
            have HO_4 := Lib.hid hown'
            rw [HTK.out] at HO_4
            have HN_4 := Lib.hid (show v'.ownBlock ≠ some bl by
              rcases hat' with h | h
              · rw [h]; exact HN.out
              · rw [h]; intro e; injection e with e; have := HS_3.out; omega)
            have HS_4 := Lib.hid (show bl < x4.heap.size from Nat.lt_of_lt_of_le HS_3.out hgrow'.size)
            have HC_4 := Lib.hid (show ∀ j, j < 4 → x4.cell? ⟨bl, j, none⟩ = some (.int .u8 ((LaL kw n).getD j 0 : Nat)) from fun j hj => hgrow'.cell (HC_3.out j hj) (fun e => HN.out e.symm))
            clear hown' hgrow' hat'
            refine hK.out _ _ trivial (fun hHeld4 => ?_)
            clear hK K'
            try simp only [Act.put, List.setIfInBounds_toArray, List.set_cons_zero, List.set_cons_succ]
            refine wpAnyH_take (i := 16) (oi := { dst := some 3, op := Op.assign (Operand.tmp 71), type := 22, pos := "ref.go:68", after := #[{ on := 15, ground := Ground.data }, { on := 15, ground := Ground.chain }, { on := 0, ground := Ground.phase }, { on := 1, ground := Ground.phase }, { on := 2, ground := Ground.phase }, { on := 3, ground := Ground.phase }, { on := 4, ground := Ground.phase }, { on := 5, ground := Ground.phase }, { on := 6, ground := Ground.phase }, { on := 7, ground := Ground.phase }, { on := 8, ground := Ground.phase }, { on := 9, ground := Ground.phase }, { on := 10, ground := Ground.phase }, { on := 11, ground := Ground.phase }, { on := 12, ground := Ground.phase }, { on := 13, ground := Ground.phase }, { on := 14, ground := Ground.phase }, { on := 15, ground := Ground.phase }], guard := none }) (v := ?tk29) rfl (by kernel_rfl) (by kernel_rfl) (by kernel_rfl) (fun _ _ _ h => h) (Or.inl ⟨by rfl, ?tw29⟩) hHeld4 ?_
            case tw29 => (intro W hW; clear hW; first | (go_simp; done) | (go_simp; with_reducible rfl))
            try simp only [Act.put, List.setIfInBounds_toArray, List.set_cons_zero, List.set_cons_succ]
            refine wpAnyH_done (by kernel_rfl) ?_ _
            refine NoPanic.normal ?_
            go_wp2_with fail
            exact ⟨⟨m + 1, by omega, by go_num, HO_4.out, HB_4.out, HN_4.out, HS_4.out, HC_4.out⟩, by simp [intOf]; omega⟩
          · obtain rfl : m = 4 := by omega
            have HO := Lib.hid hown
            have HB := Lib.hid hbel
            clear hown hbel hnb hbl hcl
            go_wp2_with fail
            exact ⟨⟨n + 1, by omega, by omega, by go_num, HRCE.out, by rw [show 4 * (n + 1) = 4 * n + 4 by omega]; exact HO.out, HB.out⟩, by simp [intOf]; omega⟩
    · obtain rfl : n = 44 := by omega
      rw [List.take_of_length_le (by rw [HL.out]; omega)] at hown
      have h1 := owns_both HF2.out hown
      have HN := Lib.hid (owns_nil0 hown)
      have H1 := Lib.hid h1
      have HB := Lib.hid hbel
      clear h1 hown hbel
      go_wp2_with fail
      go_ret
      exact ⟨_, rfl, H1.out.1, HN.out, H1.out.2, HB.out⟩
end Go.Proofs.YtjcdbjapadgdfaaDoor
