/- Dividing, by the reference. -/
import Derived.Test.YtlmfiggmjpjpiaaQ5
import Derived.Test.YtlmfiggmjpjpiaaZR
import Derived.Test.YtlmfiggmjpjpiaaZMath
import Derived.Laws.AppendOwnNone
import Derived.Deep.RegionHeld3
namespace Go.Proofs.Ytlmfiggmjpjpiaa
open Go.RowKit

theorem digit_I (v n : Nat) (s : Value) (w : World) (h : DigN v n s w) (i : Int) (hi : i ≤ 9223372036854775807) : Calls Try.prog 64 #[s, .int .i64 i] w fun e w' => e = .returned (.int .i64 (digI v i : Nat)) ∧ w' = w := by
  by_cases h0 : i < 0
  · have := digit_neg s i h0 w
    rw [digI_neg h0]
    exact this
  · have := digit_at v n i.toNat i s w h (by omega) (by omega)
    rw [digI_at (k := i.toNat) (by omega)]
    exact this

theorem dcells_cons (r x m : Nat) (hx : x < 65536) : dcells (r * 65536 + x) (1 + m) = [.int .i64 (x : Nat)] ++ dcells r m := by
  refine List.ext_getElem? fun i => ?_
  by_cases hi : i < 1 + m
  · rw [dcells_get _ _ _ hi]
    rcases (show i = 0 ∨ ∃ k, i = k + 1 from (by cases i with | zero => exact .inl rfl | succ k => exact .inr ⟨k, rfl⟩)) with rfl | ⟨k, rfl⟩
    · have e : dgt 65536 (r * 65536 + x) 0 = x := by unfold dgt; simp; omega
      rw [e]; rfl
    · have e : dgt 65536 (r * 65536 + x) (k + 1) = dgt 65536 r k := by
        unfold dgt
        rw [Nat.pow_succ, Nat.mul_comm (65536 ^ k), ← Nat.div_div_eq_div_mul]
        congr 2
        omega
      rw [e, List.singleton_append, List.getElem?_cons_succ, dcells_get _ _ _ (by omega)]
  · rw [List.getElem?_eq_none (by rw [dcells_length]; omega), List.getElem?_eq_none (by simp [dcells_length]; omega)]

/-- 'append([]int{x}, r...)', r a number of the reference. -/
theorem wpList_append_dig {ops : Array Oper} {rest : List Oper} {o : Oper} {a : Act} {w : World} {Q : Exit → Act → World → Prop} (hgd : o.guard = none) (s x : Operand)
    (ho : o.op = .call { callee := .builtin .append, args := #[s, x], argTypes := #[34, 34] }) (base g r m : Nat) (y v sx : Value) (hv : v = .slice (some ⟨g, 0, none⟩) 1 1) (hs : a.eval s = v) (hown : w.ownsRow base 3 1 v 1 [y])
    (hx : a.eval x = sx) (hD : DigN r m sx w) (hF : FreshS 0 sx) (hm : m ≤ 1000000) (hbase : base ≤ w.heap.size)
    (h : ∀ v' w', w'.ownsRow base 3 1 v' (1 + m) ([y] ++ dcells r m) → w.grownBy w' (some g) → wpList Try.prog ops Q rest (a.put o.dst v') w') : wpList Try.prog ops Q (o :: rest) a w := by
  obtain ⟨i0, hi, hz0, hz1, hz2⟩ := info_parts Try.info3
  rcases hF with rfl | ⟨k, n', c', rfl, _⟩
  · obtain ⟨_, a', c', he, _, _, _⟩ := hD
    cases he
    refine wpList_append_own_none hgd s x 34 ho base 3 i0 1 Try.underlying34 hi v 1 [y] hs hown hx ?_
    exact h v w hown ⟨rfl, rfl, rfl, Nat.le_refl _, fun _ _ _ => rfl⟩
  · obtain ⟨_, a', c'', he, h2, h3, h4⟩ := hD
    cases he
    refine wpList_append_own _ hgd s x 34 ho base 3 i0 (.int .i64 0) 1 8 Try.underlying34 hi hz0 hz1 hz2 rfl (by decide) v 1 [y] hs hown ⟨k, 0, none⟩ m c' (dcells r m) hx (by rw [dcells_length]; omega) (fun j u hu => ?_) (fun u hu => ?_) (by unfold maxLen; omega) (by omega) hbase ?_
    · have hj : j < m := by have := (List.getElem?_eq_some_iff.1 hu).1; rwa [dcells_length] at this
      rcases h4 with h4 | ⟨b, off, h5, h6, h7⟩
      · omega
      · cases h5
        rw [dcells_get _ _ _ hj] at hu
        have e : (⟨k, 0, none⟩ : Addr).add j = ⟨k, 0 + j, none⟩ := by unfold Addr.add; split <;> simp_all
        rw [e, h7 j hj, ← hu]
    · obtain ⟨j, hj, rfl⟩ := List.mem_map.1 hu
      rfl
    · intro v' w' h1 h2 _
      refine h v' w' h1 ?_
      rw [hv] at h2
      exact h2

theorem dlen_rest {u r n : Nat} (hu : u < 65536 ^ n) (hr : r < u * 65536) : dlen 65536 r ≤ n + 1 := by
  refine dlen_le (by omega) (Nat.lt_of_lt_of_le hr ?_)
  rw [show (65536 : Nat) ^ (n + 1) = 65536 ^ n * 65536 from Nat.pow_succ ..]
  exact Nat.mul_le_mul_right _ (Nat.le_of_lt hu)

theorem est_min (T D g : Nat) (h1 : g ≤ T / D) (h2 : g ≤ 65535) (hT : T < 281474976710656) : ∃ g0 : Nat, min (wrap64 ((T : Int) / (D : Int))) 65535 = ((g0 : Nat) : Int) ∧ g0 ≤ 65535 ∧ g ≤ g0 := by
  have h3 : T / D ≤ T := Nat.div_le_self _ _
  have e : wrap64 ((T : Int) / (D : Int)) = ((T / D : Nat) : Int) := by
    rw [← Int.natCast_ediv]
    exact wrap_id (by omega) (by omega)
  rw [e]
  generalize T / D = q at *
  refine ⟨min q 65535, by omega, by omega, by omega⟩
theorem cmp_gt {a b : Nat} (h : b < a) : cmpN a b = 1 := by unfold cmpN; rw [if_neg (by omega), if_pos h]
theorem cmp_le {a b : Nat} (h : a ≤ b) : ∃ c : Int, cmpN a b = c ∧ c ≤ 0 := ⟨_, rfl, by unfold cmpN; split <;> (try split) <;> omega⟩
theorem low_quot {r u g : Nat} (hu : 0 < u) (hlt : r < u * g) : r / u ≤ g - 1 ∧ 0 < g := by
  have h1 : r / u < g := by rw [Nat.div_lt_iff_lt_mul hu, Nat.mul_comm]; exact hlt
  generalize r / u = q at *
  omega
theorem same_quot {r u g : Nat} (hu : 0 < u) (h : r / u ≤ g) (hle : u * g ≤ r) : r / u = g ∧ r - u * g = r % u := by
  have h1 : g ≤ r / u := by rw [Nat.le_div_iff_mul_le hu, Nat.mul_comm]; exact hle
  have h2 : r / u = g := by omega
  refine ⟨h2, ?_⟩
  have h3 := Nat.div_add_mod r u
  rw [h2] at h3
  omega
theorem dlen_prod {u g n : Nat} (hu : u < 65536 ^ n) (hg : g ≤ 65535) : dlen 65536 (u * g) ≤ n + 1 := by
  refine dlen_le (by omega) ?_
  rw [show (65536 : Nat) ^ (n + 1) = 65536 ^ n * 65536 from Nat.pow_succ ..]
  exact Nat.mul_lt_mul'' hu (by omega)

/-- All that the walk has to know of an estimate. -/
theorem est_pack {u r n : Nat} (hn : 0 < n) (hu1 : 65536 ^ (n - 1) ≤ u) (hu2 : u < 65536 ^ n) (hr : r < u * 65536) :
    ∃ d0 d1 d2 y1 y2 T D : Nat, digI r ((n : Nat) : Int) = d0 ∧ digI r ((n : Int) - 1) = d1 ∧ digI r ((n : Int) - 2) = d2 ∧ digI u ((n : Int) - 1) = y1 ∧ digI u ((n : Int) - 2) = y2 ∧
      d0 < 65536 ∧ d1 < 65536 ∧ d2 < 65536 ∧ y1 < 65536 ∧ y2 < 65536 ∧ ((d0 : Int) * 65536 + (d1 : Int)) * 65536 + (d2 : Int) = ((T : Nat) : Int) ∧ (y1 : Int) * 65536 + (y2 : Int) = ((D : Nat) : Int) ∧
      T < 281474976710656 ∧ D < 4294967296 ∧ 0 < D ∧ r / u ≤ T / D ∧ r / u ≤ 65535 := by
  obtain ⟨h1, h2, h3⟩ := est_ge hn hu1 hu2 hr
  refine ⟨_, _, _, _, _, top3 r n, top2 u n, rfl, rfl, rfl, rfl, rfl, digI_lt _ _, digI_lt _ _, digI_lt _ _, digI_lt _ _, digI_lt _ _, ?_, ?_, top3_lt _ _, top2_lt _ _, h1, h2, h3⟩
  · unfold top3; omega
  · unfold top2; omega

set_option maxRecDepth 100000 in
set_option maxHeartbeats 1000000 in
theorem rdivide_any (v u m n : Nat) (s t : Value) (w : World) (hs : DigN v m s w) (ht : DigN u n t w) (hm : m ≤ 100000) (hn : n ≤ 100000) (hn0 : 0 < n) (hu1 : 65536 ^ (n - 1) ≤ u) :
    Calls Try.prog 43 #[s, t] w fun e w' => ∃ q r, e = .returned (.tuple #[q, r]) ∧ RefN (v / u) q w' ∧ RefN (v % u) r w' ∧ Below w.heap.size w w' := by
  obtain ⟨i0, hi, hz0, hz1, hz2⟩ := info_parts Try.info3
  have hu0 : 0 < u := Nat.lt_of_lt_of_le (Nat.pow_pos (by omega)) hu1
  have HS := Lib.hid hs
  have HT := Lib.hid ht
  have HU := Lib.hid ht.1
  have HU1 := Lib.hid hu1
  have HV := Lib.hid hs.1
  obtain ⟨hx1, a, c, rfl, h2, h3, h4⟩ := hs
  obtain ⟨hx2, a', c', rfl, h2', h3', h4'⟩ := ht
  clear h4 h4' h2 h2' h3 h3' hx1 hx2 hu1
  go_enter Try.func43, Try.ntmps43
  go_wp2_with (at_make; refine wpList_make_full _ rfl _ _ 34 rfl w.heap.size 3 i0 (.int .i64 0) 1 Try.underlying34 hi hz0 hz1 .i64 .i64 _ _ m rfl rfl rfl rfl (by rw [hz2]; omega) (by unfold maxLen; omega) (Nat.le_refl _) ?_)
  intro w2 hown2 hg2
  have hbel2 : Below w.heap.size w w2 := (Below.refl _ w).grown hg2 (Nat.le_refl _) (fun k e => by cases e)
  rw [← dcells_zero] at hown2
  have hG2 := (hown2.lt _ rfl).2
  have HO2 := Lib.hid hown2
  have HB2 := Lib.hid hbel2
  clear hown2 hg2 hbel2
  go_wp2_with fail
  go_loopw [6, 9] (fun x i wr => ∃ k : Nat, k ≤ m ∧ i = .int .i64 ((k : Int) - 1) ∧ RefN (v / 65536 ^ k % u) x wr ∧ FreshS 0 x ∧ w.heap.size < wr.heap.size ∧
      wr.ownsRow w.heap.size 3 1 (.slice (some ⟨w.heap.size, 0, none⟩) m m) m (dcells (hiDg 65536 (v / u) k) m) ∧ Below w.heap.size w wr)
    (fun _ i _ => (intOf i + 1).toNat)
  case atStart =>
    have hv0 : v / 65536 ^ m = 0 := Nat.div_eq_of_lt HV.out
    have hq : v / u < 65536 ^ m := Nat.lt_of_le_of_lt (Nat.div_le_self _ _) HV.out
    exact ⟨m, Nat.le_refl _, rfl, by rw [hv0, Nat.zero_mod]; exact ⟨by simp [dlen_zero], none, 0, rfl, by simp [dlen_zero], by decide, .inl (by simp [dlen_zero])⟩, .inl rfl, hG2, by rw [hiDg_top hq]; exact HO2.out, HB2.out⟩
  case round =>
    obtain ⟨k, hk, rfl, hR, hF, hGl, hown, hbel⟩ := hrel
    have HR := Lib.hid hR
    have HF := Lib.hid hF
    have HO := Lib.hid hown
    have HB := Lib.hid hbel
    clear hR hF hown hbel
    by_cases hk0 : 0 < k
    · obtain ⟨j, hj1, hj2⟩ : ∃ j, k ≤ j + 1 ∧ j + 1 ≤ k := ⟨k - 1, by omega, by omega⟩
      have hkj := Nat.le_antisymm hj1 hj2
      rw [hkj] at HR HO
      clear hkj
      rw [show (k : Int) - 1 = ((j : Nat) : Int) by omega]
      obtain ⟨x, hx⟩ : ∃ x, dgt 65536 v j = x := ⟨_, rfl⟩
      have hxl : x < 65536 := by rw [← hx]; exact d16_lt _ _
      obtain ⟨b, off, rfl, hblk, hca⟩ := (HS.out.kept HB.out).cellsAt j (by omega)
      rw [hx] at hca
      obtain ⟨hd1, hd2, hd3⟩ := div_digit (v := v) (k := j) hu0
      rw [hx] at hd1 hd2 hd3
      obtain ⟨r0, hr0⟩ : ∃ r0, v / 65536 ^ (j + 1) % u = r0 := ⟨_, rfl⟩
      rw [hr0] at HR hd1 hd2 hd3
      have hr0u : r0 < u := by rw [← hr0]; exact Nat.mod_lt _ hu0
      have hm0 : dlen 65536 r0 ≤ n := dlen_le (by omega) (Nat.lt_trans hr0u HU.out)
      obtain ⟨m0, hm0e⟩ : ∃ m0, dlen 65536 r0 = m0 := ⟨_, rfl⟩
      have HR0 := Lib.hid (show DigN r0 m0 u6 wr by rw [← hm0e]; exact HR.out)
      rw [hm0e] at hm0
      have HD1 := Lib.hid hd1
      have HD2 := Lib.hid hd2
      have HD3 := Lib.hid hd3
      have HX := Lib.hid hx
      have hown1 := World.ownsRow_lit (base := wr.heap.size) (e := 3) (size := 1) wr #[.int .i64 (x : Nat)] 1 (Nat.le_refl _) (by decide) rfl
      have HO1 := Lib.hid hown1
      have HR1 := Lib.hid (HR0.out.kept ((Below.refl wr.heap.size wr).alloc (Nat.le_refl _) (.cells #[.int .i64 (x : Nat)] 3)))
      clear hx hd1 hd2 hd3 hr0 hm0e hown1 HR
      go_wp2_with (first
        | (at_builtin; refine wpList_append_dig rfl _ _ rfl wr.heap.size wr.heap.size r0 m0 (.int .i64 (x : Nat)) _ u6 rfl rfl HO1.out rfl HR1.out HF.out (by omega) (by simp) ?_; intro v' w3 hown' hgrow3))
      obtain ⟨a5, c5, rfl⟩ := own_slice hown'
      obtain ⟨R1, hR1⟩ : ∃ R1, r0 * 65536 + x = R1 := ⟨_, rfl⟩
      have hown5 : w3.ownsRow wr.heap.size 3 1 (.slice a5 (1 + m0) c5) (1 + m0) (dcells R1 (1 + m0)) := by rw [← hR1, dcells_cons _ _ _ hxl]; exact hown'
      have hRl : R1 < 65536 ^ (1 + m0) := by
        have h1 := HR0.out.1
        rw [← hR1, Nat.add_comm 1 m0, Nat.pow_succ]
        omega
      have HO5 := Lib.hid hown5
      have HB3 := Lib.hid (((Below.refl wr.heap.size wr).alloc (Nat.le_refl _) (.cells #[.int .i64 (x : Nat)] 3)).grown hgrow3 (by simp) (fun k hk => by cases hk; exact Nat.le_refl _))
      have HRL := Lib.hid hRl
      rw [hR1] at HD1 HD2 HD3
      clear hR1 hown' hown5 hgrow3 hRl HO1 HR1 hca
      refine (trimF_any R1 (1 + m0) c5 a5 w3 (digN_owns HO5.out HRL.out)).mono ?_
      rintro e w4 ⟨i5, hi5, rfl, hR5, hw⟩
      subst hw
      have HR5 := Lib.hid hR5
      have HF5 := Lib.hid (fresh_own HO5.out hi5)
      obtain ⟨s5, hs5⟩ : ∃ s5, Value.slice a5 i5 c5 = s5 := ⟨_, rfl⟩
      rw [hs5] at HR5 HF5
      clear hR5 HRL HO5 HR0
      have hl5 := dlen_rest HU.out HD3.out
      obtain ⟨d0, d1, d2, y1, y2, T, D, hd0, hd1, hd2, hy1, hy2, hl0, hl1, hl2, hm1, hm2, hTe, hDe, hT, hD, he1, he2, he3⟩ := est_pack hn0 HU1.out HU.out HD3.out
      have HC0 := Lib.hid (digit_I R1 _ s5 w4 HR5.out ((n : Nat) : Int) (by omega))
      have HC1 := Lib.hid (digit_I R1 _ s5 w4 HR5.out ((n : Int) - 1) (by omega))
      have HC2 := Lib.hid (digit_I R1 _ s5 w4 HR5.out ((n : Int) - 2) (by omega))
      rw [hd0] at HC0
      rw [hd1] at HC1
      rw [hd2] at HC2
      have HTE := Lib.hid hTe
      have HDE := Lib.hid hDe
      have HEST := Lib.hid he2
      have HEST2 := Lib.hid he3
      have HS5 := Lib.hid hs5
      have HBt := Lib.hid (HB.out.trans (HB3.out.mono HB.out.size))
      have HTT := Lib.hid (HT.out.kept HBt.out)
      have HY2 := Lib.hid hy2
      have HY1 := Lib.hid hy1
      clear hd0 hd1 hd2 hy1 hy2 hTe hDe he2 he3
      rw [hs5]
      clear hs5
      go_wp2_with fail
      refine HC0.out.mono ?_
      rintro e w5 ⟨rfl, hw⟩
      subst hw
      go_wp2_with fail
      refine HC1.out.mono ?_
      rintro e w6 ⟨rfl, hw⟩
      subst hw
      go_wp2_with fail
      refine HC2.out.mono ?_
      rintro e w7 ⟨rfl, hw⟩
      subst hw
      go_wp2_with fail
      rw [HTE.out]
      obtain ⟨b', off', ha', hblk', hcb⟩ := HTT.out.cellsAt (n - 1) (by omega)
      subst ha'
      rw [show dgt 65536 u (n - 1) = y1 by rw [← HY1.out]; exact (digI_at (by omega)).symm] at hcb
      have HCB := Lib.hid hcb
      clear hcb
      have HW7 := Lib.hid (show w7.drew.cell? ⟨b', off' + (n - 1), none⟩ = some (.int .i64 (y1 : Nat)) ∧ Below wr.heap.size wr w7.drew ∧ RefN R1 s5 w7.drew ∧ DigN u n (.slice (some ⟨b', off', none⟩) n c') w7.drew from ⟨HCB.out, HB3.out.drew, HR5.out.kept (Below.refl _ w7).drew, HTT.out.kept (Below.refl _ w7).drew⟩)
      have HYY := Lib.hid (fun W (hW : DigN u n (.slice (some ⟨b', off', none⟩) n c') W) => digit_I u n _ W hW ((n : Int) - 2) (by omega))
      rw [HY2.out] at HYY
      have e1 : IntKind.i64.wrap ((n : Int) - 1) = (n : Int) - 1 := IntWalk.i64_in _ (by omega)
      have e2 : IntKind.i64.wrap ((n : Int) - 2) = (n : Int) - 2 := IntWalk.i64_in _ (by omega)
      have e3 : 0 ≤ (n : Int) - 1 := by omega
      have e4 : ((n : Int) - 1).toNat = n - 1 := by omega
      have e5 : IntKind.i64.wrap ((y1 : Int) * 65536) = (y1 : Int) * 65536 := IntWalk.i64_in _ (by omega)
      have e6 : IntKind.i64.wrap ((y1 : Int) * 65536 + (y2 : Int)) = (y1 : Int) * 65536 + (y2 : Int) := IntWalk.i64_in _ (by omega)
      have e7 : (n : Int) - 1 < (n : Int) := by omega
      have e8 : (1 : Int) ≤ (n : Int) := by omega
      have HTl := Lib.hid hT
      have HDl := Lib.hid hD
      clear hT hD
      refine wp_region_noPanic ?_
      refine wp_region_held_drew (S := fun W => W.cell? ⟨b', off' + (n - 1), none⟩ = some (.int .i64 (y1 : Nat)) ∧ Below wr.heap.size wr W ∧ RefN R1 s5 W ∧ DigN u n (.slice (some ⟨b', off', none⟩) n c') W) (by kernel_rfl) HW7.out (fun hHeld0 => ?_)
      refine wpAnyH_take (i := 0) (oi := { dst := some 49, op := Op.move (Operand.tmp 1), type := 34, pos := "ref.go:187", after := #[], guard := none }) (v := ?_) rfl (by kernel_rfl) (by kernel_rfl) (by kernel_rfl) (fun _ _ _ h => h) (Or.inl ⟨by rfl, ?_⟩) hHeld0 ?_
      rotate_left
      · (intro W hW; clear hW; first | (go_simp; done) | (go_simp; with_reducible rfl))
      try simp only [Act.put, List.setIfInBounds_toArray, List.set_cons_zero, List.set_cons_succ]
      refine wpAnyH_take (i := 1) (oi := { dst := some 50, op := Op.move (Operand.tmp 8), type := 3, pos := "ref.go:187", after := #[], guard := none }) (v := ?_) rfl (by kernel_rfl) (by kernel_rfl) (by kernel_rfl) (fun _ _ _ h => h) (Or.inl ⟨by rfl, ?_⟩) hHeld0 ?_
      rotate_left
      · (intro W hW; clear hW; first | (go_simp; done) | (go_simp; with_reducible rfl))
      try simp only [Act.put, List.setIfInBounds_toArray, List.set_cons_zero, List.set_cons_succ]
      refine wpAnyH_take (i := 2) (oi := { dst := some 51, op := Op.binOp BinOp.sub 3 (Operand.tmp 50) (Operand.const (Value.int IntKind.i64 1)) 3, type := 3, pos := "ref.go:187", after := #[{ on := 1, ground := Ground.data }], guard := none }) (v := ?_) rfl (by kernel_rfl) (by kernel_rfl) (by kernel_rfl) (fun _ _ _ h => h) (Or.inl ⟨by rfl, ?_⟩) hHeld0 ?_
      rotate_left
      · (intro W hW; clear hW; first | (go_simp; done) | (go_simp; with_reducible rfl))
      try simp only [Act.put, List.setIfInBounds_toArray, List.set_cons_zero, List.set_cons_succ]
      refine wpAnyH_take (i := 3) (oi := { dst := some 52, op := Op.indexAddr 34 (Operand.tmp 49) (Operand.tmp 51), type := 0, pos := "ref.go:187", after := #[{ on := 0, ground := Ground.data }, { on := 2, ground := Ground.data }], guard := none }) (v := ?_) rfl (by kernel_rfl) (by kernel_rfl) (by kernel_rfl) (fun _ _ _ h => h) (Or.inl ⟨by rfl, ?_⟩) hHeld0 ?_
      rotate_left
      · (intro W hW; clear hW; first | (go_simp; done) | (go_simp; with_reducible rfl))
      try simp only [Act.put, List.setIfInBounds_toArray, List.set_cons_zero, List.set_cons_succ]
      refine wpAnyH_take (i := 4) (oi := { dst := some 53, op := Op.load 3 (Operand.tmp 52), type := 3, pos := "ref.go:187", after := #[{ on := 3, ground := Ground.data }], guard := none }) (v := .int .i64 (y1 : Nat)) rfl (by kernel_rfl) (by kernel_rfl) (by kernel_rfl) (fun _ _ _ h => h) (Or.inl ⟨by rfl, fun W hW => ?_⟩) hHeld0 ?_
      · (obtain ⟨hW1, _⟩ := hW; go_simp)
      try simp only [Act.put, List.setIfInBounds_toArray, List.set_cons_zero, List.set_cons_succ]
      refine wpAnyH_take (i := 5) (oi := { dst := some 54, op := Op.binOp BinOp.mul 3 (Operand.tmp 53) (Operand.const (Value.int IntKind.i64 65536)) 3, type := 3, pos := "ref.go:187", after := #[{ on := 4, ground := Ground.data }], guard := none }) (v := ?_) rfl (by kernel_rfl) (by kernel_rfl) (by kernel_rfl) (fun _ _ _ h => h) (Or.inl ⟨by rfl, ?_⟩) hHeld0 ?_
      rotate_left
      · (intro W hW; clear hW; first | (go_simp; done) | (go_simp; with_reducible rfl))
      try simp only [Act.put, List.setIfInBounds_toArray, List.set_cons_zero, List.set_cons_succ]
      refine wpAnyH_take (i := 6) (oi := { dst := some 55, op := Op.move (Operand.tmp 1), type := 34, pos := "ref.go:187", after := #[], guard := none }) (v := ?_) rfl (by kernel_rfl) (by kernel_rfl) (by kernel_rfl) (fun _ _ _ h => h) (Or.inl ⟨by rfl, ?_⟩) hHeld0 ?_
      rotate_left
      · (intro W hW; clear hW; first | (go_simp; done) | (go_simp; with_reducible rfl))
      try simp only [Act.put, List.setIfInBounds_toArray, List.set_cons_zero, List.set_cons_succ]
      refine wpAnyH_take (i := 7) (oi := { dst := some 56, op := Op.move (Operand.tmp 8), type := 3, pos := "ref.go:187", after := #[], guard := none }) (v := ?_) rfl (by kernel_rfl) (by kernel_rfl) (by kernel_rfl) (fun _ _ _ h => h) (Or.inl ⟨by rfl, ?_⟩) hHeld0 ?_
      rotate_left
      · (intro W hW; clear hW; first | (go_simp; done) | (go_simp; with_reducible rfl))
      try simp only [Act.put, List.setIfInBounds_toArray, List.set_cons_zero, List.set_cons_succ]
      refine wpAnyH_take (i := 8) (oi := { dst := some 57, op := Op.binOp BinOp.sub 3 (Operand.tmp 56) (Operand.const (Value.int IntKind.i64 2)) 3, type := 3, pos := "ref.go:187", after := #[{ on := 7, ground := Ground.data }], guard := none }) (v := ?_) rfl (by kernel_rfl) (by kernel_rfl) (by kernel_rfl) (fun _ _ _ h => h) (Or.inl ⟨by rfl, ?_⟩) hHeld0 ?_
      rotate_left
      · (intro W hW; clear hW; first | (go_simp; done) | (go_simp; with_reducible rfl))
      try simp only [Act.put, List.setIfInBounds_toArray, List.set_cons_zero, List.set_cons_succ]
      refine wpAnyH_ready (rs := [9]) (by kernel_rfl) (by simp) ?_
      refine AllReadyH.cons (o := { dst := some 58, op := Op.call { callee := Callee.value (Operand.func 64), args := #[Operand.tmp 55, Operand.tmp 57], argTypes := #[34, 3] }, type := 3, pos := "ref.go:187", after := #[{ on := 6, ground := Ground.data }, { on := 8, ground := Ground.data }], guard := none }) rfl (fun K hK => ?_) AllReadyH.nil
      go_simp
      (refine (HYY.out _ hHeld0.2.2.2).mono ?_; rintro e w8 ⟨rfl, hw⟩; subst hw)
      refine hK.out _ _ hHeld0 (fun hHeld1 => ?_)
      clear hK K
      try simp only [Act.put, List.setIfInBounds_toArray, List.set_cons_zero, List.set_cons_succ]
      refine wpAnyH_take (i := 10) (oi := { dst := some 59, op := Op.binOp BinOp.add 3 (Operand.tmp 54) (Operand.tmp 58) 3, type := 3, pos := "ref.go:187", after := #[{ on := 5, ground := Ground.data }, { on := 9, ground := Ground.data }], guard := none }) (v := ?_) rfl (by kernel_rfl) (by kernel_rfl) (by kernel_rfl) (fun _ _ _ h => h) (Or.inl ⟨by rfl, ?_⟩) hHeld1 ?_
      rotate_left
      · (intro W hW; clear hW; first | (go_simp; done) | (go_simp; with_reducible rfl))
      try simp only [Act.put, List.setIfInBounds_toArray, List.set_cons_zero, List.set_cons_succ]
      refine wpAnyH_take (i := 11) (oi := { dst := some 11, op := Op.assign (Operand.tmp 59), type := 3, pos := "ref.go:187", after := #[{ on := 10, ground := Ground.data }, { on := 9, ground := Ground.chain }, { on := 0, ground := Ground.phase }, { on := 1, ground := Ground.phase }, { on := 2, ground := Ground.phase }, { on := 3, ground := Ground.phase }, { on := 4, ground := Ground.phase }, { on := 5, ground := Ground.phase }, { on := 6, ground := Ground.phase }, { on := 7, ground := Ground.phase }, { on := 8, ground := Ground.phase }, { on := 9, ground := Ground.phase }, { on := 10, ground := Ground.phase }], guard := none }) (v := ?_) rfl (by kernel_rfl) (by kernel_rfl) (by kernel_rfl) (fun _ _ _ h => h) (Or.inl ⟨by rfl, ?_⟩) hHeld1 ?_
      rotate_left
      · (intro W hW; clear hW; first | (go_simp; done) | (go_simp; with_reducible rfl))
      try simp only [Act.put, List.setIfInBounds_toArray, List.set_cons_zero, List.set_cons_succ]
      refine wpAnyH_done (by kernel_rfl) ?_ _
      refine NoPanic.normal ?_
      clear e1 e2 e3 e4 e5 e6 e7 e8
      have hT := HTl.out
      have hD := HDl.out
      rw [HDE.out]
      have hDi : (0 : Int) < (D : Int) := by omega
      have hDz : ((D : Int) == 0) = false := by simp; omega
      go_wp2_with fail
      obtain ⟨g0, hg0, hg1, hg2⟩ := est_min T D _ HEST.out HEST2.out hT
      rw [hg0]
      have HG2 := Lib.hid hg2
      obtain ⟨_, hW2, hW3, hW4⟩ := HW7.out
      have HBw := Lib.hid hW2
      have HRw := Lib.hid hW3
      have HTw := Lib.hid hW4
      have HBF := Lib.hid (HB3.out)
      clear hg0 hg2 hT hD hDi hDz hHeld0 hHeld1 hW2 hW3 hW4 HEST HEST2 HTE HDE HTl HDl HCB HTT HBt HR5 HB3 HYY HC0 HC1 HC2 HW7
      refine (rof_any g0 (by omega) _).mono ?_
      rintro e wa ⟨ta, rfl, hta, hb⟩
      have HTA := Lib.hid hta
      have HBa := Lib.hid (HBw.out.trans (hb.mono HBw.out.size))
      have HRa := Lib.hid (HRw.out.kept hb)
      have HTa := Lib.hid (HTw.out.kept hb)
      clear hta hb HBw HRw HTw
      have hdg : dlen 65536 g0 ≤ 1 := dlen_le (by omega) (by omega)
      go_wp2_with fail
      refine (rmulF_any u g0 n _ _ ta _ HTa.out HTA.out (by omega) (by omega)).mono ?_
      rintro e wb ⟨p1, rfl, hp, hb, hf⟩
      have hla := HBa.out.size
      have HP1 := Lib.hid hp
      have HBb := Lib.hid (HBa.out.trans (hb.mono HBa.out.size))
      have HRb := Lib.hid (HRa.out.kept hb)
      have HTb := Lib.hid (HTa.out.kept hb)
      have HFb := Lib.hid (hf.mono hla)
      clear hp hb hf HBa HRa HTa hla HTA hdg
      go_wp2_with fail
      obtain ⟨wo, hwo⟩ : ∃ wo : World, wo = wr := ⟨_, rfl⟩
      subst hwo
      go_loopw [12, 13] (fun g p W => ∃ γ : Nat, R1 / u ≤ γ ∧ γ ≤ 65535 ∧ g = .int .i64 (γ : Nat) ∧ RefN (u * γ) p W ∧ FreshS wo.heap.size p ∧ Below wo.heap.size wo W ∧ RefN R1 s5 W ∧ DigN u n (.slice (some ⟨b', off', none⟩) n c') W)
        (fun g _ _ => (intOf g).toNat)
      case atStart => exact ⟨g0, HG2.out, hg1, rfl, HP1.out, HFb.out, HBb.out, HRb.out, HTb.out⟩
      case round =>
        obtain ⟨γ, hγ1, hγ2, rfl, hp, hpf, hbw, hrw, htw⟩ := hrel
        have HP := Lib.hid hp
        have HPF := Lib.hid hpf
        have HBW := Lib.hid hbw
        have HRW := Lib.hid hrw
        have HTW := Lib.hid htw
        have HG1 := Lib.hid hγ1
        have hdp := dlen_prod HU.out hγ2
        clear hp hpf hbw hrw htw hγ1
        by_cases hgt : R1 < u * γ
        · obtain ⟨hq1, hq2⟩ := low_quot hu0 hgt
          have HC := Lib.hid (rcompare_any (u * γ) R1 _ _ _ _ _ HP.out HRW.out (by omega) (by omega))
          rw [cmp_gt hgt] at HC
          have hle : u ≤ u * γ := Nat.le_mul_of_pos_right _ hq2
          have HQ1 := Lib.hid hq1
          have hmul : u * γ - u = u * (γ - 1) := by rw [Nat.mul_sub, Nat.mul_one]
          have HM := Lib.hid hmul
          have HLE := Lib.hid hle
          clear hq1 hmul hle hgt
          go_wp2_with fail
          refine HC.out.mono ?_
          rintro e w9 ⟨rfl, hw⟩
          subst hw
          go_wp2_with fail
          refine (rsubF_any (u * γ) u _ n _ _ _ HP.out HTW.out (by omega) HLE.out).mono ?_
          rintro e wc ⟨p2, rfl, hp, hb, hf⟩
          rw [HM.out] at hp
          have hlw := HBW.out.size
          have HP2 := Lib.hid hp
          have HB2 := Lib.hid (HBW.out.trans (hb.mono HBW.out.size))
          have HR2 := Lib.hid (HRW.out.kept hb)
          have HT2 := Lib.hid (HTW.out.kept hb)
          have HF2 := Lib.hid (hf.mono hlw)
          clear hp hb hf hlw
          go_wp2_with fail
          refine ⟨⟨γ - 1, HQ1.out, by omega, by rw [Int.ofNat_sub (by omega)]; rfl, HP2.out, HF2.out, HB2.out, HR2.out, HT2.out⟩, by simp [intOf]; omega⟩
        · obtain ⟨cc, hcc, hc0⟩ := cmp_le (show u * γ ≤ R1 by omega)
          obtain ⟨hq1, hq2⟩ := same_quot hu0 HG1.out (show u * γ ≤ R1 by omega)
          have HC := Lib.hid (rcompare_any (u * γ) R1 _ _ _ _ _ HP.out HRW.out (by omega) (by omega))
          rw [hcc] at HC
          have HQ1 := Lib.hid hq1
          have HQ2 := Lib.hid hq2
          have HLE := Lib.hid (show u * γ ≤ R1 by omega)
          have HOw := Lib.hid (HO.out.kept (below_none (HBW.out)) (.inr (by simp [Value.ownBlock])))
          clear hq1 hq2 hgt hcc
          have hcq : ∃ old, wr.cell? ⟨w.heap.size, j, none⟩ = some old := ⟨_, by rw [HOw.out.cellAt j (by omega), dcells_get _ _ _ (by omega)]⟩
          obtain ⟨old, hold⟩ := hcq
          have hfro := HOw.out.frozenAt j
          go_wp2_with fail
          refine HC.out.mono ?_
          rintro e w9 ⟨rfl, hw⟩
          subst hw
          go_wp2_with fail
          have HS1 := Lib.hid (HRW.out.setCell (G := w.heap.size) (j := j) (x := .int .i64 (γ : Nat)) HF5.out hGl)
          have HS2 := Lib.hid (HP.out.setCell (G := w.heap.size) (j := j) (x := .int .i64 (γ : Nat)) HPF.out hGl)
          refine (rsubF_any R1 (u * γ) _ _ _ _ _ HS1.out HS2.out (by omega) HLE.out).mono ?_
          rintro e wc ⟨r2, rfl, hr, hb, hf⟩
          rw [HQ2.out, HD2.out] at hr
          have HRR := Lib.hid hr
          have HFR := Lib.hid (hf.mono (Nat.zero_le _))
          have hsz9 := HBW.out.size
          have hszc := hb.size
          simp [World.setCell] at hszc
          have ho := (HOw.out.stored j (.int .i64 (γ : Nat))).1
          have hset : (dcells (hiDg 65536 (v / u) (j + 1)) m).set j (.int .i64 (γ : Nat)) = dcells (hiDg 65536 (v / u) j) m := by
            rw [dcells_set _ _ _ _ (by omega), show γ = dgt 65536 (v / u) j by rw [← HQ1.out]; exact HD1.out, hiDg_set (by omega)]
          rw [hset] at ho
          have HOC := Lib.hid (ho.kept (below_none hb) (.inr (by simp [Value.ownBlock])))
          have HBC := Lib.hid (((HB.out.trans (HBW.out.mono HB.out.size)).setCell (p := ⟨w.heap.size, j, none⟩) (Nat.le_refl _) (.int .i64 (γ : Nat))).trans (hb.mono (by simp [World.setCell]; omega)))
          clear hr hb hf ho
          go_wp2_with fail
          refine ⟨⟨j, by omega, rfl, HRR.out, HFR.out, by omega, HOC.out, HBC.out⟩, by simp [intOf]⟩
    · obtain rfl : k = 0 := by omega
      have HR0 := HR.out
      rw [Nat.pow_zero, Nat.div_one] at HR0
      have HO0 := HO.out
      rw [hiDg_zero] at HO0
      have hq : v / u < 65536 ^ m := Nat.lt_of_le_of_lt (Nat.div_le_self _ _) HV.out
      have HQ := Lib.hid (digN_owns HO0 hq)
      have HRR := Lib.hid HR0
      clear hk0 HR0 HO0 hq
      go_wp2_with fail
      refine (trim_any _ m _ wr HQ.out).mono ?_
      rintro e w2 ⟨s', rfl, hR, rfl⟩
      have HR9 := Lib.hid hR
      clear hR
      go_wp2_with fail
      go_ret2
      exact ⟨_, _, rfl, HR9.out, HRR.out, HB.out⟩
end Go.Proofs.Ytlmfiggmjpjpiaa
