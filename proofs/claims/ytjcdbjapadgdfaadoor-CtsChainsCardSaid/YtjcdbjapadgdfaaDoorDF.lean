/- CtsChains: Chain without a mode or without blocks; a list of strings that came in. -/
import Derived.OpenShut
import Derived.Test.YtjcdbjapadgdfaaDoorCM
import Derived.Test.YtjcdbjapadgdfaaDoorDB
import Derived.Test.YtjcdbjapadgdfaaDoorCG
namespace Go.Proofs.YtjcdbjapadgdfaaDoor
open Go.ChangeShapes Go.WideShapes Go.ChangeAt Go.RowKit Go.Shelf

attribute [local go_sem] Oper.semAt_some
/-- An iterator that yields nothing. -/
theorem nothing_yields (m : Nat) (Φ : Nat → Value → World → Prop) (Rd : Nat → Prop) (own : Value → Nat → Prop) (w : World) : YieldsS m 21 #[] 0 Φ Rd own w := by
  intro l J Jx M W hW hM hJ hJx hY h0
  have H0 := Lib.hid h0
  clear hW hM hJ hJx hY h0
  refine callsIn_of_wp Tryd.func21 rfl trivial ?_ rfl
  simp only [Tryd.ntmps21, List.size_toArray, List.length_cons, List.length_nil, Nat.reduceAdd, Nat.reduceSub, Array.replicate_succ, Array.replicate_zero, List.push_toArray, List.append_toArray, List.nil_append, List.cons_append]
  gi_wp2_with fail
  go_end0
  exact ⟨⟨_, rfl⟩, .inl H0.out⟩
set_option maxRecDepth 100000 in
theorem lchain_no (key iv : List Nat) (ks vs : Value) (gf : Nat) (lb : Array Value) (h : key.length ≠ 16 ∨ iv.length ≠ 16) (w : World) (hK : BytesAt key ks w) (hV : BytesAt iv vs w) :
    Calls Tryd.prog 11 #[ks, vs, .func (.func gf) #[] lb] w fun e w' => e = .returned (.func (.func 21) #[] #[]) ∧ Below w.heap.size w w' := by
  have H := Lib.hid (newMode_no key iv ks vs h w hK hV)
  clear h hK hV
  go_enter Tryd.func11, Tryd.ntmps11
  go_wp2_with fail
  refine H.out.mono ?_
  rintro e w1 ⟨rfl, hb⟩
  have HB := Lib.hid hb
  clear hb H
  go_wp2_with fail
  go_ret
  exact ⟨rfl, HB.out⟩
set_option maxRecDepth 100000 in
theorem lchain_nil (key iv : List Nat) (ks vs : Value) (w : World) (hK : BytesAt key ks w) (hV : BytesAt iv vs w) :
    Calls Tryd.prog 11 #[ks, vs, .nilFunc] w fun e w' => e = .returned (.func (.func 21) #[] #[]) ∧ Below w.heap.size w w' := by
  by_cases h : key.length = 16 ∧ iv.length = 16
  · have H := Lib.hid (newMode_any key iv ks vs h.1 h.2 w hK hV)
    have hnn : ∀ W : World, (binOp BinOp.eql 31 .nilFunc .nilFunc).run Tryd.prog W = .ok (.bool true) W := fun W => by kernel_rfl
    clear h hK hV
    go_enter Tryd.func11, Tryd.ntmps11
    go_wp2_with fail
    refine H.out.mono ?_
    rintro e w1 ⟨gm, gc, rfl, _, _, _, hb⟩
    have HB := Lib.hid hb
    clear hb H
    go_wp2_with fail
    go_ret
    exact ⟨rfl, HB.out⟩
  · have H := Lib.hid (newMode_no key iv ks vs (by omega) w hK hV)
    clear h hK hV
    go_enter Tryd.func11, Tryd.ntmps11
    go_wp2_with fail
    refine H.out.mono ?_
    rintro e w1 ⟨rfl, hb⟩
    have HB := Lib.hid hb
    clear hb H
    go_wp2_with fail
    go_ret
    exact ⟨rfl, HB.out⟩
theorem lsAt_of {H : Type} {enc : TypeId × Value → H} {W : World} {fuel : Nat} {cs : List Value} {x : DataW H × List MemPlace}
    (h : DataW.trod enc Tryd.prog W 0 (fun _ => true) true fuel 29 cs = some x) : ∃ v ls vs, cs = [v] ∧ LsAt (ls : List (List Nat)).length vs v W ∧ ∀ k, k < ls.length → BytesAt (ls.getD k []) (vs k) W ∧ Nil0 (vs k) := by
  rcases DataW.trod_slice Tryd.underlying29 h with ⟨h0, _⟩ | ⟨a, len, cap, elems, rest, n, _, hcs, _, _, hl, hm, hlen, hel, _⟩
  · exact ⟨_, [], fun _ => .slice none 0 0, h0, ⟨none, 0, rfl, Nat.le_refl _, .inl rfl⟩, fun k hk => by cases hk⟩
  · have c22 : Tryd.prog.cellsOf 22 = 1 := by kernel_rfl
    have each : ∀ i, ∃ zs : List Nat × Value, i < len → W.cell? (a.add i) = some zs.2 ∧ BytesAt zs.1 zs.2 W ∧ Nil0 zs.2 := by
      intro i
      by_cases hi : i < len
      · have hb := hel i hi
        rw [c22, Nat.mul_one, List.getElem?_eq_getElem (by rw [hlen]; exact hi), Option.bind_eq_some_iff] at hb
        obtain ⟨cs', hc1, hc2⟩ := hb
        rcases open_ints Tryd.underlying22 Tryd.underlying5 (by kernel_rfl) hc2 with ⟨hcs', _⟩ | ⟨ad, l, c, zs, hcs', _, hl', hm', hz, _, hcell, hwz⟩
        · subst hcs'
          obtain ⟨z, _, hz1, hz2⟩ := bytesAt_of W none 0 0 [] (.inl ⟨rfl, rfl, rfl, rfl⟩)
          exact ⟨(z, _), fun _ => ⟨cell_of_cells?_one hc1, hz1, hz2⟩⟩
        · subst hcs'
          obtain ⟨z, _, hz1, hz2⟩ := bytesAt_of W (some ad) l c zs (.inr ⟨ad, rfl, hl', hm', by simpa using hz, hcell, hwz⟩)
          exact ⟨(z, _), fun _ => ⟨cell_of_cells?_one hc1, hz1, hz2⟩⟩
      · exact ⟨([], .nilFunc), fun h => absurd h hi⟩
    obtain ⟨f, hf⟩ := Classical.axiomOfChoice each
    have hll : ((List.range len).map fun i => (f i).1).length = len := by simp
    refine ⟨_, (List.range len).map fun i => (f i).1, fun i => (f i).2, hcs, ?_, fun k hk => ?_⟩
    · rw [hll]
      by_cases h0 : len = 0
      · exact ⟨_, cap, rfl, hl, .inl h0⟩
      · obtain ⟨hs0, _⟩ := hf 0 (by omega)
        have hspot : a.spot = none := by simpa [Addr.add] using World.cell?_spot hs0
        obtain ⟨b, off, spot⟩ := a
        simp at hspot
        subst hspot
        have hadd : ∀ j, (⟨b, off, none⟩ : Addr).add j = ⟨b, off + j, none⟩ := fun j => by unfold Addr.add; split <;> simp_all
        exact ⟨_, cap, rfl, hl, .inr ⟨b, off, rfl, World.block_lt_of_cell? W ⟨b, off + 0, none⟩ (by rw [← hadd]; exact hs0), fun i hi => by rw [← hadd]; exact (hf i hi).1⟩⟩
    · rw [hll] at hk
      have := (hf k hk).2
      refine ⟨?_, this.2⟩
      simpa [List.getD, hk] using this.1
end Go.Proofs.YtjcdbjapadgdfaaDoor
