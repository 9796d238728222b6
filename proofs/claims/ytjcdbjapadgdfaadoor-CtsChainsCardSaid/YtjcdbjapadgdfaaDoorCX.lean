/- Decrypt; CtsInverts walked. -/
import Derived.Test.YtjcdbjapadgdfaaDoorCW
namespace Go.Proofs.YtjcdbjapadgdfaaDoor
open Go.RowKit Go.Shelf

attribute [local go_sem] Oper.semAt_some
set_option maxRecDepth 100000 in
theorem dec_any (key iv cs : List Nat) (ks vs : Value) (a : Option Addr) (L c : Nat) (hL : cs.length = L) (hk : key.length = 16) (hv : iv.length = 16) (hl : 16 ≤ L) (hm : L ≤ 131072) (w : World) (hK : BytesAt key ks w) (hV : BytesAt iv vs w) (hB : BytesAt cs (.slice a L c) w) :
    Calls Tryd.prog 7 #[ks, vs, .slice a L c] w fun e w' => ∃ s', e = .returned (.tuple #[s', .int .i64 0]) ∧ BytesAt (decL key iv cs) s' w' ∧ Nil0 s' ∧ (∀ j, InS s' j → w.heap.size ≤ j) ∧ Below w.heap.size w w' := by
  subst hL
  have H := Lib.hid (applied_any 15 key iv cs ks vs a c (decL key iv cs) hk hv hl hm w hK hV hB (enters_of Tryd.func15 (by kernel_rfl) rfl) (fun gm gc W hM hB2 => mdec_any key iv cs gm gc _ hK.1 hv hV.1 hl hm W hM hB2))
  clear hk hv hl hm hK hV hB
  go_enter Tryd.func7, Tryd.ntmps7
  go_wp2_with fail
  refine H.out.mono ?_
  rintro e w1 ⟨s', rfl, hby, hn0, hin, hb⟩
  have HBY := Lib.hid hby
  have HN0 := Lib.hid hn0
  have HIN := Lib.hid hin
  have HB := Lib.hid hb
  clear hby hn0 hin hb H
  go_wp2_with fail
  go_ret2
  exact ⟨_, rfl, HBY.out, HN0.out, HIN.out, HB.out⟩
theorem nil0_of {zs : List Nat} {s : Value} {w : World} (h : BytesAt zs s w) (h0 : 0 < zs.length) : Nil0 s := by
  rintro L c rfl
  obtain ⟨_, a, c', e, _, h2⟩ := h
  cases e
  rcases h2 with h2 | ⟨b, off, ea, _⟩
  · omega
  · cases ea
/-- The shape of a slice that has a string's bytes. -/
theorem bytes_shape {zs : List Nat} {s : Value} {w : World} (h : BytesAt zs s w) {L : Nat} (hL : zs.length = L) (h0 : 0 < L) : ∃ b o c, s = .slice (some ⟨b, o, none⟩) L c ∧ L ≤ c := by
  obtain ⟨b, o, c, e, _, _⟩ := h.cells (by omega)
  obtain ⟨_, a, c', e', hc, _⟩ := h
  subst hL
  rw [e] at e'
  cases e'
  exact ⟨b, o, c, e, hc⟩
end Go.Proofs.YtjcdbjapadgdfaaDoor
