/- CtsInverts: whatever comes in. -/
import Derived.Test.YtjcdbjapadgdfaaCX
namespace Go.Proofs.Ytjcdbjapadgdfaa
open Go.RowKit Go.Shelf

attribute [local go_sem] Oper.semAt_some
set_option maxRecDepth 100000 in
theorem cinverts_none (x y z : Nat) (ak av az : Option Addr) (ck cv cz : Nat) (so : Value) (h : x ≠ 16 ∨ y ≠ 16 ∨ z < 16 ∨ 200 < z) (w : World) :
    Calls Try.prog 4 #[.slice ak x ck, .slice av y cv, .slice az z cz, so] w fun e w' => e = .returned (.bool true) ∧ Below w.heap.size w w' := by
  by_cases h1 : x = 16
  · subst h1
    by_cases h2 : y = 16
    · subst h2
      by_cases h3 : z < 16
      · have i3 : ((z : Nat) : Int) < 16 := by omega
        clear h
        have HKN := Lib.hid (known_any w)
        go_enter Try.func4, Try.ntmps4
        go_wp2_with fail
        refine HKN.out.mono ?_
        rintro e w1 ⟨rfl, hb⟩
        have HB := Lib.hid hb
        clear hb HKN
        go_wp2_with fail
        go_ret
        exact ⟨rfl, HB.out⟩
      · have i3 : ¬ ((z : Nat) : Int) < 16 := by omega
        have i4 : (200 : Int) < ((z : Nat) : Int) := by omega
        clear h h3
        have HKN := Lib.hid (known_any w)
        go_enter Try.func4, Try.ntmps4
        go_wp2_with fail
        refine HKN.out.mono ?_
        rintro e w1 ⟨rfl, hb⟩
        have HB := Lib.hid hb
        clear hb HKN
        go_wp2_with fail
        go_ret
        exact ⟨rfl, HB.out⟩
    · have i2 : ¬ ((y : Nat) : Int) = 16 := by omega
      clear h h2
      have HKN := Lib.hid (known_any w)
      go_enter Try.func4, Try.ntmps4
      go_wp2_with fail
      refine HKN.out.mono ?_
      rintro e w1 ⟨rfl, hb⟩
      have HB := Lib.hid hb
      clear hb HKN
      go_wp2_with fail
      go_ret
      exact ⟨rfl, HB.out⟩
  · have i1 : ¬ ((x : Nat) : Int) = 16 := by omega
    clear h h1
    have HKN := Lib.hid (known_any w)
    go_enter Try.func4, Try.ntmps4
    go_wp2_with fail
    refine HKN.out.mono ?_
    rintro e w1 ⟨rfl, hb⟩
    have HB := Lib.hid hb
    clear hb HKN
    go_wp2_with fail
    go_ret
    exact ⟨rfl, HB.out⟩
theorem cinverts_any (ks iv zs os : List Nat) (ak av az ao : Option Addr) (ck cv cz co : Nat) (w : World) (hk : BytesAt ks (.slice ak ks.length ck) w) (hv : BytesAt iv (.slice av iv.length cv) w) (hz : BytesAt zs (.slice az zs.length cz) w) (ho : BytesAt os (.slice ao os.length co) w) :
    Calls Try.prog 4 #[.slice ak ks.length ck, .slice av iv.length cv, .slice az zs.length cz, .slice ao os.length co] w fun e w' => e = .returned (.bool true) ∧ Below w.heap.size w w' := by
  by_cases h : ks.length = 16 ∧ iv.length = 16 ∧ 16 ≤ zs.length ∧ zs.length ≤ 200
  · exact cinverts_all ks iv zs os ak av az ao ck cv cz co w hk hv hz ho h.1 h.2.1 h.2.2.1 h.2.2.2
  · exact cinverts_none _ _ _ ak av az ck cv cz _ (by omega) w
end Go.Proofs.Ytjcdbjapadgdfaa
