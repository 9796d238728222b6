/- CTS: Encrypt, and the errors of Encrypt and Decrypt. -/
import Derived.Test.YtjcdbjapadgdfaaDoorCE
namespace Go.Proofs.YtjcdbjapadgdfaaDoor
open Go.RowKit Go.Shelf

attribute [local go_sem] Oper.semAt_some
theorem newMode_no (key iv : List Nat) (ks vs : Value) (h : key.length ≠ 16 ∨ iv.length ≠ 16) (w : World) (hK : BytesAt key ks w) (hV : BytesAt iv vs w) :
    Calls Tryd.prog 20 #[ks, vs] w fun e w' => e = .returned (.tuple #[.pointer none, .int .i64 2]) ∧ Below w.heap.size w w' := by
  by_cases hl : key.length = 16
  · exact newMode_iv key iv ks vs hl (by rcases h with h | h; exact absurd hl h; exact h) w hK hV
  · exact newMode_key key ks vs hl w hK
set_option maxRecDepth 100000 in
theorem applied_arg (fi : Nat) (key iv : List Nat) (ks vs s : Value) (h : key.length ≠ 16 ∨ iv.length ≠ 16) (w : World) (hK : BytesAt key ks w) (hV : BytesAt iv vs w) :
    Calls Tryd.prog 13 #[.func (.func fi) #[] #[], ks, vs, s] w fun e w' => e = .returned (.tuple #[.slice none 0 0, .int .i64 2]) ∧ Below w.heap.size w w' := by
  have H := Lib.hid (newMode_no key iv ks vs h w hK hV)
  clear h hK hV
  go_enter Tryd.func13, Tryd.ntmps13
  go_wp2_with fail
  refine H.out.mono ?_
  rintro e w1 ⟨rfl, hb⟩
  have HB := Lib.hid hb
  clear hb H
  go_wp2_with fail
  go_ret2
  exact ⟨rfl, HB.out⟩
set_option maxRecDepth 100000 in
theorem applied_short (fi : Nat) (key iv : List Nat) (ks vs : Value) (a : Option Addr) (L c : Nat) (hk : key.length = 16) (hv : iv.length = 16) (hl : L < 16) (w : World) (hK : BytesAt key ks w) (hV : BytesAt iv vs w) :
    Calls Tryd.prog 13 #[.func (.func fi) #[] #[], ks, vs, .slice a L c] w fun e w' => e = .returned (.tuple #[.slice none 0 0, .int .i64 4]) ∧ Below w.heap.size w w' := by
  have H := Lib.hid (newMode_any key iv ks vs hk hv w hK hV)
  have h1 : ((L : Nat) : Int) < 16 := by omega
  clear hk hv hK hV
  go_enter Tryd.func13, Tryd.ntmps13
  go_wp2_with fail
  refine H.out.mono ?_
  rintro e w1 ⟨gm, gc, rfl, _, _, _, hb⟩
  have HB := Lib.hid hb
  clear hb H
  go_wp2_with fail
  go_ret2
  exact ⟨rfl, HB.out⟩
set_option maxRecDepth 100000 in
theorem applied_long (fi : Nat) (key iv : List Nat) (ks vs : Value) (a : Option Addr) (L c : Nat) (hk : key.length = 16) (hv : iv.length = 16) (hl : 131072 < L) (w : World) (hK : BytesAt key ks w) (hV : BytesAt iv vs w) :
    Calls Tryd.prog 13 #[.func (.func fi) #[] #[], ks, vs, .slice a L c] w fun e w' => e = .returned (.tuple #[.slice none 0 0, .int .i64 5]) ∧ Below w.heap.size w w' := by
  have H := Lib.hid (newMode_any key iv ks vs hk hv w hK hV)
  have h1 : ¬ ((L : Nat) : Int) < 16 := by omega
  have h2 : (131072 : Int) < ((L : Nat) : Int) := by omega
  clear hk hv hK hV
  go_enter Tryd.func13, Tryd.ntmps13
  go_wp2_with fail
  refine H.out.mono ?_
  rintro e w1 ⟨gm, gc, rfl, _, _, _, hb⟩
  have HB := Lib.hid hb
  clear hb H
  go_wp2_with fail
  go_ret2
  exact ⟨rfl, HB.out⟩
set_option maxRecDepth 100000 in
theorem applied_any (fi : Nat) (key iv zs : List Nat) (ks vs : Value) (a : Option Addr) (c : Nat) (F : List Nat) (hk : key.length = 16) (hv : iv.length = 16) (hl : 16 ≤ zs.length) (hm : zs.length ≤ 131072) (w : World) (hK : BytesAt key ks w) (hV : BytesAt iv vs w) (hB : BytesAt zs (.slice a zs.length c) w)
    (eg : ∀ args w, (callFunc fi args).run Tryd.prog w = .ok (.enter fi args) w)
    (H : ∀ (gm gc : Nat) (W : World), MdAt key iv gm gc W → BytesAt zs (.slice a zs.length c) W → Calls Tryd.prog fi #[.pointer (some ⟨gm, 0, none⟩), .slice a zs.length c] W fun e w' => ∃ s', e = .returned s' ∧ BytesAt F s' w' ∧ Nil0 s' ∧ (∀ j, InS s' j → W.heap.size ≤ j) ∧ Below W.heap.size W w') :
    Calls Tryd.prog 13 #[.func (.func fi) #[] #[], ks, vs, .slice a zs.length c] w fun e w' => ∃ s', e = .returned (.tuple #[s', .int .i64 0]) ∧ BytesAt F s' w' ∧ Nil0 s' ∧ (∀ j, InS s' j → w.heap.size ≤ j) ∧ Below w.heap.size w w' := by
  have HN := Lib.hid (newMode_any key iv ks vs hk hv w hK hV)
  have HH := Lib.hid H
  have HB := Lib.hid hB
  have h1 : ¬ ((zs.length : Nat) : Int) < 16 := by omega
  have h2 : ¬ (131072 : Int) < ((zs.length : Nat) : Int) := by omega
  obtain ⟨L, hL⟩ : ∃ q, zs.length = q := ⟨_, rfl⟩
  rw [hL] at h1 h2 HB HH ⊢
  clear hk hv hK hV H hB hl hm hL
  go_enter Tryd.func13, Tryd.ntmps13
  go_wp2_with fail
  refine HN.out.mono ?_
  rintro e w1 ⟨gm, gc, rfl, hM, _, _, hb⟩
  have HC := Lib.hid (HH.out gm gc w1 hM (HB.out.kept hb))
  have HB1 := Lib.hid hb
  clear hb hM HN HH
  go_wp2_with fail
  refine HC.out.mono ?_
  rintro e w2 ⟨s', rfl, hby, hn0, hin, hb2⟩
  have HBY := Lib.hid hby
  have HN0 := Lib.hid hn0
  have HIN := Lib.hid (show ∀ j, InS s' j → w.heap.size ≤ j from fun j h => Nat.le_trans HB1.out.size (hin j h))
  have HB2 := Lib.hid (bthen HB1.out hb2)
  clear hby hn0 hin hb2 HC
  go_wp2_with fail
  go_ret2
  exact ⟨_, rfl, HBY.out, HN0.out, HIN.out, HB2.out⟩
set_option maxRecDepth 100000 in
theorem enc_arg (key iv : List Nat) (ks vs : Value) (a : Option Addr) (L c : Nat) (h : key.length ≠ 16 ∨ iv.length ≠ 16) (w : World) (hK : BytesAt key ks w) (hV : BytesAt iv vs w) :
    Calls Tryd.prog 6 #[ks, vs, .slice a L c] w fun e w' => e = .returned (.tuple #[.slice none 0 0, .int .i64 2]) ∧ Below w.heap.size w w' := by
  have H := Lib.hid (applied_arg 14 key iv ks vs (.slice a L c) h w hK hV)
  go_enter Tryd.func6, Tryd.ntmps6
  go_wp2_with fail
  refine H.out.mono ?_
  rintro e w1 ⟨rfl, hb⟩
  have HB := Lib.hid hb
  clear hb H
  go_wp2_with fail
  go_ret2
  exact ⟨rfl, HB.out⟩
set_option maxRecDepth 100000 in
theorem enc_short (key iv : List Nat) (ks vs : Value) (a : Option Addr) (L c : Nat) (hk : key.length = 16) (hv : iv.length = 16) (hl : L < 16) (w : World) (hK : BytesAt key ks w) (hV : BytesAt iv vs w) :
    Calls Tryd.prog 6 #[ks, vs, .slice a L c] w fun e w' => e = .returned (.tuple #[.slice none 0 0, .int .i64 4]) ∧ Below w.heap.size w w' := by
  have H := Lib.hid (applied_short 14 key iv ks vs a L c hk hv hl w hK hV)
  go_enter Tryd.func6, Tryd.ntmps6
  go_wp2_with fail
  refine H.out.mono ?_
  rintro e w1 ⟨rfl, hb⟩
  have HB := Lib.hid hb
  clear hb H
  go_wp2_with fail
  go_ret2
  exact ⟨rfl, HB.out⟩
set_option maxRecDepth 100000 in
theorem enc_long (key iv : List Nat) (ks vs : Value) (a : Option Addr) (L c : Nat) (hk : key.length = 16) (hv : iv.length = 16) (hl : 131072 < L) (w : World) (hK : BytesAt key ks w) (hV : BytesAt iv vs w) :
    Calls Tryd.prog 6 #[ks, vs, .slice a L c] w fun e w' => e = .returned (.tuple #[.slice none 0 0, .int .i64 5]) ∧ Below w.heap.size w w' := by
  have H := Lib.hid (applied_long 14 key iv ks vs a L c hk hv hl w hK hV)
  go_enter Tryd.func6, Tryd.ntmps6
  go_wp2_with fail
  refine H.out.mono ?_
  rintro e w1 ⟨rfl, hb⟩
  have HB := Lib.hid hb
  clear hb H
  go_wp2_with fail
  go_ret2
  exact ⟨rfl, HB.out⟩
set_option maxRecDepth 100000 in
theorem dec_arg (key iv : List Nat) (ks vs : Value) (a : Option Addr) (L c : Nat) (h : key.length ≠ 16 ∨ iv.length ≠ 16) (w : World) (hK : BytesAt key ks w) (hV : BytesAt iv vs w) :
    Calls Tryd.prog 7 #[ks, vs, .slice a L c] w fun e w' => e = .returned (.tuple #[.slice none 0 0, .int .i64 2]) ∧ Below w.heap.size w w' := by
  have H := Lib.hid (applied_arg 15 key iv ks vs (.slice a L c) h w hK hV)
  go_enter Tryd.func7, Tryd.ntmps7
  go_wp2_with fail
  refine H.out.mono ?_
  rintro e w1 ⟨rfl, hb⟩
  have HB := Lib.hid hb
  clear hb H
  go_wp2_with fail
  go_ret2
  exact ⟨rfl, HB.out⟩
set_option maxRecDepth 100000 in
theorem dec_short (key iv : List Nat) (ks vs : Value) (a : Option Addr) (L c : Nat) (hk : key.length = 16) (hv : iv.length = 16) (hl : L < 16) (w : World) (hK : BytesAt key ks w) (hV : BytesAt iv vs w) :
    Calls Tryd.prog 7 #[ks, vs, .slice a L c] w fun e w' => e = .returned (.tuple #[.slice none 0 0, .int .i64 4]) ∧ Below w.heap.size w w' := by
  have H := Lib.hid (applied_short 15 key iv ks vs a L c hk hv hl w hK hV)
  go_enter Tryd.func7, Tryd.ntmps7
  go_wp2_with fail
  refine H.out.mono ?_
  rintro e w1 ⟨rfl, hb⟩
  have HB := Lib.hid hb
  clear hb H
  go_wp2_with fail
  go_ret2
  exact ⟨rfl, HB.out⟩
set_option maxRecDepth 100000 in
theorem dec_long (key iv : List Nat) (ks vs : Value) (a : Option Addr) (L c : Nat) (hk : key.length = 16) (hv : iv.length = 16) (hl : 131072 < L) (w : World) (hK : BytesAt key ks w) (hV : BytesAt iv vs w) :
    Calls Tryd.prog 7 #[ks, vs, .slice a L c] w fun e w' => e = .returned (.tuple #[.slice none 0 0, .int .i64 5]) ∧ Below w.heap.size w w' := by
  have H := Lib.hid (applied_long 15 key iv ks vs a L c hk hv hl w hK hV)
  go_enter Tryd.func7, Tryd.ntmps7
  go_wp2_with fail
  refine H.out.mono ?_
  rintro e w1 ⟨rfl, hb⟩
  have HB := Lib.hid hb
  clear hb H
  go_wp2_with fail
  go_ret2
  exact ⟨rfl, HB.out⟩
set_option maxRecDepth 100000 in
theorem enc_any (key iv zs : List Nat) (ks vs : Value) (a : Option Addr) (L c : Nat) (hL : zs.length = L) (hk : key.length = 16) (hv : iv.length = 16) (hl : 16 ≤ L) (hm : L ≤ 131072) (w : World) (hK : BytesAt key ks w) (hV : BytesAt iv vs w) (hB : BytesAt zs (.slice a L c) w) :
    Calls Tryd.prog 6 #[ks, vs, .slice a L c] w fun e w' => ∃ s', e = .returned (.tuple #[s', .int .i64 0]) ∧ BytesAt (encL key iv zs) s' w' ∧ Nil0 s' ∧ (∀ j, InS s' j → w.heap.size ≤ j) ∧ Below w.heap.size w w' := by
  subst hL
  have H := Lib.hid (applied_any 14 key iv zs ks vs a c (encL key iv zs) hk hv hl hm w hK hV hB (enters_of Tryd.func14 (by kernel_rfl) rfl) (fun gm gc W hM hB2 => menc_any key iv zs gm gc _ hK.1 hv hV.1 hl hm W hM hB2))
  clear hk hv hl hm hK hV hB
  go_enter Tryd.func6, Tryd.ntmps6
  go_wp2_with fail
  refine H.out.mono ?_
  rintro e w1 ⟨s', rfl, hby, hn0, hin, hb⟩
  have HBY := Lib.hid hby
  have HN0 := Lib.hid hn0
  have HIN := Lib.hid hin
  have HB := Lib.hid hb
  clear hby hn0 hin hb H
  go_wp2_with fail
  go_ret2
  exact ⟨_, rfl, HBY.out, HN0.out, HIN.out, HB.out⟩
end Go.Proofs.YtjcdbjapadgdfaaDoor
