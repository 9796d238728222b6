/-
  No cell of these rows narrows 'for every input' (looked for: loops, veiled, ifaces, maps, wideKeys, modest, calm, conditions, laid).
  DERIVED. THE GIVEN ROWS OF THIS SEAT. 3 by the template 'for every input the law returns true; each argument reads behind the call as it read before'; 0 by the template 'total and deterministic' (their statements: YtjcdbjapadgdfaaTotals.lean).
  GIVEN WITH THE SEED: the statements are not yours to turn. If you find one false, say at which input.
  Laid BY PROGRAM, IN A SANDBOX (cutbox-rows.mjs): the forced cells as the released guide's own fill.sh prints them over the translation bd9a0cf3cda95d41… (all of the seat's roots in one cut). By AI agents, Wed Nov 11 2026. No macro, syntax, notation, axiom, sorry.
-/
import Derived.Test.YtjcdbjapadgdfaaChecked
import GoSem.Claim
import GoSem.ClaimJoined
import GoSem.ClaimMapViews
import Derived.JoinedTies
import Derived.KernelRfl
namespace Go.Proofs.Ytjcdbjapadgdfaa
/- THE CELL 'sum', in the pinned program and in every row, IS THE sha256 OF THE DUMP (.gsa) THAT YtjcdbjapadgdfaaProg.lean LOADS. Nothing in Lean hashes anything: it is a label: what it is worth is what the hold of that sum in a sandbox is worth. -/
noncomputable def Try.pinned : Pinned := { name := "ytjcdbjapadgdfaa", sum := "bd9a0cf3cda95d416c94dcbe4288c63004e0a5202444ecb9b5d1d6150851f37e", checked := Try.checked }
namespace Rows
def none {H : Type} : Left H := { results := [], args := [] }

/-- 'watchwordlaw07.CtsLong': WHATEVER THE INPUT: true; the input reads as it did. -/
def ctsLongSpec : ChangeSpec := { name := "ctsLong", fn := fun _ => fun
  | [d1, d2] => { results := [.lit (.bool true)], args := [d1, d2] }
  | _ => none }
def ctsLongRow : OpenClaim := { program := "ytjcdbjapadgdfaa", sum := "bd9a0cf3cda95d416c94dcbe4288c63004e0a5202444ecb9b5d1d6150851f37e", func := "watchword/watchwordlaw07.CtsLong", spec := "ctsLong", unfollowed := true, recurses := true, apart := false }
def CtsLongSaid : Prop := ctsLongRow.holds Try.pinned (OpenSpec.ofChange ctsLongSpec)

/-- ITS FALSE NEIGHBOUR: 'it returns false'. Refute it at one input. -/
def ctsLongWrong : ChangeSpec := { name := "ctsLong", fn := fun _ => fun
  | [d1, d2] => { results := [.lit (.bool false)], args := [d1, d2] }
  | _ => none }
def CtsLongWrongFalsely : Prop := ctsLongRow.holds Try.pinned (OpenSpec.ofChange ctsLongWrong)

/-- 'watchwordlaw07.CtsInverts': WHATEVER THE INPUT: true; the input reads as it did. -/
def ctsInvertsSpec : ChangeSpec := { name := "ctsInverts", fn := fun _ => fun
  | [d1, d2, d3, d4] => { results := [.lit (.bool true)], args := [d1, d2, d3, d4] }
  | _ => none }
def ctsInvertsRow : OpenClaim := { program := "ytjcdbjapadgdfaa", sum := "bd9a0cf3cda95d416c94dcbe4288c63004e0a5202444ecb9b5d1d6150851f37e", func := "watchword/watchwordlaw07.CtsInverts", spec := "ctsInverts", unfollowed := true, recurses := true, apart := false }
def CtsInvertsSaid : Prop := ctsInvertsRow.holds Try.pinned (OpenSpec.ofChange ctsInvertsSpec)

/-- ITS FALSE NEIGHBOUR: 'it returns false'. Refute it at one input. -/
def ctsInvertsWrong : ChangeSpec := { name := "ctsInverts", fn := fun _ => fun
  | [d1, d2, d3, d4] => { results := [.lit (.bool false)], args := [d1, d2, d3, d4] }
  | _ => none }
def CtsInvertsWrongFalsely : Prop := ctsInvertsRow.holds Try.pinned (OpenSpec.ofChange ctsInvertsWrong)

/-- 'watchwordlaw07.CtsExchanges': WHATEVER THE INPUT: true; the input reads as it did. -/
def ctsExchangesSpec : ChangeSpec := { name := "ctsExchanges", fn := fun _ => fun
  | [d1, d2, d3] => { results := [.lit (.bool true)], args := [d1, d2, d3] }
  | _ => none }
def ctsExchangesRow : OpenClaim := { program := "ytjcdbjapadgdfaa", sum := "bd9a0cf3cda95d416c94dcbe4288c63004e0a5202444ecb9b5d1d6150851f37e", func := "watchword/watchwordlaw07.CtsExchanges", spec := "ctsExchanges", unfollowed := true, recurses := true, apart := false }
def CtsExchangesSaid : Prop := ctsExchangesRow.holds Try.pinned (OpenSpec.ofChange ctsExchangesSpec)

/-- ITS FALSE NEIGHBOUR: 'it returns false'. Refute it at one input. -/
def ctsExchangesWrong : ChangeSpec := { name := "ctsExchanges", fn := fun _ => fun
  | [d1, d2, d3] => { results := [.lit (.bool false)], args := [d1, d2, d3] }
  | _ => none }
def CtsExchangesWrongFalsely : Prop := ctsExchangesRow.holds Try.pinned (OpenSpec.ofChange ctsExchangesWrong)

/- THE SECOND FORM. 'bulk': how many values and letters a reading holds, each counted each time it is reached (what is shared counts as often as it is met; a slice's spare places count too). A statement '..UptoSaid' is the law's where the arguments, and the package variables that the reading takes, are together of bulk at most 1048576: NARROWER than '..Said'. Prove '..Said' where nothing that the law and all that it calls make is longer than what came in: it says more and counts as full. Else prove '..UptoSaid'. A law counts once. -/
mutual
def uptoBulk {H : Type} : DataW H → Nat
  | .lit (.string bytes) => bytes.length + 1
  | .lit _ => 1
  | .nil => 1
  | .ptr d => uptoBulk d + 1
  | .slice elems spare => uptoBulkAll elems + uptoBulkAll spare + 1
  | .agg parts => uptoBulkAll parts + 1
  | .iface _ d => uptoBulk d + 1
  | .map entries => uptoBulkEntries entries + 1
  | .held _ => 1
def uptoBulkAll {H : Type} : List (DataW H) → Nat
  | [] => 0
  | d :: r => uptoBulk d + uptoBulkAll r
def uptoBulkEntries {H : Type} : List (Lit × DataW H) → Nat
  | [] => 0
  | x :: r => uptoBulkEntry x + uptoBulkEntries r
def uptoBulkEntry {H : Type} : Lit × DataW H → Nat
  | (.string bytes, d) => bytes.length + uptoBulk d + 1
  | (_, d) => uptoBulk d + 1
 end
def uptoSmall : (H : Type) → List (DataW H) → Bool := fun _ ds => decide (uptoBulkAll ds ≤ 1048576)
def OpenSpec.upto (s : _root_.Go.ChangeSpec) : _root_.Go.OpenSpec := { _root_.Go.OpenSpec.ofChange s with cond := some uptoSmall }

/-- 'watchwordlaw07.CtsLong', WHERE WHAT IT READS IS OF BULK AT MOST 1048576: true; the input reads as it did. -/
def ctsLongUptoRow : OpenClaim := { program := "ytjcdbjapadgdfaa", sum := "bd9a0cf3cda95d416c94dcbe4288c63004e0a5202444ecb9b5d1d6150851f37e", func := "watchword/watchwordlaw07.CtsLong", spec := "ctsLong", unfollowed := true, recurses := true, apart := false, narrowed := true }
def CtsLongUptoSaid : Prop := ctsLongUptoRow.holds Try.pinned (OpenSpec.upto ctsLongSpec)

/-- 'watchwordlaw07.CtsInverts', WHERE WHAT IT READS IS OF BULK AT MOST 1048576: true; the input reads as it did. -/
def ctsInvertsUptoRow : OpenClaim := { program := "ytjcdbjapadgdfaa", sum := "bd9a0cf3cda95d416c94dcbe4288c63004e0a5202444ecb9b5d1d6150851f37e", func := "watchword/watchwordlaw07.CtsInverts", spec := "ctsInverts", unfollowed := true, recurses := true, apart := false, narrowed := true }
def CtsInvertsUptoSaid : Prop := ctsInvertsUptoRow.holds Try.pinned (OpenSpec.upto ctsInvertsSpec)

/-- 'watchwordlaw07.CtsExchanges', WHERE WHAT IT READS IS OF BULK AT MOST 1048576: true; the input reads as it did. -/
def ctsExchangesUptoRow : OpenClaim := { program := "ytjcdbjapadgdfaa", sum := "bd9a0cf3cda95d416c94dcbe4288c63004e0a5202444ecb9b5d1d6150851f37e", func := "watchword/watchwordlaw07.CtsExchanges", spec := "ctsExchanges", unfollowed := true, recurses := true, apart := false, narrowed := true }
def CtsExchangesUptoSaid : Prop := ctsExchangesUptoRow.holds Try.pinned (OpenSpec.upto ctsExchangesSpec)

end Rows
end Go.Proofs.Ytjcdbjapadgdfaa
