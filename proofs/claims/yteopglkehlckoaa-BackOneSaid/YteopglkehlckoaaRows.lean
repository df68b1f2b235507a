/-
  No cell of these rows narrows 'for every input' (looked for: loops, veiled, ifaces, maps, wideKeys, modest, calm, conditions, laid).
  DERIVED. THE GIVEN ROWS OF THIS SEAT. 6 by the template 'for every input the law returns true; each argument reads behind the call as it read before'; 0 by the template 'total and deterministic' (their statements: YteopglkehlckoaaTotals.lean).
  GIVEN WITH THE SEED: the statements are not yours to turn. If you find one false, say at which input.
  Laid BY PROGRAM, IN A SANDBOX (cutbox-rows.mjs): the forced cells as the released guide's own fill.sh prints them over the translation c4c05ba752814720… (all of the seat's roots in one cut). By AI agents, Wed Nov 11 2026. No macro, syntax, notation, axiom, sorry.
-/
import Derived.Test.YteopglkehlckoaaChecked
import GoSem.Claim
import GoSem.ClaimJoined
import GoSem.ClaimMapViews
import Derived.JoinedTies
import Derived.KernelRfl
namespace Go.Proofs.Yteopglkehlckoaa
/- THE CELL 'sum', in the pinned program and in every row, IS THE sha256 OF THE DUMP (.gsa) THAT YteopglkehlckoaaProg.lean LOADS. Nothing in Lean hashes anything: it is a label: what it is worth is what the hold of that sum in a sandbox is worth. -/
noncomputable def Try.pinned : Pinned := { name := "yteopglkehlckoaa", sum := "c4c05ba75281472099fb8f93fd05fdf42c608a1992e374708b6e27607c340994", checked := Try.checked }
namespace Rows
def none {H : Type} : Left H := { results := [], args := [] }

/-- 'cheesepresslaw03.BackKnown': WHATEVER THE INPUT: true; the input reads as it did. -/
def backKnownSpec : ChangeSpec := { name := "backKnown", fn := fun _ => fun
  | [] => { results := [.lit (.bool true)], args := [] }
  | _ => none }
def backKnownRow : OpenClaim := { program := "yteopglkehlckoaa", sum := "c4c05ba75281472099fb8f93fd05fdf42c608a1992e374708b6e27607c340994", func := "cheesepress/cheesepresslaw03.BackKnown", spec := "backKnown", apart := false }
def BackKnownSaid : Prop := backKnownRow.holds Try.pinned (OpenSpec.ofChange backKnownSpec)

/-- ITS FALSE NEIGHBOUR: 'it returns false'. Refute it at one input. -/
def backKnownWrong : ChangeSpec := { name := "backKnown", fn := fun _ => fun
  | [] => { results := [.lit (.bool false)], args := [] }
  | _ => none }
def BackKnownWrongFalsely : Prop := backKnownRow.holds Try.pinned (OpenSpec.ofChange backKnownWrong)

/-- 'cheesepresslaw03.BackWrites': WHATEVER THE INPUT: true; the input reads as it did. -/
def backWritesSpec : ChangeSpec := { name := "backWrites", fn := fun _ => fun
  | [d1, d2, d3] => { results := [.lit (.bool true)], args := [d1, d2, d3] }
  | _ => none }
def backWritesRow : OpenClaim := { program := "yteopglkehlckoaa", sum := "c4c05ba75281472099fb8f93fd05fdf42c608a1992e374708b6e27607c340994", func := "cheesepress/cheesepresslaw03.BackWrites", spec := "backWrites", apart := false }
def BackWritesSaid : Prop := backWritesRow.holds Try.pinned (OpenSpec.ofChange backWritesSpec)

/-- ITS FALSE NEIGHBOUR: 'it returns false'. Refute it at one input. -/
def backWritesWrong : ChangeSpec := { name := "backWrites", fn := fun _ => fun
  | [d1, d2, d3] => { results := [.lit (.bool false)], args := [d1, d2, d3] }
  | _ => none }
def BackWritesWrongFalsely : Prop := backWritesRow.holds Try.pinned (OpenSpec.ofChange backWritesWrong)

/-- 'cheesepresslaw03.BackReads': WHATEVER THE INPUT: true; the input reads as it did. -/
def backReadsSpec : ChangeSpec := { name := "backReads", fn := fun _ => fun
  | [d1, d2] => { results := [.lit (.bool true)], args := [d1, d2] }
  | _ => none }
def backReadsRow : OpenClaim := { program := "yteopglkehlckoaa", sum := "c4c05ba75281472099fb8f93fd05fdf42c608a1992e374708b6e27607c340994", func := "cheesepress/cheesepresslaw03.BackReads", spec := "backReads", apart := false }
def BackReadsSaid : Prop := backReadsRow.holds Try.pinned (OpenSpec.ofChange backReadsSpec)

/-- ITS FALSE NEIGHBOUR: 'it returns false'. Refute it at one input. -/
def backReadsWrong : ChangeSpec := { name := "backReads", fn := fun _ => fun
  | [d1, d2] => { results := [.lit (.bool false)], args := [d1, d2] }
  | _ => none }
def BackReadsWrongFalsely : Prop := backReadsRow.holds Try.pinned (OpenSpec.ofChange backReadsWrong)

/-- 'cheesepresslaw03.BackTurns': WHATEVER THE INPUT: true; the input reads as it did. -/
def backTurnsSpec : ChangeSpec := { name := "backTurns", fn := fun _ => fun
  | [d1, d2] => { results := [.lit (.bool true)], args := [d1, d2] }
  | _ => none }
def backTurnsRow : OpenClaim := { program := "yteopglkehlckoaa", sum := "c4c05ba75281472099fb8f93fd05fdf42c608a1992e374708b6e27607c340994", func := "cheesepress/cheesepresslaw03.BackTurns", spec := "backTurns", apart := false }
def BackTurnsSaid : Prop := backTurnsRow.holds Try.pinned (OpenSpec.ofChange backTurnsSpec)

/-- ITS FALSE NEIGHBOUR: 'it returns false'. Refute it at one input. -/
def backTurnsWrong : ChangeSpec := { name := "backTurns", fn := fun _ => fun
  | [d1, d2] => { results := [.lit (.bool false)], args := [d1, d2] }
  | _ => none }
def BackTurnsWrongFalsely : Prop := backTurnsRow.holds Try.pinned (OpenSpec.ofChange backTurnsWrong)

/-- 'cheesepresslaw03.BackParts': WHATEVER THE INPUT: true; the input reads as it did. -/
def backPartsSpec : ChangeSpec := { name := "backParts", fn := fun _ => fun
  | [d1, d2, d3] => { results := [.lit (.bool true)], args := [d1, d2, d3] }
  | _ => none }
def backPartsRow : OpenClaim := { program := "yteopglkehlckoaa", sum := "c4c05ba75281472099fb8f93fd05fdf42c608a1992e374708b6e27607c340994", func := "cheesepress/cheesepresslaw03.BackParts", spec := "backParts", apart := false }
def BackPartsSaid : Prop := backPartsRow.holds Try.pinned (OpenSpec.ofChange backPartsSpec)

/-- ITS FALSE NEIGHBOUR: 'it returns false'. Refute it at one input. -/
def backPartsWrong : ChangeSpec := { name := "backParts", fn := fun _ => fun
  | [d1, d2, d3] => { results := [.lit (.bool false)], args := [d1, d2, d3] }
  | _ => none }
def BackPartsWrongFalsely : Prop := backPartsRow.holds Try.pinned (OpenSpec.ofChange backPartsWrong)

/-- 'cheesepresslaw03.BackOne': WHATEVER THE INPUT: true; the input reads as it did. -/
def backOneSpec : ChangeSpec := { name := "backOne", fn := fun _ => fun
  | [d1, d2, d3] => { results := [.lit (.bool true)], args := [d1, d2, d3] }
  | _ => none }
def backOneRow : OpenClaim := { program := "yteopglkehlckoaa", sum := "c4c05ba75281472099fb8f93fd05fdf42c608a1992e374708b6e27607c340994", func := "cheesepress/cheesepresslaw03.BackOne", spec := "backOne", apart := false }
def BackOneSaid : Prop := backOneRow.holds Try.pinned (OpenSpec.ofChange backOneSpec)

/-- ITS FALSE NEIGHBOUR: 'it returns false'. Refute it at one input. -/
def backOneWrong : ChangeSpec := { name := "backOne", fn := fun _ => fun
  | [d1, d2, d3] => { results := [.lit (.bool false)], args := [d1, d2, d3] }
  | _ => none }
def BackOneWrongFalsely : Prop := backOneRow.holds Try.pinned (OpenSpec.ofChange backOneWrong)

/- THE SECOND FORM. 'bulk': how many values and letters a reading holds, each counted each time it is reached (what is shared counts as often as it is met; a slice's spare places count too). A statement '..UptoSaid' is the law's where the arguments, and the package variables that the reading takes, are together of bulk at most 1048576: NARROWER than '..Said'. Prove '..Said' where nothing that the law and all that it calls make is longer than what came in: it says more and counts as full. Else prove '..UptoSaid'. A law counts once. -/
mutual
def uptoBulk {H : Type} : DataW H → Nat
  | .lit (.string bytes) => bytes.length + 1
  | .lit _ => 1
  | .nil => 1
  | .ptr d => uptoBulk d + 1
  | .slice elems spare => uptoBulkAll elems + uptoBulkAll spare + 1
  | .agg parts => uptoBulkAll parts + 1
  | .iface _ d => uptoBulk d + 1
  | .map entries => uptoBulkEntries entries + 1
  | .held _ => 1
def uptoBulkAll {H : Type} : List (DataW H) → Nat
  | [] => 0
  | d :: r => uptoBulk d + uptoBulkAll r
def uptoBulkEntries {H : Type} : List (Lit × DataW H) → Nat
  | [] => 0
  | x :: r => uptoBulkEntry x + uptoBulkEntries r
def uptoBulkEntry {H : Type} : Lit × DataW H → Nat
  | (.string bytes, d) => bytes.length + uptoBulk d + 1
  | (_, d) => uptoBulk d + 1
 end
def uptoSmall : (H : Type) → List (DataW H) → Bool := fun _ ds => decide (uptoBulkAll ds ≤ 1048576)
def OpenSpec.upto (s : _root_.Go.ChangeSpec) : _root_.Go.OpenSpec := { _root_.Go.OpenSpec.ofChange s with cond := some uptoSmall }

/-- 'cheesepresslaw03.BackKnown', WHERE WHAT IT READS IS OF BULK AT MOST 1048576: true; the input reads as it did. -/
def backKnownUptoRow : OpenClaim := { program := "yteopglkehlckoaa", sum := "c4c05ba75281472099fb8f93fd05fdf42c608a1992e374708b6e27607c340994", func := "cheesepress/cheesepresslaw03.BackKnown", spec := "backKnown", apart := false, narrowed := true }
def BackKnownUptoSaid : Prop := backKnownUptoRow.holds Try.pinned (OpenSpec.upto backKnownSpec)

/-- 'cheesepresslaw03.BackWrites', WHERE WHAT IT READS IS OF BULK AT MOST 1048576: true; the input reads as it did. -/
def backWritesUptoRow : OpenClaim := { program := "yteopglkehlckoaa", sum := "c4c05ba75281472099fb8f93fd05fdf42c608a1992e374708b6e27607c340994", func := "cheesepress/cheesepresslaw03.BackWrites", spec := "backWrites", apart := false, narrowed := true }
def BackWritesUptoSaid : Prop := backWritesUptoRow.holds Try.pinned (OpenSpec.upto backWritesSpec)

/-- 'cheesepresslaw03.BackReads', WHERE WHAT IT READS IS OF BULK AT MOST 1048576: true; the input reads as it did. -/
def backReadsUptoRow : OpenClaim := { program := "yteopglkehlckoaa", sum := "c4c05ba75281472099fb8f93fd05fdf42c608a1992e374708b6e27607c340994", func := "cheesepress/cheesepresslaw03.BackReads", spec := "backReads", apart := false, narrowed := true }
def BackReadsUptoSaid : Prop := backReadsUptoRow.holds Try.pinned (OpenSpec.upto backReadsSpec)

/-- 'cheesepresslaw03.BackTurns', WHERE WHAT IT READS IS OF BULK AT MOST 1048576: true; the input reads as it did. -/
def backTurnsUptoRow : OpenClaim := { program := "yteopglkehlckoaa", sum := "c4c05ba75281472099fb8f93fd05fdf42c608a1992e374708b6e27607c340994", func := "cheesepress/cheesepresslaw03.BackTurns", spec := "backTurns", apart := false, narrowed := true }
def BackTurnsUptoSaid : Prop := backTurnsUptoRow.holds Try.pinned (OpenSpec.upto backTurnsSpec)

/-- 'cheesepresslaw03.BackParts', WHERE WHAT IT READS IS OF BULK AT MOST 1048576: true; the input reads as it did. -/
def backPartsUptoRow : OpenClaim := { program := "yteopglkehlckoaa", sum := "c4c05ba75281472099fb8f93fd05fdf42c608a1992e374708b6e27607c340994", func := "cheesepress/cheesepresslaw03.BackParts", spec := "backParts", apart := false, narrowed := true }
def BackPartsUptoSaid : Prop := backPartsUptoRow.holds Try.pinned (OpenSpec.upto backPartsSpec)

/-- 'cheesepresslaw03.BackOne', WHERE WHAT IT READS IS OF BULK AT MOST 1048576: true; the input reads as it did. -/
def backOneUptoRow : OpenClaim := { program := "yteopglkehlckoaa", sum := "c4c05ba75281472099fb8f93fd05fdf42c608a1992e374708b6e27607c340994", func := "cheesepress/cheesepresslaw03.BackOne", spec := "backOne", apart := false, narrowed := true }
def BackOneUptoSaid : Prop := backOneUptoRow.holds Try.pinned (OpenSpec.upto backOneSpec)

end Rows
end Go.Proofs.Yteopglkehlckoaa
