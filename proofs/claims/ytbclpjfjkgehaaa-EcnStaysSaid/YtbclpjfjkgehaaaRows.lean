/-
  No cell of these rows narrows 'for every input' (looked for: loops, veiled, ifaces, maps, wideKeys, modest, calm, conditions, laid).
  DERIVED. THE GIVEN ROWS OF THIS SEAT. 5 by the template 'for every input the law returns true; each argument reads behind the call as it read before'; 0 by the template 'total and deterministic' (their statements: YtbclpjfjkgehaaaTotals.lean).
  GIVEN WITH THE SEED: the statements are not yours to turn. If you find one false, say at which input.
  Laid BY PROGRAM, IN A SANDBOX (cutbox-rows.mjs): the forced cells as the released guide's own fill.sh prints them over the translation 12fb7613e4102cd3… (all of the seat's roots in one cut). By AI agents, Wed Nov 11 2026. No macro, syntax, notation, axiom, sorry.
-/
import Derived.Test.YtbclpjfjkgehaaaChecked
import GoSem.Claim
import GoSem.ClaimJoined
import GoSem.ClaimMapViews
import Derived.JoinedTies
import Derived.KernelRfl
namespace Go.Proofs.Ytbclpjfjkgehaaa
/- THE CELL 'sum', in the pinned program and in every row, IS THE sha256 OF THE DUMP (.gsa) THAT YtbclpjfjkgehaaaProg.lean LOADS. Nothing in Lean hashes anything: it is a label: what it is worth is what the hold of that sum in a sandbox is worth. -/
noncomputable def Try.pinned : Pinned := { name := "ytbclpjfjkgehaaa", sum := "12fb7613e4102cd341eb6e86ba6ecee69a1d6109f55d2b1dc0ac09f91621793b", checked := Try.checked }
namespace Rows
def none {H : Type} : Left H := { results := [], args := [] }

/-- 'sounderlaw12.EcnTells': WHATEVER THE INPUT: true; the input reads as it did. -/
def ecnTellsSpec : ChangeSpec := { name := "ecnTells", fn := fun _ => fun
  | [d1, d2, d3] => { results := [.lit (.bool true)], args := [d1, d2, d3] }
  | _ => none }
def ecnTellsRow : OpenClaim := { program := "ytbclpjfjkgehaaa", sum := "12fb7613e4102cd341eb6e86ba6ecee69a1d6109f55d2b1dc0ac09f91621793b", func := "sounder/sounderlaw12.EcnTells", spec := "ecnTells", apart := false }
def EcnTellsSaid : Prop := ecnTellsRow.holds Try.pinned (OpenSpec.ofChange ecnTellsSpec)

/-- ITS FALSE NEIGHBOUR: 'it returns false'. Refute it at one input. -/
def ecnTellsWrong : ChangeSpec := { name := "ecnTells", fn := fun _ => fun
  | [d1, d2, d3] => { results := [.lit (.bool false)], args := [d1, d2, d3] }
  | _ => none }
def EcnTellsWrongFalsely : Prop := ecnTellsRow.holds Try.pinned (OpenSpec.ofChange ecnTellsWrong)

/-- 'sounderlaw12.EcnFails': WHATEVER THE INPUT: true; the input reads as it did. -/
def ecnFailsSpec : ChangeSpec := { name := "ecnFails", fn := fun _ => fun
  | [d1, d2, d3] => { results := [.lit (.bool true)], args := [d1, d2, d3] }
  | _ => none }
def ecnFailsRow : OpenClaim := { program := "ytbclpjfjkgehaaa", sum := "12fb7613e4102cd341eb6e86ba6ecee69a1d6109f55d2b1dc0ac09f91621793b", func := "sounder/sounderlaw12.EcnFails", spec := "ecnFails", apart := false }
def EcnFailsSaid : Prop := ecnFailsRow.holds Try.pinned (OpenSpec.ofChange ecnFailsSpec)

/-- ITS FALSE NEIGHBOUR: 'it returns false'. Refute it at one input. -/
def ecnFailsWrong : ChangeSpec := { name := "ecnFails", fn := fun _ => fun
  | [d1, d2, d3] => { results := [.lit (.bool false)], args := [d1, d2, d3] }
  | _ => none }
def EcnFailsWrongFalsely : Prop := ecnFailsRow.holds Try.pinned (OpenSpec.ofChange ecnFailsWrong)

/-- 'sounderlaw12.EcnStays': WHATEVER THE INPUT: true; the input reads as it did. -/
def ecnStaysSpec : ChangeSpec := { name := "ecnStays", fn := fun _ => fun
  | [d1, d2] => { results := [.lit (.bool true)], args := [d1, d2] }
  | _ => none }
def ecnStaysRow : OpenClaim := { program := "ytbclpjfjkgehaaa", sum := "12fb7613e4102cd341eb6e86ba6ecee69a1d6109f55d2b1dc0ac09f91621793b", func := "sounder/sounderlaw12.EcnStays", spec := "ecnStays", apart := false }
def EcnStaysSaid : Prop := ecnStaysRow.holds Try.pinned (OpenSpec.ofChange ecnStaysSpec)

/-- ITS FALSE NEIGHBOUR: 'it returns false'. Refute it at one input. -/
def ecnStaysWrong : ChangeSpec := { name := "ecnStays", fn := fun _ => fun
  | [d1, d2] => { results := [.lit (.bool false)], args := [d1, d2] }
  | _ => none }
def EcnStaysWrongFalsely : Prop := ecnStaysRow.holds Try.pinned (OpenSpec.ofChange ecnStaysWrong)

/-- 'sounderlaw12.EcnGrows': WHATEVER THE INPUT: true; the input reads as it did. -/
def ecnGrowsSpec : ChangeSpec := { name := "ecnGrows", fn := fun _ => fun
  | [d1, d2, d3] => { results := [.lit (.bool true)], args := [d1, d2, d3] }
  | _ => none }
def ecnGrowsRow : OpenClaim := { program := "ytbclpjfjkgehaaa", sum := "12fb7613e4102cd341eb6e86ba6ecee69a1d6109f55d2b1dc0ac09f91621793b", func := "sounder/sounderlaw12.EcnGrows", spec := "ecnGrows", apart := false }
def EcnGrowsSaid : Prop := ecnGrowsRow.holds Try.pinned (OpenSpec.ofChange ecnGrowsSpec)

/-- ITS FALSE NEIGHBOUR: 'it returns false'. Refute it at one input. -/
def ecnGrowsWrong : ChangeSpec := { name := "ecnGrows", fn := fun _ => fun
  | [d1, d2, d3] => { results := [.lit (.bool false)], args := [d1, d2, d3] }
  | _ => none }
def EcnGrowsWrongFalsely : Prop := ecnGrowsRow.holds Try.pinned (OpenSpec.ofChange ecnGrowsWrong)

/-- 'sounderlaw12.EcnKnown': WHATEVER THE INPUT: true; the input reads as it did. -/
def ecnKnownSpec : ChangeSpec := { name := "ecnKnown", fn := fun _ => fun
  | [] => { results := [.lit (.bool true)], args := [] }
  | _ => none }
def ecnKnownRow : OpenClaim := { program := "ytbclpjfjkgehaaa", sum := "12fb7613e4102cd341eb6e86ba6ecee69a1d6109f55d2b1dc0ac09f91621793b", func := "sounder/sounderlaw12.EcnKnown", spec := "ecnKnown", apart := false }
def EcnKnownSaid : Prop := ecnKnownRow.holds Try.pinned (OpenSpec.ofChange ecnKnownSpec)

/-- ITS FALSE NEIGHBOUR: 'it returns false'. Refute it at one input. -/
def ecnKnownWrong : ChangeSpec := { name := "ecnKnown", fn := fun _ => fun
  | [] => { results := [.lit (.bool false)], args := [] }
  | _ => none }
def EcnKnownWrongFalsely : Prop := ecnKnownRow.holds Try.pinned (OpenSpec.ofChange ecnKnownWrong)

/- THE SECOND FORM. 'bulk': how many values and letters a reading holds, each counted each time it is reached (what is shared counts as often as it is met; a slice's spare places count too). A statement '..UptoSaid' is the law's where the arguments, and the package variables that the reading takes, are together of bulk at most 1048576: NARROWER than '..Said'. Prove '..Said' where nothing that the law and all that it calls make is longer than what came in: it says more and counts as full. Else prove '..UptoSaid'. A law counts once. -/
mutual
def uptoBulk {H : Type} : DataW H → Nat
  | .lit (.string bytes) => bytes.length + 1
  | .lit _ => 1
  | .nil => 1
  | .ptr d => uptoBulk d + 1
  | .slice elems spare => uptoBulkAll elems + uptoBulkAll spare + 1
  | .agg parts => uptoBulkAll parts + 1
  | .iface _ d => uptoBulk d + 1
  | .map entries => uptoBulkEntries entries + 1
  | .held _ => 1
def uptoBulkAll {H : Type} : List (DataW H) → Nat
  | [] => 0
  | d :: r => uptoBulk d + uptoBulkAll r
def uptoBulkEntries {H : Type} : List (Lit × DataW H) → Nat
  | [] => 0
  | x :: r => uptoBulkEntry x + uptoBulkEntries r
def uptoBulkEntry {H : Type} : Lit × DataW H → Nat
  | (.string bytes, d) => bytes.length + uptoBulk d + 1
  | (_, d) => uptoBulk d + 1
 end
def uptoSmall : (H : Type) → List (DataW H) → Bool := fun _ ds => decide (uptoBulkAll ds ≤ 1048576)
def OpenSpec.upto (s : _root_.Go.ChangeSpec) : _root_.Go.OpenSpec := { _root_.Go.OpenSpec.ofChange s with cond := some uptoSmall }

/-- 'sounderlaw12.EcnTells', WHERE WHAT IT READS IS OF BULK AT MOST 1048576: true; the input reads as it did. -/
def ecnTellsUptoRow : OpenClaim := { program := "ytbclpjfjkgehaaa", sum := "12fb7613e4102cd341eb6e86ba6ecee69a1d6109f55d2b1dc0ac09f91621793b", func := "sounder/sounderlaw12.EcnTells", spec := "ecnTells", apart := false, narrowed := true }
def EcnTellsUptoSaid : Prop := ecnTellsUptoRow.holds Try.pinned (OpenSpec.upto ecnTellsSpec)

/-- 'sounderlaw12.EcnFails', WHERE WHAT IT READS IS OF BULK AT MOST 1048576: true; the input reads as it did. -/
def ecnFailsUptoRow : OpenClaim := { program := "ytbclpjfjkgehaaa", sum := "12fb7613e4102cd341eb6e86ba6ecee69a1d6109f55d2b1dc0ac09f91621793b", func := "sounder/sounderlaw12.EcnFails", spec := "ecnFails", apart := false, narrowed := true }
def EcnFailsUptoSaid : Prop := ecnFailsUptoRow.holds Try.pinned (OpenSpec.upto ecnFailsSpec)

/-- 'sounderlaw12.EcnStays', WHERE WHAT IT READS IS OF BULK AT MOST 1048576: true; the input reads as it did. -/
def ecnStaysUptoRow : OpenClaim := { program := "ytbclpjfjkgehaaa", sum := "12fb7613e4102cd341eb6e86ba6ecee69a1d6109f55d2b1dc0ac09f91621793b", func := "sounder/sounderlaw12.EcnStays", spec := "ecnStays", apart := false, narrowed := true }
def EcnStaysUptoSaid : Prop := ecnStaysUptoRow.holds Try.pinned (OpenSpec.upto ecnStaysSpec)

/-- 'sounderlaw12.EcnGrows', WHERE WHAT IT READS IS OF BULK AT MOST 1048576: true; the input reads as it did. -/
def ecnGrowsUptoRow : OpenClaim := { program := "ytbclpjfjkgehaaa", sum := "12fb7613e4102cd341eb6e86ba6ecee69a1d6109f55d2b1dc0ac09f91621793b", func := "sounder/sounderlaw12.EcnGrows", spec := "ecnGrows", apart := false, narrowed := true }
def EcnGrowsUptoSaid : Prop := ecnGrowsUptoRow.holds Try.pinned (OpenSpec.upto ecnGrowsSpec)

/-- 'sounderlaw12.EcnKnown', WHERE WHAT IT READS IS OF BULK AT MOST 1048576: true; the input reads as it did. -/
def ecnKnownUptoRow : OpenClaim := { program := "ytbclpjfjkgehaaa", sum := "12fb7613e4102cd341eb6e86ba6ecee69a1d6109f55d2b1dc0ac09f91621793b", func := "sounder/sounderlaw12.EcnKnown", spec := "ecnKnown", apart := false, narrowed := true }
def EcnKnownUptoSaid : Prop := ecnKnownUptoRow.holds Try.pinned (OpenSpec.upto ecnKnownSpec)

end Rows
end Go.Proofs.Ytbclpjfjkgehaaa
