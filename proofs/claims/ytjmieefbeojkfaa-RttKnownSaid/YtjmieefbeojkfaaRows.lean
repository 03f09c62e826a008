/-
  No cell of these rows narrows 'for every input' (looked for: loops, veiled, ifaces, maps, wideKeys, modest, calm, conditions, laid).
  DERIVED. THE GIVEN ROWS OF THIS SEAT. 8 by the template 'for every input the law returns true; each argument reads behind the call as it read before'; 0 by the template 'total and deterministic' (their statements: YtjmieefbeojkfaaTotals.lean).
  GIVEN WITH THE SEED: the statements are not yours to turn. If you find one false, say at which input.
  Laid BY PROGRAM, IN A SANDBOX (cutbox-rows.mjs): the forced cells as the released guide's own fill.sh prints them over the translation 5be494f6c66298bc… (all of the seat's roots in one cut). By AI agents, Wed Nov 11 2026. No macro, syntax, notation, axiom, sorry.
-/
import Derived.Test.YtjmieefbeojkfaaChecked
import GoSem.Claim
import GoSem.ClaimJoined
import GoSem.ClaimMapViews
import Derived.JoinedTies
import Derived.KernelRfl
namespace Go.Proofs.Ytjmieefbeojkfaa
/- THE CELL 'sum', in the pinned program and in every row, IS THE sha256 OF THE DUMP (.gsa) THAT YtjmieefbeojkfaaProg.lean LOADS. Nothing in Lean hashes anything: it is a label: what it is worth is what the hold of that sum in a sandbox is worth. -/
noncomputable def Try.pinned : Pinned := { name := "ytjmieefbeojkfaa", sum := "5be494f6c66298bcc6ac8a2350a873de250e78e9d4d4c75f05374446d085b3e6", checked := Try.checked }
namespace Rows
def none {H : Type} : Left H := { results := [], args := [] }

/-- 'sounderlaw07.RttTells': WHATEVER THE INPUT: true; the input reads as it did. -/
def rttTellsSpec : ChangeSpec := { name := "rttTells", fn := fun _ => fun
  | [d1, d2, d3] => { results := [.lit (.bool true)], args := [d1, d2, d3] }
  | _ => none }
def rttTellsRow : OpenClaim := { program := "ytjmieefbeojkfaa", sum := "5be494f6c66298bcc6ac8a2350a873de250e78e9d4d4c75f05374446d085b3e6", func := "sounder/sounderlaw07.RttTells", spec := "rttTells", unfollowed := true, recurses := true, apart := false }
def RttTellsSaid : Prop := rttTellsRow.holds Try.pinned (OpenSpec.ofChange rttTellsSpec)

/-- ITS FALSE NEIGHBOUR: 'it returns false'. Refute it at one input. -/
def rttTellsWrong : ChangeSpec := { name := "rttTells", fn := fun _ => fun
  | [d1, d2, d3] => { results := [.lit (.bool false)], args := [d1, d2, d3] }
  | _ => none }
def RttTellsWrongFalsely : Prop := rttTellsRow.holds Try.pinned (OpenSpec.ofChange rttTellsWrong)

/-- 'sounderlaw07.RttHolds': WHATEVER THE INPUT: true; the input reads as it did. -/
def rttHoldsSpec : ChangeSpec := { name := "rttHolds", fn := fun _ => fun
  | [d1, d2, d3] => { results := [.lit (.bool true)], args := [d1, d2, d3] }
  | _ => none }
def rttHoldsRow : OpenClaim := { program := "ytjmieefbeojkfaa", sum := "5be494f6c66298bcc6ac8a2350a873de250e78e9d4d4c75f05374446d085b3e6", func := "sounder/sounderlaw07.RttHolds", spec := "rttHolds", unfollowed := true, recurses := true, apart := false }
def RttHoldsSaid : Prop := rttHoldsRow.holds Try.pinned (OpenSpec.ofChange rttHoldsSpec)

/-- ITS FALSE NEIGHBOUR: 'it returns false'. Refute it at one input. -/
def rttHoldsWrong : ChangeSpec := { name := "rttHolds", fn := fun _ => fun
  | [d1, d2, d3] => { results := [.lit (.bool false)], args := [d1, d2, d3] }
  | _ => none }
def RttHoldsWrongFalsely : Prop := rttHoldsRow.holds Try.pinned (OpenSpec.ofChange rttHoldsWrong)

/-- 'sounderlaw07.RttRuns': WHATEVER THE INPUT: true; the input reads as it did. -/
def rttRunsSpec : ChangeSpec := { name := "rttRuns", fn := fun _ => fun
  | [d1, d2] => { results := [.lit (.bool true)], args := [d1, d2] }
  | _ => none }
def rttRunsRow : OpenClaim := { program := "ytjmieefbeojkfaa", sum := "5be494f6c66298bcc6ac8a2350a873de250e78e9d4d4c75f05374446d085b3e6", func := "sounder/sounderlaw07.RttRuns", spec := "rttRuns", unfollowed := true, recurses := true, apart := false }
def RttRunsSaid : Prop := rttRunsRow.holds Try.pinned (OpenSpec.ofChange rttRunsSpec)

/-- ITS FALSE NEIGHBOUR: 'it returns false'. Refute it at one input. -/
def rttRunsWrong : ChangeSpec := { name := "rttRuns", fn := fun _ => fun
  | [d1, d2] => { results := [.lit (.bool false)], args := [d1, d2] }
  | _ => none }
def RttRunsWrongFalsely : Prop := rttRunsRow.holds Try.pinned (OpenSpec.ofChange rttRunsWrong)

/-- 'sounderlaw07.RttBounds': WHATEVER THE INPUT: true; the input reads as it did. -/
def rttBoundsSpec : ChangeSpec := { name := "rttBounds", fn := fun _ => fun
  | [d] => { results := [.lit (.bool true)], args := [d] }
  | _ => none }
def rttBoundsRow : OpenClaim := { program := "ytjmieefbeojkfaa", sum := "5be494f6c66298bcc6ac8a2350a873de250e78e9d4d4c75f05374446d085b3e6", func := "sounder/sounderlaw07.RttBounds", spec := "rttBounds", unfollowed := true, recurses := true, apart := false }
def RttBoundsSaid : Prop := rttBoundsRow.holds Try.pinned (OpenSpec.ofChange rttBoundsSpec)

/-- ITS FALSE NEIGHBOUR: 'it returns false'. Refute it at one input. -/
def rttBoundsWrong : ChangeSpec := { name := "rttBounds", fn := fun _ => fun
  | [d] => { results := [.lit (.bool false)], args := [d] }
  | _ => none }
def RttBoundsWrongFalsely : Prop := rttBoundsRow.holds Try.pinned (OpenSpec.ofChange rttBoundsWrong)

/-- 'sounderlaw07.RttSteady': WHATEVER THE INPUT: true; the input reads as it did. -/
def rttSteadySpec : ChangeSpec := { name := "rttSteady", fn := fun _ => fun
  | [d1, d2] => { results := [.lit (.bool true)], args := [d1, d2] }
  | _ => none }
def rttSteadyRow : OpenClaim := { program := "ytjmieefbeojkfaa", sum := "5be494f6c66298bcc6ac8a2350a873de250e78e9d4d4c75f05374446d085b3e6", func := "sounder/sounderlaw07.RttSteady", spec := "rttSteady", unfollowed := true, recurses := true, apart := false }
def RttSteadySaid : Prop := rttSteadyRow.holds Try.pinned (OpenSpec.ofChange rttSteadySpec)

/-- ITS FALSE NEIGHBOUR: 'it returns false'. Refute it at one input. -/
def rttSteadyWrong : ChangeSpec := { name := "rttSteady", fn := fun _ => fun
  | [d1, d2] => { results := [.lit (.bool false)], args := [d1, d2] }
  | _ => none }
def RttSteadyWrongFalsely : Prop := rttSteadyRow.holds Try.pinned (OpenSpec.ofChange rttSteadyWrong)

/-- 'sounderlaw07.RttOrder': WHATEVER THE INPUT: true; the input reads as it did. -/
def rttOrderSpec : ChangeSpec := { name := "rttOrder", fn := fun _ => fun
  | [d1, d2] => { results := [.lit (.bool true)], args := [d1, d2] }
  | _ => none }
def rttOrderRow : OpenClaim := { program := "ytjmieefbeojkfaa", sum := "5be494f6c66298bcc6ac8a2350a873de250e78e9d4d4c75f05374446d085b3e6", func := "sounder/sounderlaw07.RttOrder", spec := "rttOrder", unfollowed := true, recurses := true, apart := false }
def RttOrderSaid : Prop := rttOrderRow.holds Try.pinned (OpenSpec.ofChange rttOrderSpec)

/-- ITS FALSE NEIGHBOUR: 'it returns false'. Refute it at one input. -/
def rttOrderWrong : ChangeSpec := { name := "rttOrder", fn := fun _ => fun
  | [d1, d2] => { results := [.lit (.bool false)], args := [d1, d2] }
  | _ => none }
def RttOrderWrongFalsely : Prop := rttOrderRow.holds Try.pinned (OpenSpec.ofChange rttOrderWrong)

/-- 'sounderlaw07.RttHeld': WHATEVER THE INPUT: true; the input reads as it did. -/
def rttHeldSpec : ChangeSpec := { name := "rttHeld", fn := fun _ => fun
  | [d1, d2, d3] => { results := [.lit (.bool true)], args := [d1, d2, d3] }
  | _ => none }
def rttHeldRow : OpenClaim := { program := "ytjmieefbeojkfaa", sum := "5be494f6c66298bcc6ac8a2350a873de250e78e9d4d4c75f05374446d085b3e6", func := "sounder/sounderlaw07.RttHeld", spec := "rttHeld", unfollowed := true, recurses := true, apart := false }
def RttHeldSaid : Prop := rttHeldRow.holds Try.pinned (OpenSpec.ofChange rttHeldSpec)

/-- ITS FALSE NEIGHBOUR: 'it returns false'. Refute it at one input. -/
def rttHeldWrong : ChangeSpec := { name := "rttHeld", fn := fun _ => fun
  | [d1, d2, d3] => { results := [.lit (.bool false)], args := [d1, d2, d3] }
  | _ => none }
def RttHeldWrongFalsely : Prop := rttHeldRow.holds Try.pinned (OpenSpec.ofChange rttHeldWrong)

/-- 'sounderlaw07.RttKnown': WHATEVER THE INPUT: true; the input reads as it did. -/
def rttKnownSpec : ChangeSpec := { name := "rttKnown", fn := fun _ => fun
  | [] => { results := [.lit (.bool true)], args := [] }
  | _ => none }
def rttKnownRow : OpenClaim := { program := "ytjmieefbeojkfaa", sum := "5be494f6c66298bcc6ac8a2350a873de250e78e9d4d4c75f05374446d085b3e6", func := "sounder/sounderlaw07.RttKnown", spec := "rttKnown", unfollowed := true, recurses := true, apart := false }
def RttKnownSaid : Prop := rttKnownRow.holds Try.pinned (OpenSpec.ofChange rttKnownSpec)

/-- ITS FALSE NEIGHBOUR: 'it returns false'. Refute it at one input. -/
def rttKnownWrong : ChangeSpec := { name := "rttKnown", fn := fun _ => fun
  | [] => { results := [.lit (.bool false)], args := [] }
  | _ => none }
def RttKnownWrongFalsely : Prop := rttKnownRow.holds Try.pinned (OpenSpec.ofChange rttKnownWrong)

/- THE SECOND FORM. 'bulk': how many values and letters a reading holds, each counted each time it is reached (what is shared counts as often as it is met; a slice's spare places count too). A statement '..UptoSaid' is the law's where the arguments, and the package variables that the reading takes, are together of bulk at most 1048576: NARROWER than '..Said'. Prove '..Said' where nothing that the law and all that it calls make is longer than what came in: it says more and counts as full. Else prove '..UptoSaid'. A law counts once. -/
mutual
def uptoBulk {H : Type} : DataW H → Nat
  | .lit (.string bytes) => bytes.length + 1
  | .lit _ => 1
  | .nil => 1
  | .ptr d => uptoBulk d + 1
  | .slice elems spare => uptoBulkAll elems + uptoBulkAll spare + 1
  | .agg parts => uptoBulkAll parts + 1
  | .iface _ d => uptoBulk d + 1
  | .map entries => uptoBulkEntries entries + 1
  | .held _ => 1
def uptoBulkAll {H : Type} : List (DataW H) → Nat
  | [] => 0
  | d :: r => uptoBulk d + uptoBulkAll r
def uptoBulkEntries {H : Type} : List (Lit × DataW H) → Nat
  | [] => 0
  | x :: r => uptoBulkEntry x + uptoBulkEntries r
def uptoBulkEntry {H : Type} : Lit × DataW H → Nat
  | (.string bytes, d) => bytes.length + uptoBulk d + 1
  | (_, d) => uptoBulk d + 1
 end
def uptoSmall : (H : Type) → List (DataW H) → Bool := fun _ ds => decide (uptoBulkAll ds ≤ 1048576)
def OpenSpec.upto (s : _root_.Go.ChangeSpec) : _root_.Go.OpenSpec := { _root_.Go.OpenSpec.ofChange s with cond := some uptoSmall }

/-- 'sounderlaw07.RttTells', WHERE WHAT IT READS IS OF BULK AT MOST 1048576: true; the input reads as it did. -/
def rttTellsUptoRow : OpenClaim := { program := "ytjmieefbeojkfaa", sum := "5be494f6c66298bcc6ac8a2350a873de250e78e9d4d4c75f05374446d085b3e6", func := "sounder/sounderlaw07.RttTells", spec := "rttTells", unfollowed := true, recurses := true, apart := false, narrowed := true }
def RttTellsUptoSaid : Prop := rttTellsUptoRow.holds Try.pinned (OpenSpec.upto rttTellsSpec)

/-- 'sounderlaw07.RttHolds', WHERE WHAT IT READS IS OF BULK AT MOST 1048576: true; the input reads as it did. -/
def rttHoldsUptoRow : OpenClaim := { program := "ytjmieefbeojkfaa", sum := "5be494f6c66298bcc6ac8a2350a873de250e78e9d4d4c75f05374446d085b3e6", func := "sounder/sounderlaw07.RttHolds", spec := "rttHolds", unfollowed := true, recurses := true, apart := false, narrowed := true }
def RttHoldsUptoSaid : Prop := rttHoldsUptoRow.holds Try.pinned (OpenSpec.upto rttHoldsSpec)

/-- 'sounderlaw07.RttRuns', WHERE WHAT IT READS IS OF BULK AT MOST 1048576: true; the input reads as it did. -/
def rttRunsUptoRow : OpenClaim := { program := "ytjmieefbeojkfaa", sum := "5be494f6c66298bcc6ac8a2350a873de250e78e9d4d4c75f05374446d085b3e6", func := "sounder/sounderlaw07.RttRuns", spec := "rttRuns", unfollowed := true, recurses := true, apart := false, narrowed := true }
def RttRunsUptoSaid : Prop := rttRunsUptoRow.holds Try.pinned (OpenSpec.upto rttRunsSpec)

/-- 'sounderlaw07.RttBounds', WHERE WHAT IT READS IS OF BULK AT MOST 1048576: true; the input reads as it did. -/
def rttBoundsUptoRow : OpenClaim := { program := "ytjmieefbeojkfaa", sum := "5be494f6c66298bcc6ac8a2350a873de250e78e9d4d4c75f05374446d085b3e6", func := "sounder/sounderlaw07.RttBounds", spec := "rttBounds", unfollowed := true, recurses := true, apart := false, narrowed := true }
def RttBoundsUptoSaid : Prop := rttBoundsUptoRow.holds Try.pinned (OpenSpec.upto rttBoundsSpec)

/-- 'sounderlaw07.RttSteady', WHERE WHAT IT READS IS OF BULK AT MOST 1048576: true; the input reads as it did. -/
def rttSteadyUptoRow : OpenClaim := { program := "ytjmieefbeojkfaa", sum := "5be494f6c66298bcc6ac8a2350a873de250e78e9d4d4c75f05374446d085b3e6", func := "sounder/sounderlaw07.RttSteady", spec := "rttSteady", unfollowed := true, recurses := true, apart := false, narrowed := true }
def RttSteadyUptoSaid : Prop := rttSteadyUptoRow.holds Try.pinned (OpenSpec.upto rttSteadySpec)

/-- 'sounderlaw07.RttOrder', WHERE WHAT IT READS IS OF BULK AT MOST 1048576: true; the input reads as it did. -/
def rttOrderUptoRow : OpenClaim := { program := "ytjmieefbeojkfaa", sum := "5be494f6c66298bcc6ac8a2350a873de250e78e9d4d4c75f05374446d085b3e6", func := "sounder/sounderlaw07.RttOrder", spec := "rttOrder", unfollowed := true, recurses := true, apart := false, narrowed := true }
def RttOrderUptoSaid : Prop := rttOrderUptoRow.holds Try.pinned (OpenSpec.upto rttOrderSpec)

/-- 'sounderlaw07.RttHeld', WHERE WHAT IT READS IS OF BULK AT MOST 1048576: true; the input reads as it did. -/
def rttHeldUptoRow : OpenClaim := { program := "ytjmieefbeojkfaa", sum := "5be494f6c66298bcc6ac8a2350a873de250e78e9d4d4c75f05374446d085b3e6", func := "sounder/sounderlaw07.RttHeld", spec := "rttHeld", unfollowed := true, recurses := true, apart := false, narrowed := true }
def RttHeldUptoSaid : Prop := rttHeldUptoRow.holds Try.pinned (OpenSpec.upto rttHeldSpec)

/-- 'sounderlaw07.RttKnown', WHERE WHAT IT READS IS OF BULK AT MOST 1048576: true; the input reads as it did. -/
def rttKnownUptoRow : OpenClaim := { program := "ytjmieefbeojkfaa", sum := "5be494f6c66298bcc6ac8a2350a873de250e78e9d4d4c75f05374446d085b3e6", func := "sounder/sounderlaw07.RttKnown", spec := "rttKnown", unfollowed := true, recurses := true, apart := false, narrowed := true }
def RttKnownUptoSaid : Prop := rttKnownUptoRow.holds Try.pinned (OpenSpec.upto rttKnownSpec)

end Rows
end Go.Proofs.Ytjmieefbeojkfaa
