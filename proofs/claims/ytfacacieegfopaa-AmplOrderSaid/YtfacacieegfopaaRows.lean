/-
  No cell of these rows narrows 'for every input' (looked for: loops, veiled, ifaces, maps, wideKeys, modest, calm, conditions, laid).
  DERIVED. THE GIVEN ROWS OF THIS SEAT. 6 by the template 'for every input the law returns true; each argument reads behind the call as it read before'; 0 by the template 'total and deterministic' (their statements: YtfacacieegfopaaTotals.lean).
  GIVEN WITH THE SEED: the statements are not yours to turn. If you find one false, say at which input.
  Laid BY PROGRAM, IN A SANDBOX (cutbox-rows.mjs): the forced cells as the released guide's own fill.sh prints them over the translation 37537f00d282fe2b… (all of the seat's roots in one cut). By AI agents, Wed Nov 11 2026. No macro, syntax, notation, axiom, sorry.
-/
import Derived.Test.YtfacacieegfopaaChecked
import GoSem.Claim
import GoSem.ClaimJoined
import GoSem.ClaimMapViews
import Derived.JoinedTies
import Derived.KernelRfl
namespace Go.Proofs.Ytfacacieegfopaa
/- THE CELL 'sum', in the pinned program and in every row, IS THE sha256 OF THE DUMP (.gsa) THAT YtfacacieegfopaaProg.lean LOADS. Nothing in Lean hashes anything: it is a label: what it is worth is what the hold of that sum in a sandbox is worth. -/
noncomputable def Try.pinned : Pinned := { name := "ytfacacieegfopaa", sum := "37537f00d282fe2bf449bd4a026fa2fae948ece2ee853a41afb7ca537fdff959", checked := Try.checked }
namespace Rows
def none {H : Type} : Left H := { results := [], args := [] }

/-- 'sounderlaw15.AmplPlays': WHATEVER THE INPUT: true; the input reads as it did. -/
def amplPlaysSpec : ChangeSpec := { name := "amplPlays", fn := fun _ => fun
  | [d1, d2] => { results := [.lit (.bool true)], args := [d1, d2] }
  | _ => none }
def amplPlaysRow : OpenClaim := { program := "ytfacacieegfopaa", sum := "37537f00d282fe2bf449bd4a026fa2fae948ece2ee853a41afb7ca537fdff959", func := "sounder/sounderlaw15.AmplPlays", spec := "amplPlays", unfollowed := true, recurses := true, named := ["math/bits.divideError", "math/bits.overflowError"], apart := false }
def AmplPlaysSaid : Prop := amplPlaysRow.holds Try.pinned (OpenSpec.ofChange amplPlaysSpec)

/-- ITS FALSE NEIGHBOUR: 'it returns false'. Refute it at one input. -/
def amplPlaysWrong : ChangeSpec := { name := "amplPlays", fn := fun _ => fun
  | [d1, d2] => { results := [.lit (.bool false)], args := [d1, d2] }
  | _ => none }
def AmplPlaysWrongFalsely : Prop := amplPlaysRow.holds Try.pinned (OpenSpec.ofChange amplPlaysWrong)

/-- 'sounderlaw15.AmplThrice': WHATEVER THE INPUT: true; the input reads as it did. -/
def amplThriceSpec : ChangeSpec := { name := "amplThrice", fn := fun _ => fun
  | [d] => { results := [.lit (.bool true)], args := [d] }
  | _ => none }
def amplThriceRow : OpenClaim := { program := "ytfacacieegfopaa", sum := "37537f00d282fe2bf449bd4a026fa2fae948ece2ee853a41afb7ca537fdff959", func := "sounder/sounderlaw15.AmplThrice", spec := "amplThrice", unfollowed := true, recurses := true, named := ["math/bits.divideError", "math/bits.overflowError"], apart := false }
def AmplThriceSaid : Prop := amplThriceRow.holds Try.pinned (OpenSpec.ofChange amplThriceSpec)

/-- ITS FALSE NEIGHBOUR: 'it returns false'. Refute it at one input. -/
def amplThriceWrong : ChangeSpec := { name := "amplThrice", fn := fun _ => fun
  | [d] => { results := [.lit (.bool false)], args := [d] }
  | _ => none }
def AmplThriceWrongFalsely : Prop := amplThriceRow.holds Try.pinned (OpenSpec.ofChange amplThriceWrong)

/-- 'sounderlaw15.AmplRises': WHATEVER THE INPUT: true; the input reads as it did. -/
def amplRisesSpec : ChangeSpec := { name := "amplRises", fn := fun _ => fun
  | [d1, d2, d3] => { results := [.lit (.bool true)], args := [d1, d2, d3] }
  | _ => none }
def amplRisesRow : OpenClaim := { program := "ytfacacieegfopaa", sum := "37537f00d282fe2bf449bd4a026fa2fae948ece2ee853a41afb7ca537fdff959", func := "sounder/sounderlaw15.AmplRises", spec := "amplRises", unfollowed := true, recurses := true, named := ["math/bits.divideError", "math/bits.overflowError"], apart := false }
def AmplRisesSaid : Prop := amplRisesRow.holds Try.pinned (OpenSpec.ofChange amplRisesSpec)

/-- ITS FALSE NEIGHBOUR: 'it returns false'. Refute it at one input. -/
def amplRisesWrong : ChangeSpec := { name := "amplRises", fn := fun _ => fun
  | [d1, d2, d3] => { results := [.lit (.bool false)], args := [d1, d2, d3] }
  | _ => none }
def AmplRisesWrongFalsely : Prop := amplRisesRow.holds Try.pinned (OpenSpec.ofChange amplRisesWrong)

/-- 'sounderlaw15.AmplValid': WHATEVER THE INPUT: true; the input reads as it did. -/
def amplValidSpec : ChangeSpec := { name := "amplValid", fn := fun _ => fun
  | [d1, d2] => { results := [.lit (.bool true)], args := [d1, d2] }
  | _ => none }
def amplValidRow : OpenClaim := { program := "ytfacacieegfopaa", sum := "37537f00d282fe2bf449bd4a026fa2fae948ece2ee853a41afb7ca537fdff959", func := "sounder/sounderlaw15.AmplValid", spec := "amplValid", unfollowed := true, recurses := true, named := ["math/bits.divideError", "math/bits.overflowError"], apart := false }
def AmplValidSaid : Prop := amplValidRow.holds Try.pinned (OpenSpec.ofChange amplValidSpec)

/-- ITS FALSE NEIGHBOUR: 'it returns false'. Refute it at one input. -/
def amplValidWrong : ChangeSpec := { name := "amplValid", fn := fun _ => fun
  | [d1, d2] => { results := [.lit (.bool false)], args := [d1, d2] }
  | _ => none }
def AmplValidWrongFalsely : Prop := amplValidRow.holds Try.pinned (OpenSpec.ofChange amplValidWrong)

/-- 'sounderlaw15.AmplOrder': WHATEVER THE INPUT: true; the input reads as it did. -/
def amplOrderSpec : ChangeSpec := { name := "amplOrder", fn := fun _ => fun
  | [d] => { results := [.lit (.bool true)], args := [d] }
  | _ => none }
def amplOrderRow : OpenClaim := { program := "ytfacacieegfopaa", sum := "37537f00d282fe2bf449bd4a026fa2fae948ece2ee853a41afb7ca537fdff959", func := "sounder/sounderlaw15.AmplOrder", spec := "amplOrder", unfollowed := true, recurses := true, named := ["math/bits.divideError", "math/bits.overflowError"], apart := false }
def AmplOrderSaid : Prop := amplOrderRow.holds Try.pinned (OpenSpec.ofChange amplOrderSpec)

/-- ITS FALSE NEIGHBOUR: 'it returns false'. Refute it at one input. -/
def amplOrderWrong : ChangeSpec := { name := "amplOrder", fn := fun _ => fun
  | [d] => { results := [.lit (.bool false)], args := [d] }
  | _ => none }
def AmplOrderWrongFalsely : Prop := amplOrderRow.holds Try.pinned (OpenSpec.ofChange amplOrderWrong)

/-- 'sounderlaw15.AmplKnown': WHATEVER THE INPUT: true; the input reads as it did. -/
def amplKnownSpec : ChangeSpec := { name := "amplKnown", fn := fun _ => fun
  | [] => { results := [.lit (.bool true)], args := [] }
  | _ => none }
def amplKnownRow : OpenClaim := { program := "ytfacacieegfopaa", sum := "37537f00d282fe2bf449bd4a026fa2fae948ece2ee853a41afb7ca537fdff959", func := "sounder/sounderlaw15.AmplKnown", spec := "amplKnown", unfollowed := true, recurses := true, named := ["math/bits.divideError", "math/bits.overflowError"], apart := false }
def AmplKnownSaid : Prop := amplKnownRow.holds Try.pinned (OpenSpec.ofChange amplKnownSpec)

/-- ITS FALSE NEIGHBOUR: 'it returns false'. Refute it at one input. -/
def amplKnownWrong : ChangeSpec := { name := "amplKnown", fn := fun _ => fun
  | [] => { results := [.lit (.bool false)], args := [] }
  | _ => none }
def AmplKnownWrongFalsely : Prop := amplKnownRow.holds Try.pinned (OpenSpec.ofChange amplKnownWrong)

/- THE SECOND FORM. 'bulk': how many values and letters a reading holds, each counted each time it is reached (what is shared counts as often as it is met; a slice's spare places count too). A statement '..UptoSaid' is the law's where the arguments, and the package variables that the reading takes, are together of bulk at most 1048576: NARROWER than '..Said'. Prove '..Said' where nothing that the law and all that it calls make is longer than what came in: it says more and counts as full. Else prove '..UptoSaid'. A law counts once. -/
mutual
def uptoBulk {H : Type} : DataW H → Nat
  | .lit (.string bytes) => bytes.length + 1
  | .lit _ => 1
  | .nil => 1
  | .ptr d => uptoBulk d + 1
  | .slice elems spare => uptoBulkAll elems + uptoBulkAll spare + 1
  | .agg parts => uptoBulkAll parts + 1
  | .iface _ d => uptoBulk d + 1
  | .map entries => uptoBulkEntries entries + 1
  | .held _ => 1
def uptoBulkAll {H : Type} : List (DataW H) → Nat
  | [] => 0
  | d :: r => uptoBulk d + uptoBulkAll r
def uptoBulkEntries {H : Type} : List (Lit × DataW H) → Nat
  | [] => 0
  | x :: r => uptoBulkEntry x + uptoBulkEntries r
def uptoBulkEntry {H : Type} : Lit × DataW H → Nat
  | (.string bytes, d) => bytes.length + uptoBulk d + 1
  | (_, d) => uptoBulk d + 1
 end
def uptoSmall : (H : Type) → List (DataW H) → Bool := fun _ ds => decide (uptoBulkAll ds ≤ 1048576)
def OpenSpec.upto (s : _root_.Go.ChangeSpec) : _root_.Go.OpenSpec := { _root_.Go.OpenSpec.ofChange s with cond := some uptoSmall }

/-- 'sounderlaw15.AmplPlays', WHERE WHAT IT READS IS OF BULK AT MOST 1048576: true; the input reads as it did. -/
def amplPlaysUptoRow : OpenClaim := { program := "ytfacacieegfopaa", sum := "37537f00d282fe2bf449bd4a026fa2fae948ece2ee853a41afb7ca537fdff959", func := "sounder/sounderlaw15.AmplPlays", spec := "amplPlays", unfollowed := true, recurses := true, named := ["math/bits.divideError", "math/bits.overflowError"], apart := false, narrowed := true }
def AmplPlaysUptoSaid : Prop := amplPlaysUptoRow.holds Try.pinned (OpenSpec.upto amplPlaysSpec)

/-- 'sounderlaw15.AmplThrice', WHERE WHAT IT READS IS OF BULK AT MOST 1048576: true; the input reads as it did. -/
def amplThriceUptoRow : OpenClaim := { program := "ytfacacieegfopaa", sum := "37537f00d282fe2bf449bd4a026fa2fae948ece2ee853a41afb7ca537fdff959", func := "sounder/sounderlaw15.AmplThrice", spec := "amplThrice", unfollowed := true, recurses := true, named := ["math/bits.divideError", "math/bits.overflowError"], apart := false, narrowed := true }
def AmplThriceUptoSaid : Prop := amplThriceUptoRow.holds Try.pinned (OpenSpec.upto amplThriceSpec)

/-- 'sounderlaw15.AmplRises', WHERE WHAT IT READS IS OF BULK AT MOST 1048576: true; the input reads as it did. -/
def amplRisesUptoRow : OpenClaim := { program := "ytfacacieegfopaa", sum := "37537f00d282fe2bf449bd4a026fa2fae948ece2ee853a41afb7ca537fdff959", func := "sounder/sounderlaw15.AmplRises", spec := "amplRises", unfollowed := true, recurses := true, named := ["math/bits.divideError", "math/bits.overflowError"], apart := false, narrowed := true }
def AmplRisesUptoSaid : Prop := amplRisesUptoRow.holds Try.pinned (OpenSpec.upto amplRisesSpec)

/-- 'sounderlaw15.AmplValid', WHERE WHAT IT READS IS OF BULK AT MOST 1048576: true; the input reads as it did. -/
def amplValidUptoRow : OpenClaim := { program := "ytfacacieegfopaa", sum := "37537f00d282fe2bf449bd4a026fa2fae948ece2ee853a41afb7ca537fdff959", func := "sounder/sounderlaw15.AmplValid", spec := "amplValid", unfollowed := true, recurses := true, named := ["math/bits.divideError", "math/bits.overflowError"], apart := false, narrowed := true }
def AmplValidUptoSaid : Prop := amplValidUptoRow.holds Try.pinned (OpenSpec.upto amplValidSpec)

/-- 'sounderlaw15.AmplOrder', WHERE WHAT IT READS IS OF BULK AT MOST 1048576: true; the input reads as it did. -/
def amplOrderUptoRow : OpenClaim := { program := "ytfacacieegfopaa", sum := "37537f00d282fe2bf449bd4a026fa2fae948ece2ee853a41afb7ca537fdff959", func := "sounder/sounderlaw15.AmplOrder", spec := "amplOrder", unfollowed := true, recurses := true, named := ["math/bits.divideError", "math/bits.overflowError"], apart := false, narrowed := true }
def AmplOrderUptoSaid : Prop := amplOrderUptoRow.holds Try.pinned (OpenSpec.upto amplOrderSpec)

/-- 'sounderlaw15.AmplKnown', WHERE WHAT IT READS IS OF BULK AT MOST 1048576: true; the input reads as it did. -/
def amplKnownUptoRow : OpenClaim := { program := "ytfacacieegfopaa", sum := "37537f00d282fe2bf449bd4a026fa2fae948ece2ee853a41afb7ca537fdff959", func := "sounder/sounderlaw15.AmplKnown", spec := "amplKnown", unfollowed := true, recurses := true, named := ["math/bits.divideError", "math/bits.overflowError"], apart := false, narrowed := true }
def AmplKnownUptoSaid : Prop := amplKnownUptoRow.holds Try.pinned (OpenSpec.upto amplKnownSpec)

end Rows
end Go.Proofs.Ytfacacieegfopaa
