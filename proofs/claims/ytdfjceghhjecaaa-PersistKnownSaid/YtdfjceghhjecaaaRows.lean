/-
  No cell of these rows narrows 'for every input' (looked for: loops, veiled, ifaces, maps, wideKeys, modest, calm, conditions, laid).
  DERIVED. THE GIVEN ROWS OF THIS SEAT. 5 by the template 'for every input the law returns true; each argument reads behind the call as it read before'; 0 by the template 'total and deterministic' (their statements: YtdfjceghhjecaaaTotals.lean).
  GIVEN WITH THE SEED: the statements are not yours to turn. If you find one false, say at which input.
  Laid BY PROGRAM, IN A SANDBOX (cutbox-rows.mjs): the forced cells as the released guide's own fill.sh prints them over the translation 7d3dc7086abfb88f… (all of the seat's roots in one cut). By AI agents, Wed Nov 11 2026. No macro, syntax, notation, axiom, sorry.
-/
import Derived.Test.YtdfjceghhjecaaaChecked
import GoSem.Claim
import GoSem.ClaimJoined
import GoSem.ClaimMapViews
import Derived.JoinedTies
import Derived.KernelRfl
namespace Go.Proofs.Ytdfjceghhjecaaa
/- THE CELL 'sum', in the pinned program and in every row, IS THE sha256 OF THE DUMP (.gsa) THAT YtdfjceghhjecaaaProg.lean LOADS. Nothing in Lean hashes anything: it is a label: what it is worth is what the hold of that sum in a sandbox is worth. -/
noncomputable def Try.pinned : Pinned := { name := "ytdfjceghhjecaaa", sum := "7d3dc7086abfb88f2d2c17e10508538de4109b7fa9a7ee92ea2e3eb43b8892f1", checked := Try.checked }
namespace Rows
def none {H : Type} : Left H := { results := [], args := [] }

/-- 'sounderlaw10.PersistRuns': WHATEVER THE INPUT: true; the input reads as it did. -/
def persistRunsSpec : ChangeSpec := { name := "persistRuns", fn := fun _ => fun
  | [d1, d2, d3] => { results := [.lit (.bool true)], args := [d1, d2, d3] }
  | _ => none }
def persistRunsRow : OpenClaim := { program := "ytdfjceghhjecaaa", sum := "7d3dc7086abfb88f2d2c17e10508538de4109b7fa9a7ee92ea2e3eb43b8892f1", func := "sounder/sounderlaw10.PersistRuns", spec := "persistRuns", inPlace := ["slices.overlaps[sounder/api.Range]"], unfollowed := true, recurses := true, named := ["math/bits.divideError", "math/bits.overflowError"], apart := false }
def PersistRunsSaid : Prop := persistRunsRow.holds Try.pinned (OpenSpec.ofChange persistRunsSpec)

/-- ITS FALSE NEIGHBOUR: 'it returns false'. Refute it at one input. -/
def persistRunsWrong : ChangeSpec := { name := "persistRuns", fn := fun _ => fun
  | [d1, d2, d3] => { results := [.lit (.bool false)], args := [d1, d2, d3] }
  | _ => none }
def PersistRunsWrongFalsely : Prop := persistRunsRow.holds Try.pinned (OpenSpec.ofChange persistRunsWrong)

/-- 'sounderlaw10.PersistMore': WHATEVER THE INPUT: true; the input reads as it did. -/
def persistMoreSpec : ChangeSpec := { name := "persistMore", fn := fun _ => fun
  | [d1, d2, d3] => { results := [.lit (.bool true)], args := [d1, d2, d3] }
  | _ => none }
def persistMoreRow : OpenClaim := { program := "ytdfjceghhjecaaa", sum := "7d3dc7086abfb88f2d2c17e10508538de4109b7fa9a7ee92ea2e3eb43b8892f1", func := "sounder/sounderlaw10.PersistMore", spec := "persistMore", inPlace := ["slices.overlaps[sounder/api.Range]"], unfollowed := true, recurses := true, named := ["math/bits.divideError", "math/bits.overflowError"], apart := false }
def PersistMoreSaid : Prop := persistMoreRow.holds Try.pinned (OpenSpec.ofChange persistMoreSpec)

/-- ITS FALSE NEIGHBOUR: 'it returns false'. Refute it at one input. -/
def persistMoreWrong : ChangeSpec := { name := "persistMore", fn := fun _ => fun
  | [d1, d2, d3] => { results := [.lit (.bool false)], args := [d1, d2, d3] }
  | _ => none }
def PersistMoreWrongFalsely : Prop := persistMoreRow.holds Try.pinned (OpenSpec.ofChange persistMoreWrong)

/-- 'sounderlaw10.PersistQuiet': WHATEVER THE INPUT: true; the input reads as it did. -/
def persistQuietSpec : ChangeSpec := { name := "persistQuiet", fn := fun _ => fun
  | [d1, d2, d3] => { results := [.lit (.bool true)], args := [d1, d2, d3] }
  | _ => none }
def persistQuietRow : OpenClaim := { program := "ytdfjceghhjecaaa", sum := "7d3dc7086abfb88f2d2c17e10508538de4109b7fa9a7ee92ea2e3eb43b8892f1", func := "sounder/sounderlaw10.PersistQuiet", spec := "persistQuiet", inPlace := ["slices.overlaps[sounder/api.Range]"], unfollowed := true, recurses := true, named := ["math/bits.divideError", "math/bits.overflowError"], apart := false }
def PersistQuietSaid : Prop := persistQuietRow.holds Try.pinned (OpenSpec.ofChange persistQuietSpec)

/-- ITS FALSE NEIGHBOUR: 'it returns false'. Refute it at one input. -/
def persistQuietWrong : ChangeSpec := { name := "persistQuiet", fn := fun _ => fun
  | [d1, d2, d3] => { results := [.lit (.bool false)], args := [d1, d2, d3] }
  | _ => none }
def PersistQuietWrongFalsely : Prop := persistQuietRow.holds Try.pinned (OpenSpec.ofChange persistQuietWrong)

/-- 'sounderlaw10.PersistIs': WHATEVER THE INPUT: true; the input reads as it did. -/
def persistIsSpec : ChangeSpec := { name := "persistIs", fn := fun _ => fun
  | [d1, d2, d3] => { results := [.lit (.bool true)], args := [d1, d2, d3] }
  | _ => none }
def persistIsRow : OpenClaim := { program := "ytdfjceghhjecaaa", sum := "7d3dc7086abfb88f2d2c17e10508538de4109b7fa9a7ee92ea2e3eb43b8892f1", func := "sounder/sounderlaw10.PersistIs", spec := "persistIs", inPlace := ["slices.overlaps[sounder/api.Range]"], unfollowed := true, recurses := true, named := ["math/bits.divideError", "math/bits.overflowError"], apart := false }
def PersistIsSaid : Prop := persistIsRow.holds Try.pinned (OpenSpec.ofChange persistIsSpec)

/-- ITS FALSE NEIGHBOUR: 'it returns false'. Refute it at one input. -/
def persistIsWrong : ChangeSpec := { name := "persistIs", fn := fun _ => fun
  | [d1, d2, d3] => { results := [.lit (.bool false)], args := [d1, d2, d3] }
  | _ => none }
def PersistIsWrongFalsely : Prop := persistIsRow.holds Try.pinned (OpenSpec.ofChange persistIsWrong)

/-- 'sounderlaw10.PersistKnown': WHATEVER THE INPUT: true; the input reads as it did. -/
def persistKnownSpec : ChangeSpec := { name := "persistKnown", fn := fun _ => fun
  | [] => { results := [.lit (.bool true)], args := [] }
  | _ => none }
def persistKnownRow : OpenClaim := { program := "ytdfjceghhjecaaa", sum := "7d3dc7086abfb88f2d2c17e10508538de4109b7fa9a7ee92ea2e3eb43b8892f1", func := "sounder/sounderlaw10.PersistKnown", spec := "persistKnown", inPlace := ["slices.overlaps[sounder/api.Range]"], unfollowed := true, recurses := true, named := ["math/bits.divideError", "math/bits.overflowError"], apart := false }
def PersistKnownSaid : Prop := persistKnownRow.holds Try.pinned (OpenSpec.ofChange persistKnownSpec)

/-- ITS FALSE NEIGHBOUR: 'it returns false'. Refute it at one input. -/
def persistKnownWrong : ChangeSpec := { name := "persistKnown", fn := fun _ => fun
  | [] => { results := [.lit (.bool false)], args := [] }
  | _ => none }
def PersistKnownWrongFalsely : Prop := persistKnownRow.holds Try.pinned (OpenSpec.ofChange persistKnownWrong)

/- THE SECOND FORM. 'bulk': how many values and letters a reading holds, each counted each time it is reached (what is shared counts as often as it is met; a slice's spare places count too). A statement '..UptoSaid' is the law's where the arguments, and the package variables that the reading takes, are together of bulk at most 1048576: NARROWER than '..Said'. Prove '..Said' where nothing that the law and all that it calls make is longer than what came in: it says more and counts as full. Else prove '..UptoSaid'. A law counts once. -/
mutual
def uptoBulk {H : Type} : DataW H → Nat
  | .lit (.string bytes) => bytes.length + 1
  | .lit _ => 1
  | .nil => 1
  | .ptr d => uptoBulk d + 1
  | .slice elems spare => uptoBulkAll elems + uptoBulkAll spare + 1
  | .agg parts => uptoBulkAll parts + 1
  | .iface _ d => uptoBulk d + 1
  | .map entries => uptoBulkEntries entries + 1
  | .held _ => 1
def uptoBulkAll {H : Type} : List (DataW H) → Nat
  | [] => 0
  | d :: r => uptoBulk d + uptoBulkAll r
def uptoBulkEntries {H : Type} : List (Lit × DataW H) → Nat
  | [] => 0
  | x :: r => uptoBulkEntry x + uptoBulkEntries r
def uptoBulkEntry {H : Type} : Lit × DataW H → Nat
  | (.string bytes, d) => bytes.length + uptoBulk d + 1
  | (_, d) => uptoBulk d + 1
 end
def uptoSmall : (H : Type) → List (DataW H) → Bool := fun _ ds => decide (uptoBulkAll ds ≤ 1048576)
def OpenSpec.upto (s : _root_.Go.ChangeSpec) : _root_.Go.OpenSpec := { _root_.Go.OpenSpec.ofChange s with cond := some uptoSmall }

/-- 'sounderlaw10.PersistRuns', WHERE WHAT IT READS IS OF BULK AT MOST 1048576: true; the input reads as it did. -/
def persistRunsUptoRow : OpenClaim := { program := "ytdfjceghhjecaaa", sum := "7d3dc7086abfb88f2d2c17e10508538de4109b7fa9a7ee92ea2e3eb43b8892f1", func := "sounder/sounderlaw10.PersistRuns", spec := "persistRuns", inPlace := ["slices.overlaps[sounder/api.Range]"], unfollowed := true, recurses := true, named := ["math/bits.divideError", "math/bits.overflowError"], apart := false, narrowed := true }
def PersistRunsUptoSaid : Prop := persistRunsUptoRow.holds Try.pinned (OpenSpec.upto persistRunsSpec)

/-- 'sounderlaw10.PersistMore', WHERE WHAT IT READS IS OF BULK AT MOST 1048576: true; the input reads as it did. -/
def persistMoreUptoRow : OpenClaim := { program := "ytdfjceghhjecaaa", sum := "7d3dc7086abfb88f2d2c17e10508538de4109b7fa9a7ee92ea2e3eb43b8892f1", func := "sounder/sounderlaw10.PersistMore", spec := "persistMore", inPlace := ["slices.overlaps[sounder/api.Range]"], unfollowed := true, recurses := true, named := ["math/bits.divideError", "math/bits.overflowError"], apart := false, narrowed := true }
def PersistMoreUptoSaid : Prop := persistMoreUptoRow.holds Try.pinned (OpenSpec.upto persistMoreSpec)

/-- 'sounderlaw10.PersistQuiet', WHERE WHAT IT READS IS OF BULK AT MOST 1048576: true; the input reads as it did. -/
def persistQuietUptoRow : OpenClaim := { program := "ytdfjceghhjecaaa", sum := "7d3dc7086abfb88f2d2c17e10508538de4109b7fa9a7ee92ea2e3eb43b8892f1", func := "sounder/sounderlaw10.PersistQuiet", spec := "persistQuiet", inPlace := ["slices.overlaps[sounder/api.Range]"], unfollowed := true, recurses := true, named := ["math/bits.divideError", "math/bits.overflowError"], apart := false, narrowed := true }
def PersistQuietUptoSaid : Prop := persistQuietUptoRow.holds Try.pinned (OpenSpec.upto persistQuietSpec)

/-- 'sounderlaw10.PersistIs', WHERE WHAT IT READS IS OF BULK AT MOST 1048576: true; the input reads as it did. -/
def persistIsUptoRow : OpenClaim := { program := "ytdfjceghhjecaaa", sum := "7d3dc7086abfb88f2d2c17e10508538de4109b7fa9a7ee92ea2e3eb43b8892f1", func := "sounder/sounderlaw10.PersistIs", spec := "persistIs", inPlace := ["slices.overlaps[sounder/api.Range]"], unfollowed := true, recurses := true, named := ["math/bits.divideError", "math/bits.overflowError"], apart := false, narrowed := true }
def PersistIsUptoSaid : Prop := persistIsUptoRow.holds Try.pinned (OpenSpec.upto persistIsSpec)

/-- 'sounderlaw10.PersistKnown', WHERE WHAT IT READS IS OF BULK AT MOST 1048576: true; the input reads as it did. -/
def persistKnownUptoRow : OpenClaim := { program := "ytdfjceghhjecaaa", sum := "7d3dc7086abfb88f2d2c17e10508538de4109b7fa9a7ee92ea2e3eb43b8892f1", func := "sounder/sounderlaw10.PersistKnown", spec := "persistKnown", inPlace := ["slices.overlaps[sounder/api.Range]"], unfollowed := true, recurses := true, named := ["math/bits.divideError", "math/bits.overflowError"], apart := false, narrowed := true }
def PersistKnownUptoSaid : Prop := persistKnownUptoRow.holds Try.pinned (OpenSpec.upto persistKnownSpec)

end Rows
end Go.Proofs.Ytdfjceghhjecaaa
