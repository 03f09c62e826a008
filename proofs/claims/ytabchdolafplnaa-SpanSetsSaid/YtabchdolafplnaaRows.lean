/-
  No cell of these rows narrows 'for every input' (looked for: loops, veiled, ifaces, maps, wideKeys, modest, calm, conditions, laid).
  DERIVED. THE GIVEN ROWS OF THIS SEAT. 6 by the template 'for every input the law returns true; each argument reads behind the call as it read before'; 0 by the template 'total and deterministic' (their statements: YtabchdolafplnaaTotals.lean).
  GIVEN WITH THE SEED: the statements are not yours to turn. If you find one false, say at which input.
  Laid BY PROGRAM, IN A SANDBOX (cutbox-rows.mjs): the forced cells as the released guide's own fill.sh prints them over the translation 820339778c9da894… (all of the seat's roots in one cut). By AI agents, Wed Nov 11 2026. No macro, syntax, notation, axiom, sorry.
-/
import Derived.Test.YtabchdolafplnaaChecked
import GoSem.Claim
import GoSem.ClaimJoined
import GoSem.ClaimMapViews
import Derived.JoinedTies
import Derived.KernelRfl
namespace Go.Proofs.Ytabchdolafplnaa
/- THE CELL 'sum', in the pinned program and in every row, IS THE sha256 OF THE DUMP (.gsa) THAT YtabchdolafplnaaProg.lean LOADS. Nothing in Lean hashes anything: it is a label: what it is worth is what the hold of that sum in a sandbox is worth. -/
noncomputable def Try.pinned : Pinned := { name := "ytabchdolafplnaa", sum := "820339778c9da894fe2f434ce860ed858b5ce985db78d7e447f31a18f4ea2190", checked := Try.checked }
namespace Rows
def none {H : Type} : Left H := { results := [], args := [] }

/-- 'sounderlaw04.SpanPlays': WHATEVER THE INPUT: true; the input reads as it did. -/
def spanPlaysSpec : ChangeSpec := { name := "spanPlays", fn := fun _ => fun
  | [d1, d2] => { results := [.lit (.bool true)], args := [d1, d2] }
  | _ => none }
def spanPlaysRow : OpenClaim := { program := "ytabchdolafplnaa", sum := "820339778c9da894fe2f434ce860ed858b5ce985db78d7e447f31a18f4ea2190", func := "sounder/sounderlaw04.SpanPlays", spec := "spanPlays", inPlace := ["slices.overlaps[sounder/api.Range]"], unfollowed := true, recurses := true, apart := false }
def SpanPlaysSaid : Prop := spanPlaysRow.holds Try.pinned (OpenSpec.ofChange spanPlaysSpec)

/-- ITS FALSE NEIGHBOUR: 'it returns false'. Refute it at one input. -/
def spanPlaysWrong : ChangeSpec := { name := "spanPlays", fn := fun _ => fun
  | [d1, d2] => { results := [.lit (.bool false)], args := [d1, d2] }
  | _ => none }
def SpanPlaysWrongFalsely : Prop := spanPlaysRow.holds Try.pinned (OpenSpec.ofChange spanPlaysWrong)

/-- 'sounderlaw04.SpanSets': WHATEVER THE INPUT: true; the input reads as it did. -/
def spanSetsSpec : ChangeSpec := { name := "spanSets", fn := fun _ => fun
  | [d1, d2, d3] => { results := [.lit (.bool true)], args := [d1, d2, d3] }
  | _ => none }
def spanSetsRow : OpenClaim := { program := "ytabchdolafplnaa", sum := "820339778c9da894fe2f434ce860ed858b5ce985db78d7e447f31a18f4ea2190", func := "sounder/sounderlaw04.SpanSets", spec := "spanSets", inPlace := ["slices.overlaps[sounder/api.Range]"], unfollowed := true, recurses := true, apart := false }
def SpanSetsSaid : Prop := spanSetsRow.holds Try.pinned (OpenSpec.ofChange spanSetsSpec)

/-- ITS FALSE NEIGHBOUR: 'it returns false'. Refute it at one input. -/
def spanSetsWrong : ChangeSpec := { name := "spanSets", fn := fun _ => fun
  | [d1, d2, d3] => { results := [.lit (.bool false)], args := [d1, d2, d3] }
  | _ => none }
def SpanSetsWrongFalsely : Prop := spanSetsRow.holds Try.pinned (OpenSpec.ofChange spanSetsWrong)

/-- 'sounderlaw04.SpanTouch': WHATEVER THE INPUT: true; the input reads as it did. -/
def spanTouchSpec : ChangeSpec := { name := "spanTouch", fn := fun _ => fun
  | [d1, d2] => { results := [.lit (.bool true)], args := [d1, d2] }
  | _ => none }
def spanTouchRow : OpenClaim := { program := "ytabchdolafplnaa", sum := "820339778c9da894fe2f434ce860ed858b5ce985db78d7e447f31a18f4ea2190", func := "sounder/sounderlaw04.SpanTouch", spec := "spanTouch", inPlace := ["slices.overlaps[sounder/api.Range]"], unfollowed := true, recurses := true, apart := false }
def SpanTouchSaid : Prop := spanTouchRow.holds Try.pinned (OpenSpec.ofChange spanTouchSpec)

/-- ITS FALSE NEIGHBOUR: 'it returns false'. Refute it at one input. -/
def spanTouchWrong : ChangeSpec := { name := "spanTouch", fn := fun _ => fun
  | [d1, d2] => { results := [.lit (.bool false)], args := [d1, d2] }
  | _ => none }
def SpanTouchWrongFalsely : Prop := spanTouchRow.holds Try.pinned (OpenSpec.ofChange spanTouchWrong)

/-- 'sounderlaw04.SpanRoom': WHATEVER THE INPUT: true; the input reads as it did. -/
def spanRoomSpec : ChangeSpec := { name := "spanRoom", fn := fun _ => fun
  | [d1, d2] => { results := [.lit (.bool true)], args := [d1, d2] }
  | _ => none }
def spanRoomRow : OpenClaim := { program := "ytabchdolafplnaa", sum := "820339778c9da894fe2f434ce860ed858b5ce985db78d7e447f31a18f4ea2190", func := "sounder/sounderlaw04.SpanRoom", spec := "spanRoom", inPlace := ["slices.overlaps[sounder/api.Range]"], unfollowed := true, recurses := true, apart := false }
def SpanRoomSaid : Prop := spanRoomRow.holds Try.pinned (OpenSpec.ofChange spanRoomSpec)

/-- ITS FALSE NEIGHBOUR: 'it returns false'. Refute it at one input. -/
def spanRoomWrong : ChangeSpec := { name := "spanRoom", fn := fun _ => fun
  | [d1, d2] => { results := [.lit (.bool false)], args := [d1, d2] }
  | _ => none }
def SpanRoomWrongFalsely : Prop := spanRoomRow.holds Try.pinned (OpenSpec.ofChange spanRoomWrong)

/-- 'sounderlaw04.SpanGreat': WHATEVER THE INPUT: true; the input reads as it did. -/
def spanGreatSpec : ChangeSpec := { name := "spanGreat", fn := fun _ => fun
  | [d] => { results := [.lit (.bool true)], args := [d] }
  | _ => none }
def spanGreatRow : OpenClaim := { program := "ytabchdolafplnaa", sum := "820339778c9da894fe2f434ce860ed858b5ce985db78d7e447f31a18f4ea2190", func := "sounder/sounderlaw04.SpanGreat", spec := "spanGreat", inPlace := ["slices.overlaps[sounder/api.Range]"], unfollowed := true, recurses := true, apart := false }
def SpanGreatSaid : Prop := spanGreatRow.holds Try.pinned (OpenSpec.ofChange spanGreatSpec)

/-- ITS FALSE NEIGHBOUR: 'it returns false'. Refute it at one input. -/
def spanGreatWrong : ChangeSpec := { name := "spanGreat", fn := fun _ => fun
  | [d] => { results := [.lit (.bool false)], args := [d] }
  | _ => none }
def SpanGreatWrongFalsely : Prop := spanGreatRow.holds Try.pinned (OpenSpec.ofChange spanGreatWrong)

/-- 'sounderlaw04.SpanKnown': WHATEVER THE INPUT: true; the input reads as it did. -/
def spanKnownSpec : ChangeSpec := { name := "spanKnown", fn := fun _ => fun
  | [] => { results := [.lit (.bool true)], args := [] }
  | _ => none }
def spanKnownRow : OpenClaim := { program := "ytabchdolafplnaa", sum := "820339778c9da894fe2f434ce860ed858b5ce985db78d7e447f31a18f4ea2190", func := "sounder/sounderlaw04.SpanKnown", spec := "spanKnown", inPlace := ["slices.overlaps[sounder/api.Range]"], unfollowed := true, recurses := true, apart := false }
def SpanKnownSaid : Prop := spanKnownRow.holds Try.pinned (OpenSpec.ofChange spanKnownSpec)

/-- ITS FALSE NEIGHBOUR: 'it returns false'. Refute it at one input. -/
def spanKnownWrong : ChangeSpec := { name := "spanKnown", fn := fun _ => fun
  | [] => { results := [.lit (.bool false)], args := [] }
  | _ => none }
def SpanKnownWrongFalsely : Prop := spanKnownRow.holds Try.pinned (OpenSpec.ofChange spanKnownWrong)

/- THE SECOND FORM. 'bulk': how many values and letters a reading holds, each counted each time it is reached (what is shared counts as often as it is met; a slice's spare places count too). A statement '..UptoSaid' is the law's where the arguments, and the package variables that the reading takes, are together of bulk at most 1048576: NARROWER than '..Said'. Prove '..Said' where nothing that the law and all that it calls make is longer than what came in: it says more and counts as full. Else prove '..UptoSaid'. A law counts once. -/
mutual
def uptoBulk {H : Type} : DataW H → Nat
  | .lit (.string bytes) => bytes.length + 1
  | .lit _ => 1
  | .nil => 1
  | .ptr d => uptoBulk d + 1
  | .slice elems spare => uptoBulkAll elems + uptoBulkAll spare + 1
  | .agg parts => uptoBulkAll parts + 1
  | .iface _ d => uptoBulk d + 1
  | .map entries => uptoBulkEntries entries + 1
  | .held _ => 1
def uptoBulkAll {H : Type} : List (DataW H) → Nat
  | [] => 0
  | d :: r => uptoBulk d + uptoBulkAll r
def uptoBulkEntries {H : Type} : List (Lit × DataW H) → Nat
  | [] => 0
  | x :: r => uptoBulkEntry x + uptoBulkEntries r
def uptoBulkEntry {H : Type} : Lit × DataW H → Nat
  | (.string bytes, d) => bytes.length + uptoBulk d + 1
  | (_, d) => uptoBulk d + 1
 end
def uptoSmall : (H : Type) → List (DataW H) → Bool := fun _ ds => decide (uptoBulkAll ds ≤ 1048576)
def OpenSpec.upto (s : _root_.Go.ChangeSpec) : _root_.Go.OpenSpec := { _root_.Go.OpenSpec.ofChange s with cond := some uptoSmall }

/-- 'sounderlaw04.SpanPlays', WHERE WHAT IT READS IS OF BULK AT MOST 1048576: true; the input reads as it did. -/
def spanPlaysUptoRow : OpenClaim := { program := "ytabchdolafplnaa", sum := "820339778c9da894fe2f434ce860ed858b5ce985db78d7e447f31a18f4ea2190", func := "sounder/sounderlaw04.SpanPlays", spec := "spanPlays", inPlace := ["slices.overlaps[sounder/api.Range]"], unfollowed := true, recurses := true, apart := false, narrowed := true }
def SpanPlaysUptoSaid : Prop := spanPlaysUptoRow.holds Try.pinned (OpenSpec.upto spanPlaysSpec)

/-- 'sounderlaw04.SpanSets', WHERE WHAT IT READS IS OF BULK AT MOST 1048576: true; the input reads as it did. -/
def spanSetsUptoRow : OpenClaim := { program := "ytabchdolafplnaa", sum := "820339778c9da894fe2f434ce860ed858b5ce985db78d7e447f31a18f4ea2190", func := "sounder/sounderlaw04.SpanSets", spec := "spanSets", inPlace := ["slices.overlaps[sounder/api.Range]"], unfollowed := true, recurses := true, apart := false, narrowed := true }
def SpanSetsUptoSaid : Prop := spanSetsUptoRow.holds Try.pinned (OpenSpec.upto spanSetsSpec)

/-- 'sounderlaw04.SpanTouch', WHERE WHAT IT READS IS OF BULK AT MOST 1048576: true; the input reads as it did. -/
def spanTouchUptoRow : OpenClaim := { program := "ytabchdolafplnaa", sum := "820339778c9da894fe2f434ce860ed858b5ce985db78d7e447f31a18f4ea2190", func := "sounder/sounderlaw04.SpanTouch", spec := "spanTouch", inPlace := ["slices.overlaps[sounder/api.Range]"], unfollowed := true, recurses := true, apart := false, narrowed := true }
def SpanTouchUptoSaid : Prop := spanTouchUptoRow.holds Try.pinned (OpenSpec.upto spanTouchSpec)

/-- 'sounderlaw04.SpanRoom', WHERE WHAT IT READS IS OF BULK AT MOST 1048576: true; the input reads as it did. -/
def spanRoomUptoRow : OpenClaim := { program := "ytabchdolafplnaa", sum := "820339778c9da894fe2f434ce860ed858b5ce985db78d7e447f31a18f4ea2190", func := "sounder/sounderlaw04.SpanRoom", spec := "spanRoom", inPlace := ["slices.overlaps[sounder/api.Range]"], unfollowed := true, recurses := true, apart := false, narrowed := true }
def SpanRoomUptoSaid : Prop := spanRoomUptoRow.holds Try.pinned (OpenSpec.upto spanRoomSpec)

/-- 'sounderlaw04.SpanGreat', WHERE WHAT IT READS IS OF BULK AT MOST 1048576: true; the input reads as it did. -/
def spanGreatUptoRow : OpenClaim := { program := "ytabchdolafplnaa", sum := "820339778c9da894fe2f434ce860ed858b5ce985db78d7e447f31a18f4ea2190", func := "sounder/sounderlaw04.SpanGreat", spec := "spanGreat", inPlace := ["slices.overlaps[sounder/api.Range]"], unfollowed := true, recurses := true, apart := false, narrowed := true }
def SpanGreatUptoSaid : Prop := spanGreatUptoRow.holds Try.pinned (OpenSpec.upto spanGreatSpec)

/-- 'sounderlaw04.SpanKnown', WHERE WHAT IT READS IS OF BULK AT MOST 1048576: true; the input reads as it did. -/
def spanKnownUptoRow : OpenClaim := { program := "ytabchdolafplnaa", sum := "820339778c9da894fe2f434ce860ed858b5ce985db78d7e447f31a18f4ea2190", func := "sounder/sounderlaw04.SpanKnown", spec := "spanKnown", inPlace := ["slices.overlaps[sounder/api.Range]"], unfollowed := true, recurses := true, apart := false, narrowed := true }
def SpanKnownUptoSaid : Prop := spanKnownUptoRow.holds Try.pinned (OpenSpec.upto spanKnownSpec)

end Rows
end Go.Proofs.Ytabchdolafplnaa
