/-
  No cell of these rows narrows 'for every input' (looked for: loops, veiled, ifaces, maps, wideKeys, modest, calm, conditions, laid).
  DERIVED. THE GIVEN ROWS OF THIS SEAT. 7 by the template 'for every input the law returns true; each argument reads behind the call as it read before'; 0 by the template 'total and deterministic' (their statements: YtilkgjpgoogiiaaGreatTotals.lean).
  GIVEN WITH THE SEED: the statements are not yours to turn. If you find one false, say at which input.
  Laid BY PROGRAM, IN A SANDBOX (cutbox-rows.mjs): the forced cells as the released guide's own fill.sh prints them over the translation a84221a5826a59a5… (all of the seat's roots in one cut). By AI agents, Wed Nov 11 2026. No macro, syntax, notation, axiom, sorry.
-/
import Derived.Test.YtilkgjpgoogiiaaGreatChecked
import GoSem.Claim
import GoSem.ClaimJoined
import GoSem.ClaimMapViews
import Derived.JoinedTies
import Derived.KernelRfl
namespace Go.Proofs.YtilkgjpgoogiiaaGreat
/- THE CELL 'sum', in the pinned program and in every row, IS THE sha256 OF THE DUMP (.gsa) THAT YtilkgjpgoogiiaaGreatProg.lean LOADS. Nothing in Lean hashes anything: it is a label: what it is worth is what the hold of that sum in a sandbox is worth. -/
noncomputable def Tryz.pinned : Pinned := { name := "ytilkgjpgoogiiaagreat", sum := "a84221a5826a59a5732a522871a3f4d4858e073df0b0b12423e751088c7010d2", checked := Tryz.checked }
namespace Rows
def none {H : Type} : Left H := { results := [], args := [] }

/-- 'sounderlaw17.SpacePlays': WHATEVER THE INPUT: true; the input reads as it did. -/
def spacePlaysSpec : ChangeSpec := { name := "spacePlays", fn := fun _ => fun
  | [d1, d2] => { results := [.lit (.bool true)], args := [d1, d2] }
  | _ => none }
def spacePlaysRow : OpenClaim := { program := "ytilkgjpgoogiiaagreat", sum := "a84221a5826a59a5732a522871a3f4d4858e073df0b0b12423e751088c7010d2", func := "sounder/sounderlaw17.SpacePlays", spec := "spacePlays", inPlace := ["slices.overlaps[sounder/api.Range]"], unfollowed := true, recurses := true, named := ["math/bits.divideError", "math/bits.overflowError"], apart := false }
def SpacePlaysSaid : Prop := spacePlaysRow.holds Tryz.pinned (OpenSpec.ofChange spacePlaysSpec)

/-- ITS FALSE NEIGHBOUR: 'it returns false'. Refute it at one input. -/
def spacePlaysWrong : ChangeSpec := { name := "spacePlays", fn := fun _ => fun
  | [d1, d2] => { results := [.lit (.bool false)], args := [d1, d2] }
  | _ => none }
def SpacePlaysWrongFalsely : Prop := spacePlaysRow.holds Tryz.pinned (OpenSpec.ofChange spacePlaysWrong)

/-- 'sounderlaw17.SpaceOnce': WHATEVER THE INPUT: true; the input reads as it did. -/
def spaceOnceSpec : ChangeSpec := { name := "spaceOnce", fn := fun _ => fun
  | [d1, d2] => { results := [.lit (.bool true)], args := [d1, d2] }
  | _ => none }
def spaceOnceRow : OpenClaim := { program := "ytilkgjpgoogiiaagreat", sum := "a84221a5826a59a5732a522871a3f4d4858e073df0b0b12423e751088c7010d2", func := "sounder/sounderlaw17.SpaceOnce", spec := "spaceOnce", inPlace := ["slices.overlaps[sounder/api.Range]"], unfollowed := true, recurses := true, named := ["math/bits.divideError", "math/bits.overflowError"], apart := false }
def SpaceOnceSaid : Prop := spaceOnceRow.holds Tryz.pinned (OpenSpec.ofChange spaceOnceSpec)

/-- ITS FALSE NEIGHBOUR: 'it returns false'. Refute it at one input. -/
def spaceOnceWrong : ChangeSpec := { name := "spaceOnce", fn := fun _ => fun
  | [d1, d2] => { results := [.lit (.bool false)], args := [d1, d2] }
  | _ => none }
def SpaceOnceWrongFalsely : Prop := spaceOnceRow.holds Tryz.pinned (OpenSpec.ofChange spaceOnceWrong)

/-- 'sounderlaw17.SpaceBehind': WHATEVER THE INPUT: true; the input reads as it did. -/
def spaceBehindSpec : ChangeSpec := { name := "spaceBehind", fn := fun _ => fun
  | [d1, d2] => { results := [.lit (.bool true)], args := [d1, d2] }
  | _ => none }
def spaceBehindRow : OpenClaim := { program := "ytilkgjpgoogiiaagreat", sum := "a84221a5826a59a5732a522871a3f4d4858e073df0b0b12423e751088c7010d2", func := "sounder/sounderlaw17.SpaceBehind", spec := "spaceBehind", inPlace := ["slices.overlaps[sounder/api.Range]"], unfollowed := true, recurses := true, named := ["math/bits.divideError", "math/bits.overflowError"], apart := false }
def SpaceBehindSaid : Prop := spaceBehindRow.holds Tryz.pinned (OpenSpec.ofChange spaceBehindSpec)

/-- ITS FALSE NEIGHBOUR: 'it returns false'. Refute it at one input. -/
def spaceBehindWrong : ChangeSpec := { name := "spaceBehind", fn := fun _ => fun
  | [d1, d2] => { results := [.lit (.bool false)], args := [d1, d2] }
  | _ => none }
def SpaceBehindWrongFalsely : Prop := spaceBehindRow.holds Tryz.pinned (OpenSpec.ofChange spaceBehindWrong)

/-- 'sounderlaw17.SpaceGreatest': WHATEVER THE INPUT: true; the input reads as it did. -/
def spaceGreatestSpec : ChangeSpec := { name := "spaceGreatest", fn := fun _ => fun
  | [d1, d2, d3] => { results := [.lit (.bool true)], args := [d1, d2, d3] }
  | _ => none }
def spaceGreatestRow : OpenClaim := { program := "ytilkgjpgoogiiaagreat", sum := "a84221a5826a59a5732a522871a3f4d4858e073df0b0b12423e751088c7010d2", func := "sounder/sounderlaw17.SpaceGreatest", spec := "spaceGreatest", inPlace := ["slices.overlaps[sounder/api.Range]"], unfollowed := true, recurses := true, named := ["math/bits.divideError", "math/bits.overflowError"], apart := false }
def SpaceGreatestSaid : Prop := spaceGreatestRow.holds Tryz.pinned (OpenSpec.ofChange spaceGreatestSpec)

/-- ITS FALSE NEIGHBOUR: 'it returns false'. Refute it at one input. -/
def spaceGreatestWrong : ChangeSpec := { name := "spaceGreatest", fn := fun _ => fun
  | [d1, d2, d3] => { results := [.lit (.bool false)], args := [d1, d2, d3] }
  | _ => none }
def SpaceGreatestWrongFalsely : Prop := spaceGreatestRow.holds Tryz.pinned (OpenSpec.ofChange spaceGreatestWrong)

/-- 'sounderlaw17.SpaceSkipped': WHATEVER THE INPUT: true; the input reads as it did. -/
def spaceSkippedSpec : ChangeSpec := { name := "spaceSkipped", fn := fun _ => fun
  | [d] => { results := [.lit (.bool true)], args := [d] }
  | _ => none }
def spaceSkippedRow : OpenClaim := { program := "ytilkgjpgoogiiaagreat", sum := "a84221a5826a59a5732a522871a3f4d4858e073df0b0b12423e751088c7010d2", func := "sounder/sounderlaw17.SpaceSkipped", spec := "spaceSkipped", inPlace := ["slices.overlaps[sounder/api.Range]"], unfollowed := true, recurses := true, named := ["math/bits.divideError", "math/bits.overflowError"], apart := false }
def SpaceSkippedSaid : Prop := spaceSkippedRow.holds Tryz.pinned (OpenSpec.ofChange spaceSkippedSpec)

/-- ITS FALSE NEIGHBOUR: 'it returns false'. Refute it at one input. -/
def spaceSkippedWrong : ChangeSpec := { name := "spaceSkipped", fn := fun _ => fun
  | [d] => { results := [.lit (.bool false)], args := [d] }
  | _ => none }
def SpaceSkippedWrongFalsely : Prop := spaceSkippedRow.holds Tryz.pinned (OpenSpec.ofChange spaceSkippedWrong)

/-- 'sounderlaw17.SpaceDiscards': WHATEVER THE INPUT: true; the input reads as it did. -/
def spaceDiscardsSpec : ChangeSpec := { name := "spaceDiscards", fn := fun _ => fun
  | [d1, d2, d3] => { results := [.lit (.bool true)], args := [d1, d2, d3] }
  | _ => none }
def spaceDiscardsRow : OpenClaim := { program := "ytilkgjpgoogiiaagreat", sum := "a84221a5826a59a5732a522871a3f4d4858e073df0b0b12423e751088c7010d2", func := "sounder/sounderlaw17.SpaceDiscards", spec := "spaceDiscards", inPlace := ["slices.overlaps[sounder/api.Range]"], unfollowed := true, recurses := true, named := ["math/bits.divideError", "math/bits.overflowError"], apart := false }
def SpaceDiscardsSaid : Prop := spaceDiscardsRow.holds Tryz.pinned (OpenSpec.ofChange spaceDiscardsSpec)

/-- ITS FALSE NEIGHBOUR: 'it returns false'. Refute it at one input. -/
def spaceDiscardsWrong : ChangeSpec := { name := "spaceDiscards", fn := fun _ => fun
  | [d1, d2, d3] => { results := [.lit (.bool false)], args := [d1, d2, d3] }
  | _ => none }
def SpaceDiscardsWrongFalsely : Prop := spaceDiscardsRow.holds Tryz.pinned (OpenSpec.ofChange spaceDiscardsWrong)

/-- 'sounderlaw17.SpaceKnown': WHATEVER THE INPUT: true; the input reads as it did. -/
def spaceKnownSpec : ChangeSpec := { name := "spaceKnown", fn := fun _ => fun
  | [] => { results := [.lit (.bool true)], args := [] }
  | _ => none }
def spaceKnownRow : OpenClaim := { program := "ytilkgjpgoogiiaagreat", sum := "a84221a5826a59a5732a522871a3f4d4858e073df0b0b12423e751088c7010d2", func := "sounder/sounderlaw17.SpaceKnown", spec := "spaceKnown", inPlace := ["slices.overlaps[sounder/api.Range]"], unfollowed := true, recurses := true, named := ["math/bits.divideError", "math/bits.overflowError"], apart := false }
def SpaceKnownSaid : Prop := spaceKnownRow.holds Tryz.pinned (OpenSpec.ofChange spaceKnownSpec)

/-- ITS FALSE NEIGHBOUR: 'it returns false'. Refute it at one input. -/
def spaceKnownWrong : ChangeSpec := { name := "spaceKnown", fn := fun _ => fun
  | [] => { results := [.lit (.bool false)], args := [] }
  | _ => none }
def SpaceKnownWrongFalsely : Prop := spaceKnownRow.holds Tryz.pinned (OpenSpec.ofChange spaceKnownWrong)

/- THE SECOND FORM. 'bulk': how many values and letters a reading holds, each counted each time it is reached (what is shared counts as often as it is met; a slice's spare places count too). A statement '..UptoSaid' is the law's where the arguments, and the package variables that the reading takes, are together of bulk at most 1048576: NARROWER than '..Said'. Prove '..Said' where nothing that the law and all that it calls make is longer than what came in: it says more and counts as full. Else prove '..UptoSaid'. A law counts once. -/
mutual
def uptoBulk {H : Type} : DataW H → Nat
  | .lit (.string bytes) => bytes.length + 1
  | .lit _ => 1
  | .nil => 1
  | .ptr d => uptoBulk d + 1
  | .slice elems spare => uptoBulkAll elems + uptoBulkAll spare + 1
  | .agg parts => uptoBulkAll parts + 1
  | .iface _ d => uptoBulk d + 1
  | .map entries => uptoBulkEntries entries + 1
  | .held _ => 1
def uptoBulkAll {H : Type} : List (DataW H) → Nat
  | [] => 0
  | d :: r => uptoBulk d + uptoBulkAll r
def uptoBulkEntries {H : Type} : List (Lit × DataW H) → Nat
  | [] => 0
  | x :: r => uptoBulkEntry x + uptoBulkEntries r
def uptoBulkEntry {H : Type} : Lit × DataW H → Nat
  | (.string bytes, d) => bytes.length + uptoBulk d + 1
  | (_, d) => uptoBulk d + 1
 end
def uptoSmall : (H : Type) → List (DataW H) → Bool := fun _ ds => decide (uptoBulkAll ds ≤ 1048576)
def OpenSpec.upto (s : _root_.Go.ChangeSpec) : _root_.Go.OpenSpec := { _root_.Go.OpenSpec.ofChange s with cond := some uptoSmall }

/-- 'sounderlaw17.SpacePlays', WHERE WHAT IT READS IS OF BULK AT MOST 1048576: true; the input reads as it did. -/
def spacePlaysUptoRow : OpenClaim := { program := "ytilkgjpgoogiiaagreat", sum := "a84221a5826a59a5732a522871a3f4d4858e073df0b0b12423e751088c7010d2", func := "sounder/sounderlaw17.SpacePlays", spec := "spacePlays", inPlace := ["slices.overlaps[sounder/api.Range]"], unfollowed := true, recurses := true, named := ["math/bits.divideError", "math/bits.overflowError"], apart := false, narrowed := true }
def SpacePlaysUptoSaid : Prop := spacePlaysUptoRow.holds Tryz.pinned (OpenSpec.upto spacePlaysSpec)

/-- 'sounderlaw17.SpaceOnce', WHERE WHAT IT READS IS OF BULK AT MOST 1048576: true; the input reads as it did. -/
def spaceOnceUptoRow : OpenClaim := { program := "ytilkgjpgoogiiaagreat", sum := "a84221a5826a59a5732a522871a3f4d4858e073df0b0b12423e751088c7010d2", func := "sounder/sounderlaw17.SpaceOnce", spec := "spaceOnce", inPlace := ["slices.overlaps[sounder/api.Range]"], unfollowed := true, recurses := true, named := ["math/bits.divideError", "math/bits.overflowError"], apart := false, narrowed := true }
def SpaceOnceUptoSaid : Prop := spaceOnceUptoRow.holds Tryz.pinned (OpenSpec.upto spaceOnceSpec)

/-- 'sounderlaw17.SpaceBehind', WHERE WHAT IT READS IS OF BULK AT MOST 1048576: true; the input reads as it did. -/
def spaceBehindUptoRow : OpenClaim := { program := "ytilkgjpgoogiiaagreat", sum := "a84221a5826a59a5732a522871a3f4d4858e073df0b0b12423e751088c7010d2", func := "sounder/sounderlaw17.SpaceBehind", spec := "spaceBehind", inPlace := ["slices.overlaps[sounder/api.Range]"], unfollowed := true, recurses := true, named := ["math/bits.divideError", "math/bits.overflowError"], apart := false, narrowed := true }
def SpaceBehindUptoSaid : Prop := spaceBehindUptoRow.holds Tryz.pinned (OpenSpec.upto spaceBehindSpec)

/-- 'sounderlaw17.SpaceGreatest', WHERE WHAT IT READS IS OF BULK AT MOST 1048576: true; the input reads as it did. -/
def spaceGreatestUptoRow : OpenClaim := { program := "ytilkgjpgoogiiaagreat", sum := "a84221a5826a59a5732a522871a3f4d4858e073df0b0b12423e751088c7010d2", func := "sounder/sounderlaw17.SpaceGreatest", spec := "spaceGreatest", inPlace := ["slices.overlaps[sounder/api.Range]"], unfollowed := true, recurses := true, named := ["math/bits.divideError", "math/bits.overflowError"], apart := false, narrowed := true }
def SpaceGreatestUptoSaid : Prop := spaceGreatestUptoRow.holds Tryz.pinned (OpenSpec.upto spaceGreatestSpec)

/-- 'sounderlaw17.SpaceSkipped', WHERE WHAT IT READS IS OF BULK AT MOST 1048576: true; the input reads as it did. -/
def spaceSkippedUptoRow : OpenClaim := { program := "ytilkgjpgoogiiaagreat", sum := "a84221a5826a59a5732a522871a3f4d4858e073df0b0b12423e751088c7010d2", func := "sounder/sounderlaw17.SpaceSkipped", spec := "spaceSkipped", inPlace := ["slices.overlaps[sounder/api.Range]"], unfollowed := true, recurses := true, named := ["math/bits.divideError", "math/bits.overflowError"], apart := false, narrowed := true }
def SpaceSkippedUptoSaid : Prop := spaceSkippedUptoRow.holds Tryz.pinned (OpenSpec.upto spaceSkippedSpec)

/-- 'sounderlaw17.SpaceDiscards', WHERE WHAT IT READS IS OF BULK AT MOST 1048576: true; the input reads as it did. -/
def spaceDiscardsUptoRow : OpenClaim := { program := "ytilkgjpgoogiiaagreat", sum := "a84221a5826a59a5732a522871a3f4d4858e073df0b0b12423e751088c7010d2", func := "sounder/sounderlaw17.SpaceDiscards", spec := "spaceDiscards", inPlace := ["slices.overlaps[sounder/api.Range]"], unfollowed := true, recurses := true, named := ["math/bits.divideError", "math/bits.overflowError"], apart := false, narrowed := true }
def SpaceDiscardsUptoSaid : Prop := spaceDiscardsUptoRow.holds Tryz.pinned (OpenSpec.upto spaceDiscardsSpec)

/-- 'sounderlaw17.SpaceKnown', WHERE WHAT IT READS IS OF BULK AT MOST 1048576: true; the input reads as it did. -/
def spaceKnownUptoRow : OpenClaim := { program := "ytilkgjpgoogiiaagreat", sum := "a84221a5826a59a5732a522871a3f4d4858e073df0b0b12423e751088c7010d2", func := "sounder/sounderlaw17.SpaceKnown", spec := "spaceKnown", inPlace := ["slices.overlaps[sounder/api.Range]"], unfollowed := true, recurses := true, named := ["math/bits.divideError", "math/bits.overflowError"], apart := false, narrowed := true }
def SpaceKnownUptoSaid : Prop := spaceKnownUptoRow.holds Tryz.pinned (OpenSpec.upto spaceKnownSpec)

end Rows
end Go.Proofs.YtilkgjpgoogiiaaGreat
