/-
  No cell of these rows narrows 'for every input' (looked for: loops, veiled, ifaces, maps, wideKeys, modest, calm, conditions, laid).
  DERIVED. THE GIVEN ROWS OF THIS SEAT. 7 by the template 'for every input the law returns true; each argument reads behind the call as it read before'; 0 by the template 'total and deterministic' (their statements: YtiifihipeidphaaTotals.lean).
  GIVEN WITH THE SEED: the statements are not yours to turn. If you find one false, say at which input.
  Laid BY PROGRAM, IN A SANDBOX (cutbox-rows.mjs): the forced cells as the released guide's own fill.sh prints them over the translation a75924d42d3c4b1f… (all of the seat's roots in one cut). By AI agents, Wed Nov 11 2026. No macro, syntax, notation, axiom, sorry.
-/
import Derived.Test.YtiifihipeidphaaChecked
import GoSem.Claim
import GoSem.ClaimJoined
import GoSem.ClaimMapViews
import Derived.JoinedTies
import Derived.KernelRfl
namespace Go.Proofs.Ytiifihipeidphaa
/- THE CELL 'sum', in the pinned program and in every row, IS THE sha256 OF THE DUMP (.gsa) THAT YtiifihipeidphaaProg.lean LOADS. Nothing in Lean hashes anything: it is a label: what it is worth is what the hold of that sum in a sandbox is worth. -/
noncomputable def Try.pinned : Pinned := { name := "ytiifihipeidphaa", sum := "a75924d42d3c4b1f7f416519e2745da914b3bc3df365fb33d32bc367d30474c9", checked := Try.checked }
namespace Rows
def none {H : Type} : Left H := { results := [], args := [] }

/-- 'sounderlaw08.PtoTells': WHATEVER THE INPUT: true; the input reads as it did. -/
def ptoTellsSpec : ChangeSpec := { name := "ptoTells", fn := fun _ => fun
  | [d1, d2, d3] => { results := [.lit (.bool true)], args := [d1, d2, d3] }
  | _ => none }
def ptoTellsRow : OpenClaim := { program := "ytiifihipeidphaa", sum := "a75924d42d3c4b1f7f416519e2745da914b3bc3df365fb33d32bc367d30474c9", func := "sounder/sounderlaw08.PtoTells", spec := "ptoTells", named := ["math/bits.divideError", "math/bits.overflowError"], apart := false }
def PtoTellsSaid : Prop := ptoTellsRow.holds Try.pinned (OpenSpec.ofChange ptoTellsSpec)

/-- ITS FALSE NEIGHBOUR: 'it returns false'. Refute it at one input. -/
def ptoTellsWrong : ChangeSpec := { name := "ptoTells", fn := fun _ => fun
  | [d1, d2, d3] => { results := [.lit (.bool false)], args := [d1, d2, d3] }
  | _ => none }
def PtoTellsWrongFalsely : Prop := ptoTellsRow.holds Try.pinned (OpenSpec.ofChange ptoTellsWrong)

/-- 'sounderlaw08.PtoBacks': WHATEVER THE INPUT: true; the input reads as it did. -/
def ptoBacksSpec : ChangeSpec := { name := "ptoBacks", fn := fun _ => fun
  | [d1, d2, d3] => { results := [.lit (.bool true)], args := [d1, d2, d3] }
  | _ => none }
def ptoBacksRow : OpenClaim := { program := "ytiifihipeidphaa", sum := "a75924d42d3c4b1f7f416519e2745da914b3bc3df365fb33d32bc367d30474c9", func := "sounder/sounderlaw08.PtoBacks", spec := "ptoBacks", named := ["math/bits.divideError", "math/bits.overflowError"], apart := false }
def PtoBacksSaid : Prop := ptoBacksRow.holds Try.pinned (OpenSpec.ofChange ptoBacksSpec)

/-- ITS FALSE NEIGHBOUR: 'it returns false'. Refute it at one input. -/
def ptoBacksWrong : ChangeSpec := { name := "ptoBacks", fn := fun _ => fun
  | [d1, d2, d3] => { results := [.lit (.bool false)], args := [d1, d2, d3] }
  | _ => none }
def PtoBacksWrongFalsely : Prop := ptoBacksRow.holds Try.pinned (OpenSpec.ofChange ptoBacksWrong)

/-- 'sounderlaw08.PtoLeast': WHATEVER THE INPUT: true; the input reads as it did. -/
def ptoLeastSpec : ChangeSpec := { name := "ptoLeast", fn := fun _ => fun
  | [d1, d2, d3] => { results := [.lit (.bool true)], args := [d1, d2, d3] }
  | _ => none }
def ptoLeastRow : OpenClaim := { program := "ytiifihipeidphaa", sum := "a75924d42d3c4b1f7f416519e2745da914b3bc3df365fb33d32bc367d30474c9", func := "sounder/sounderlaw08.PtoLeast", spec := "ptoLeast", named := ["math/bits.divideError", "math/bits.overflowError"], apart := false }
def PtoLeastSaid : Prop := ptoLeastRow.holds Try.pinned (OpenSpec.ofChange ptoLeastSpec)

/-- ITS FALSE NEIGHBOUR: 'it returns false'. Refute it at one input. -/
def ptoLeastWrong : ChangeSpec := { name := "ptoLeast", fn := fun _ => fun
  | [d1, d2, d3] => { results := [.lit (.bool false)], args := [d1, d2, d3] }
  | _ => none }
def PtoLeastWrongFalsely : Prop := ptoLeastRow.holds Try.pinned (OpenSpec.ofChange ptoLeastWrong)

/-- 'sounderlaw08.PtoNew': WHATEVER THE INPUT: true; the input reads as it did. -/
def ptoNewSpec : ChangeSpec := { name := "ptoNew", fn := fun _ => fun
  | [d] => { results := [.lit (.bool true)], args := [d] }
  | _ => none }
def ptoNewRow : OpenClaim := { program := "ytiifihipeidphaa", sum := "a75924d42d3c4b1f7f416519e2745da914b3bc3df365fb33d32bc367d30474c9", func := "sounder/sounderlaw08.PtoNew", spec := "ptoNew", named := ["math/bits.divideError", "math/bits.overflowError"], apart := false }
def PtoNewSaid : Prop := ptoNewRow.holds Try.pinned (OpenSpec.ofChange ptoNewSpec)

/-- ITS FALSE NEIGHBOUR: 'it returns false'. Refute it at one input. -/
def ptoNewWrong : ChangeSpec := { name := "ptoNew", fn := fun _ => fun
  | [d] => { results := [.lit (.bool false)], args := [d] }
  | _ => none }
def PtoNewWrongFalsely : Prop := ptoNewRow.holds Try.pinned (OpenSpec.ofChange ptoNewWrong)

/-- 'sounderlaw08.PtoOrder': WHATEVER THE INPUT: true; the input reads as it did. -/
def ptoOrderSpec : ChangeSpec := { name := "ptoOrder", fn := fun _ => fun
  | [d1, d2] => { results := [.lit (.bool true)], args := [d1, d2] }
  | _ => none }
def ptoOrderRow : OpenClaim := { program := "ytiifihipeidphaa", sum := "a75924d42d3c4b1f7f416519e2745da914b3bc3df365fb33d32bc367d30474c9", func := "sounder/sounderlaw08.PtoOrder", spec := "ptoOrder", named := ["math/bits.divideError", "math/bits.overflowError"], apart := false }
def PtoOrderSaid : Prop := ptoOrderRow.holds Try.pinned (OpenSpec.ofChange ptoOrderSpec)

/-- ITS FALSE NEIGHBOUR: 'it returns false'. Refute it at one input. -/
def ptoOrderWrong : ChangeSpec := { name := "ptoOrder", fn := fun _ => fun
  | [d1, d2] => { results := [.lit (.bool false)], args := [d1, d2] }
  | _ => none }
def PtoOrderWrongFalsely : Prop := ptoOrderRow.holds Try.pinned (OpenSpec.ofChange ptoOrderWrong)

/-- 'sounderlaw08.PtoTwice': WHATEVER THE INPUT: true; the input reads as it did. -/
def ptoTwiceSpec : ChangeSpec := { name := "ptoTwice", fn := fun _ => fun
  | [d1, d2, d3] => { results := [.lit (.bool true)], args := [d1, d2, d3] }
  | _ => none }
def ptoTwiceRow : OpenClaim := { program := "ytiifihipeidphaa", sum := "a75924d42d3c4b1f7f416519e2745da914b3bc3df365fb33d32bc367d30474c9", func := "sounder/sounderlaw08.PtoTwice", spec := "ptoTwice", named := ["math/bits.divideError", "math/bits.overflowError"], apart := false }
def PtoTwiceSaid : Prop := ptoTwiceRow.holds Try.pinned (OpenSpec.ofChange ptoTwiceSpec)

/-- ITS FALSE NEIGHBOUR: 'it returns false'. Refute it at one input. -/
def ptoTwiceWrong : ChangeSpec := { name := "ptoTwice", fn := fun _ => fun
  | [d1, d2, d3] => { results := [.lit (.bool false)], args := [d1, d2, d3] }
  | _ => none }
def PtoTwiceWrongFalsely : Prop := ptoTwiceRow.holds Try.pinned (OpenSpec.ofChange ptoTwiceWrong)

/-- 'sounderlaw08.PtoKnown': WHATEVER THE INPUT: true; the input reads as it did. -/
def ptoKnownSpec : ChangeSpec := { name := "ptoKnown", fn := fun _ => fun
  | [] => { results := [.lit (.bool true)], args := [] }
  | _ => none }
def ptoKnownRow : OpenClaim := { program := "ytiifihipeidphaa", sum := "a75924d42d3c4b1f7f416519e2745da914b3bc3df365fb33d32bc367d30474c9", func := "sounder/sounderlaw08.PtoKnown", spec := "ptoKnown", named := ["math/bits.divideError", "math/bits.overflowError"], apart := false }
def PtoKnownSaid : Prop := ptoKnownRow.holds Try.pinned (OpenSpec.ofChange ptoKnownSpec)

/-- ITS FALSE NEIGHBOUR: 'it returns false'. Refute it at one input. -/
def ptoKnownWrong : ChangeSpec := { name := "ptoKnown", fn := fun _ => fun
  | [] => { results := [.lit (.bool false)], args := [] }
  | _ => none }
def PtoKnownWrongFalsely : Prop := ptoKnownRow.holds Try.pinned (OpenSpec.ofChange ptoKnownWrong)

/- THE SECOND FORM. 'bulk': how many values and letters a reading holds, each counted each time it is reached (what is shared counts as often as it is met; a slice's spare places count too). A statement '..UptoSaid' is the law's where the arguments, and the package variables that the reading takes, are together of bulk at most 1048576: NARROWER than '..Said'. Prove '..Said' where nothing that the law and all that it calls make is longer than what came in: it says more and counts as full. Else prove '..UptoSaid'. A law counts once. -/
mutual
def uptoBulk {H : Type} : DataW H → Nat
  | .lit (.string bytes) => bytes.length + 1
  | .lit _ => 1
  | .nil => 1
  | .ptr d => uptoBulk d + 1
  | .slice elems spare => uptoBulkAll elems + uptoBulkAll spare + 1
  | .agg parts => uptoBulkAll parts + 1
  | .iface _ d => uptoBulk d + 1
  | .map entries => uptoBulkEntries entries + 1
  | .held _ => 1
def uptoBulkAll {H : Type} : List (DataW H) → Nat
  | [] => 0
  | d :: r => uptoBulk d + uptoBulkAll r
def uptoBulkEntries {H : Type} : List (Lit × DataW H) → Nat
  | [] => 0
  | x :: r => uptoBulkEntry x + uptoBulkEntries r
def uptoBulkEntry {H : Type} : Lit × DataW H → Nat
  | (.string bytes, d) => bytes.length + uptoBulk d + 1
  | (_, d) => uptoBulk d + 1
 end
def uptoSmall : (H : Type) → List (DataW H) → Bool := fun _ ds => decide (uptoBulkAll ds ≤ 1048576)
def OpenSpec.upto (s : _root_.Go.ChangeSpec) : _root_.Go.OpenSpec := { _root_.Go.OpenSpec.ofChange s with cond := some uptoSmall }

/-- 'sounderlaw08.PtoTells', WHERE WHAT IT READS IS OF BULK AT MOST 1048576: true; the input reads as it did. -/
def ptoTellsUptoRow : OpenClaim := { program := "ytiifihipeidphaa", sum := "a75924d42d3c4b1f7f416519e2745da914b3bc3df365fb33d32bc367d30474c9", func := "sounder/sounderlaw08.PtoTells", spec := "ptoTells", named := ["math/bits.divideError", "math/bits.overflowError"], apart := false, narrowed := true }
def PtoTellsUptoSaid : Prop := ptoTellsUptoRow.holds Try.pinned (OpenSpec.upto ptoTellsSpec)

/-- 'sounderlaw08.PtoBacks', WHERE WHAT IT READS IS OF BULK AT MOST 1048576: true; the input reads as it did. -/
def ptoBacksUptoRow : OpenClaim := { program := "ytiifihipeidphaa", sum := "a75924d42d3c4b1f7f416519e2745da914b3bc3df365fb33d32bc367d30474c9", func := "sounder/sounderlaw08.PtoBacks", spec := "ptoBacks", named := ["math/bits.divideError", "math/bits.overflowError"], apart := false, narrowed := true }
def PtoBacksUptoSaid : Prop := ptoBacksUptoRow.holds Try.pinned (OpenSpec.upto ptoBacksSpec)

/-- 'sounderlaw08.PtoLeast', WHERE WHAT IT READS IS OF BULK AT MOST 1048576: true; the input reads as it did. -/
def ptoLeastUptoRow : OpenClaim := { program := "ytiifihipeidphaa", sum := "a75924d42d3c4b1f7f416519e2745da914b3bc3df365fb33d32bc367d30474c9", func := "sounder/sounderlaw08.PtoLeast", spec := "ptoLeast", named := ["math/bits.divideError", "math/bits.overflowError"], apart := false, narrowed := true }
def PtoLeastUptoSaid : Prop := ptoLeastUptoRow.holds Try.pinned (OpenSpec.upto ptoLeastSpec)

/-- 'sounderlaw08.PtoNew', WHERE WHAT IT READS IS OF BULK AT MOST 1048576: true; the input reads as it did. -/
def ptoNewUptoRow : OpenClaim := { program := "ytiifihipeidphaa", sum := "a75924d42d3c4b1f7f416519e2745da914b3bc3df365fb33d32bc367d30474c9", func := "sounder/sounderlaw08.PtoNew", spec := "ptoNew", named := ["math/bits.divideError", "math/bits.overflowError"], apart := false, narrowed := true }
def PtoNewUptoSaid : Prop := ptoNewUptoRow.holds Try.pinned (OpenSpec.upto ptoNewSpec)

/-- 'sounderlaw08.PtoOrder', WHERE WHAT IT READS IS OF BULK AT MOST 1048576: true; the input reads as it did. -/
def ptoOrderUptoRow : OpenClaim := { program := "ytiifihipeidphaa", sum := "a75924d42d3c4b1f7f416519e2745da914b3bc3df365fb33d32bc367d30474c9", func := "sounder/sounderlaw08.PtoOrder", spec := "ptoOrder", named := ["math/bits.divideError", "math/bits.overflowError"], apart := false, narrowed := true }
def PtoOrderUptoSaid : Prop := ptoOrderUptoRow.holds Try.pinned (OpenSpec.upto ptoOrderSpec)

/-- 'sounderlaw08.PtoTwice', WHERE WHAT IT READS IS OF BULK AT MOST 1048576: true; the input reads as it did. -/
def ptoTwiceUptoRow : OpenClaim := { program := "ytiifihipeidphaa", sum := "a75924d42d3c4b1f7f416519e2745da914b3bc3df365fb33d32bc367d30474c9", func := "sounder/sounderlaw08.PtoTwice", spec := "ptoTwice", named := ["math/bits.divideError", "math/bits.overflowError"], apart := false, narrowed := true }
def PtoTwiceUptoSaid : Prop := ptoTwiceUptoRow.holds Try.pinned (OpenSpec.upto ptoTwiceSpec)

/-- 'sounderlaw08.PtoKnown', WHERE WHAT IT READS IS OF BULK AT MOST 1048576: true; the input reads as it did. -/
def ptoKnownUptoRow : OpenClaim := { program := "ytiifihipeidphaa", sum := "a75924d42d3c4b1f7f416519e2745da914b3bc3df365fb33d32bc367d30474c9", func := "sounder/sounderlaw08.PtoKnown", spec := "ptoKnown", named := ["math/bits.divideError", "math/bits.overflowError"], apart := false, narrowed := true }
def PtoKnownUptoSaid : Prop := ptoKnownUptoRow.holds Try.pinned (OpenSpec.upto ptoKnownSpec)

end Rows
end Go.Proofs.Ytiifihipeidphaa
