/-
  No cell of these rows narrows 'for every input' (looked for: loops, veiled, ifaces, maps, wideKeys, modest, calm, conditions, laid).
  DERIVED. THE GIVEN ROWS OF THIS SEAT. 7 by the template 'for every input the law returns true; each argument reads behind the call as it read before'; 0 by the template 'total and deterministic' (their statements: YtcjfaegmbbpcaaaTotals.lean).
  GIVEN WITH THE SEED: the statements are not yours to turn. If you find one false, say at which input.
  Laid BY PROGRAM, IN A SANDBOX (cutbox-rows.mjs): the forced cells as the released guide's own fill.sh prints them over the translation b8b9abe18f70b9cf… (all of the seat's roots in one cut). By AI agents, Wed Nov 11 2026. No macro, syntax, notation, axiom, sorry.
-/
import Derived.Test.YtcjfaegmbbpcaaaChecked
import GoSem.Claim
import GoSem.ClaimJoined
import GoSem.ClaimMapViews
import Derived.JoinedTies
import Derived.KernelRfl
namespace Go.Proofs.Ytcjfaegmbbpcaaa
/- THE CELL 'sum', in the pinned program and in every row, IS THE sha256 OF THE DUMP (.gsa) THAT YtcjfaegmbbpcaaaProg.lean LOADS. Nothing in Lean hashes anything: it is a label: what it is worth is what the hold of that sum in a sandbox is worth. -/
noncomputable def Try.pinned : Pinned := { name := "ytcjfaegmbbpcaaa", sum := "b8b9abe18f70b9cff2c61844f0bc3a792a12cf0705b194a96d0d0b4f5f866f26", checked := Try.checked }
namespace Rows
def none {H : Type} : Left H := { results := [], args := [] }

/-- 'sounderlaw16.HandPlays': WHATEVER THE INPUT: true; the input reads as it did. -/
def handPlaysSpec : ChangeSpec := { name := "handPlays", fn := fun _ => fun
  | [d1, d2] => { results := [.lit (.bool true)], args := [d1, d2] }
  | _ => none }
def handPlaysRow : OpenClaim := { program := "ytcjfaegmbbpcaaa", sum := "b8b9abe18f70b9cff2c61844f0bc3a792a12cf0705b194a96d0d0b4f5f866f26", func := "sounder/sounderlaw16.HandPlays", spec := "handPlays", apart := false }
def HandPlaysSaid : Prop := handPlaysRow.holds Try.pinned (OpenSpec.ofChange handPlaysSpec)

/-- ITS FALSE NEIGHBOUR: 'it returns false'. Refute it at one input. -/
def handPlaysWrong : ChangeSpec := { name := "handPlays", fn := fun _ => fun
  | [d1, d2] => { results := [.lit (.bool false)], args := [d1, d2] }
  | _ => none }
def HandPlaysWrongFalsely : Prop := handPlaysRow.holds Try.pinned (OpenSpec.ofChange handPlaysWrong)

/-- 'sounderlaw16.HandStays': WHATEVER THE INPUT: true; the input reads as it did. -/
def handStaysSpec : ChangeSpec := { name := "handStays", fn := fun _ => fun
  | [d1, d2] => { results := [.lit (.bool true)], args := [d1, d2] }
  | _ => none }
def handStaysRow : OpenClaim := { program := "ytcjfaegmbbpcaaa", sum := "b8b9abe18f70b9cff2c61844f0bc3a792a12cf0705b194a96d0d0b4f5f866f26", func := "sounder/sounderlaw16.HandStays", spec := "handStays", apart := false }
def HandStaysSaid : Prop := handStaysRow.holds Try.pinned (OpenSpec.ofChange handStaysSpec)

/-- ITS FALSE NEIGHBOUR: 'it returns false'. Refute it at one input. -/
def handStaysWrong : ChangeSpec := { name := "handStays", fn := fun _ => fun
  | [d1, d2] => { results := [.lit (.bool false)], args := [d1, d2] }
  | _ => none }
def HandStaysWrongFalsely : Prop := handStaysRow.holds Try.pinned (OpenSpec.ofChange handStaysWrong)

/-- 'sounderlaw16.HandRefuses': WHATEVER THE INPUT: true; the input reads as it did. -/
def handRefusesSpec : ChangeSpec := { name := "handRefuses", fn := fun _ => fun
  | [d1, d2, d3] => { results := [.lit (.bool true)], args := [d1, d2, d3] }
  | _ => none }
def handRefusesRow : OpenClaim := { program := "ytcjfaegmbbpcaaa", sum := "b8b9abe18f70b9cff2c61844f0bc3a792a12cf0705b194a96d0d0b4f5f866f26", func := "sounder/sounderlaw16.HandRefuses", spec := "handRefuses", apart := false }
def HandRefusesSaid : Prop := handRefusesRow.holds Try.pinned (OpenSpec.ofChange handRefusesSpec)

/-- ITS FALSE NEIGHBOUR: 'it returns false'. Refute it at one input. -/
def handRefusesWrong : ChangeSpec := { name := "handRefuses", fn := fun _ => fun
  | [d1, d2, d3] => { results := [.lit (.bool false)], args := [d1, d2, d3] }
  | _ => none }
def HandRefusesWrongFalsely : Prop := handRefusesRow.holds Try.pinned (OpenSpec.ofChange handRefusesWrong)

/-- 'sounderlaw16.HandLives': WHATEVER THE INPUT: true; the input reads as it did. -/
def handLivesSpec : ChangeSpec := { name := "handLives", fn := fun _ => fun
  | [d1, d2] => { results := [.lit (.bool true)], args := [d1, d2] }
  | _ => none }
def handLivesRow : OpenClaim := { program := "ytcjfaegmbbpcaaa", sum := "b8b9abe18f70b9cff2c61844f0bc3a792a12cf0705b194a96d0d0b4f5f866f26", func := "sounder/sounderlaw16.HandLives", spec := "handLives", apart := false }
def HandLivesSaid : Prop := handLivesRow.holds Try.pinned (OpenSpec.ofChange handLivesSpec)

/-- ITS FALSE NEIGHBOUR: 'it returns false'. Refute it at one input. -/
def handLivesWrong : ChangeSpec := { name := "handLives", fn := fun _ => fun
  | [d1, d2] => { results := [.lit (.bool false)], args := [d1, d2] }
  | _ => none }
def HandLivesWrongFalsely : Prop := handLivesRow.holds Try.pinned (OpenSpec.ofChange handLivesWrong)

/-- 'sounderlaw16.HandSure': WHATEVER THE INPUT: true; the input reads as it did. -/
def handSureSpec : ChangeSpec := { name := "handSure", fn := fun _ => fun
  | [d] => { results := [.lit (.bool true)], args := [d] }
  | _ => none }
def handSureRow : OpenClaim := { program := "ytcjfaegmbbpcaaa", sum := "b8b9abe18f70b9cff2c61844f0bc3a792a12cf0705b194a96d0d0b4f5f866f26", func := "sounder/sounderlaw16.HandSure", spec := "handSure", apart := false }
def HandSureSaid : Prop := handSureRow.holds Try.pinned (OpenSpec.ofChange handSureSpec)

/-- ITS FALSE NEIGHBOUR: 'it returns false'. Refute it at one input. -/
def handSureWrong : ChangeSpec := { name := "handSure", fn := fun _ => fun
  | [d] => { results := [.lit (.bool false)], args := [d] }
  | _ => none }
def HandSureWrongFalsely : Prop := handSureRow.holds Try.pinned (OpenSpec.ofChange handSureWrong)

/-- 'sounderlaw16.HandCopies': WHATEVER THE INPUT: true; the input reads as it did. -/
def handCopiesSpec : ChangeSpec := { name := "handCopies", fn := fun _ => fun
  | [d1, d2, d3] => { results := [.lit (.bool true)], args := [d1, d2, d3] }
  | _ => none }
def handCopiesRow : OpenClaim := { program := "ytcjfaegmbbpcaaa", sum := "b8b9abe18f70b9cff2c61844f0bc3a792a12cf0705b194a96d0d0b4f5f866f26", func := "sounder/sounderlaw16.HandCopies", spec := "handCopies", apart := false }
def HandCopiesSaid : Prop := handCopiesRow.holds Try.pinned (OpenSpec.ofChange handCopiesSpec)

/-- ITS FALSE NEIGHBOUR: 'it returns false'. Refute it at one input. -/
def handCopiesWrong : ChangeSpec := { name := "handCopies", fn := fun _ => fun
  | [d1, d2, d3] => { results := [.lit (.bool false)], args := [d1, d2, d3] }
  | _ => none }
def HandCopiesWrongFalsely : Prop := handCopiesRow.holds Try.pinned (OpenSpec.ofChange handCopiesWrong)

/-- 'sounderlaw16.HandKnown': WHATEVER THE INPUT: true; the input reads as it did. -/
def handKnownSpec : ChangeSpec := { name := "handKnown", fn := fun _ => fun
  | [] => { results := [.lit (.bool true)], args := [] }
  | _ => none }
def handKnownRow : OpenClaim := { program := "ytcjfaegmbbpcaaa", sum := "b8b9abe18f70b9cff2c61844f0bc3a792a12cf0705b194a96d0d0b4f5f866f26", func := "sounder/sounderlaw16.HandKnown", spec := "handKnown", apart := false }
def HandKnownSaid : Prop := handKnownRow.holds Try.pinned (OpenSpec.ofChange handKnownSpec)

/-- ITS FALSE NEIGHBOUR: 'it returns false'. Refute it at one input. -/
def handKnownWrong : ChangeSpec := { name := "handKnown", fn := fun _ => fun
  | [] => { results := [.lit (.bool false)], args := [] }
  | _ => none }
def HandKnownWrongFalsely : Prop := handKnownRow.holds Try.pinned (OpenSpec.ofChange handKnownWrong)

/- THE SECOND FORM. 'bulk': how many values and letters a reading holds, each counted each time it is reached (what is shared counts as often as it is met; a slice's spare places count too). A statement '..UptoSaid' is the law's where the arguments, and the package variables that the reading takes, are together of bulk at most 1048576: NARROWER than '..Said'. Prove '..Said' where nothing that the law and all that it calls make is longer than what came in: it says more and counts as full. Else prove '..UptoSaid'. A law counts once. -/
mutual
def uptoBulk {H : Type} : DataW H → Nat
  | .lit (.string bytes) => bytes.length + 1
  | .lit _ => 1
  | .nil => 1
  | .ptr d => uptoBulk d + 1
  | .slice elems spare => uptoBulkAll elems + uptoBulkAll spare + 1
  | .agg parts => uptoBulkAll parts + 1
  | .iface _ d => uptoBulk d + 1
  | .map entries => uptoBulkEntries entries + 1
  | .held _ => 1
def uptoBulkAll {H : Type} : List (DataW H) → Nat
  | [] => 0
  | d :: r => uptoBulk d + uptoBulkAll r
def uptoBulkEntries {H : Type} : List (Lit × DataW H) → Nat
  | [] => 0
  | x :: r => uptoBulkEntry x + uptoBulkEntries r
def uptoBulkEntry {H : Type} : Lit × DataW H → Nat
  | (.string bytes, d) => bytes.length + uptoBulk d + 1
  | (_, d) => uptoBulk d + 1
 end
def uptoSmall : (H : Type) → List (DataW H) → Bool := fun _ ds => decide (uptoBulkAll ds ≤ 1048576)
def OpenSpec.upto (s : _root_.Go.ChangeSpec) : _root_.Go.OpenSpec := { _root_.Go.OpenSpec.ofChange s with cond := some uptoSmall }

/-- 'sounderlaw16.HandPlays', WHERE WHAT IT READS IS OF BULK AT MOST 1048576: true; the input reads as it did. -/
def handPlaysUptoRow : OpenClaim := { program := "ytcjfaegmbbpcaaa", sum := "b8b9abe18f70b9cff2c61844f0bc3a792a12cf0705b194a96d0d0b4f5f866f26", func := "sounder/sounderlaw16.HandPlays", spec := "handPlays", apart := false, narrowed := true }
def HandPlaysUptoSaid : Prop := handPlaysUptoRow.holds Try.pinned (OpenSpec.upto handPlaysSpec)

/-- 'sounderlaw16.HandStays', WHERE WHAT IT READS IS OF BULK AT MOST 1048576: true; the input reads as it did. -/
def handStaysUptoRow : OpenClaim := { program := "ytcjfaegmbbpcaaa", sum := "b8b9abe18f70b9cff2c61844f0bc3a792a12cf0705b194a96d0d0b4f5f866f26", func := "sounder/sounderlaw16.HandStays", spec := "handStays", apart := false, narrowed := true }
def HandStaysUptoSaid : Prop := handStaysUptoRow.holds Try.pinned (OpenSpec.upto handStaysSpec)

/-- 'sounderlaw16.HandRefuses', WHERE WHAT IT READS IS OF BULK AT MOST 1048576: true; the input reads as it did. -/
def handRefusesUptoRow : OpenClaim := { program := "ytcjfaegmbbpcaaa", sum := "b8b9abe18f70b9cff2c61844f0bc3a792a12cf0705b194a96d0d0b4f5f866f26", func := "sounder/sounderlaw16.HandRefuses", spec := "handRefuses", apart := false, narrowed := true }
def HandRefusesUptoSaid : Prop := handRefusesUptoRow.holds Try.pinned (OpenSpec.upto handRefusesSpec)

/-- 'sounderlaw16.HandLives', WHERE WHAT IT READS IS OF BULK AT MOST 1048576: true; the input reads as it did. -/
def handLivesUptoRow : OpenClaim := { program := "ytcjfaegmbbpcaaa", sum := "b8b9abe18f70b9cff2c61844f0bc3a792a12cf0705b194a96d0d0b4f5f866f26", func := "sounder/sounderlaw16.HandLives", spec := "handLives", apart := false, narrowed := true }
def HandLivesUptoSaid : Prop := handLivesUptoRow.holds Try.pinned (OpenSpec.upto handLivesSpec)

/-- 'sounderlaw16.HandSure', WHERE WHAT IT READS IS OF BULK AT MOST 1048576: true; the input reads as it did. -/
def handSureUptoRow : OpenClaim := { program := "ytcjfaegmbbpcaaa", sum := "b8b9abe18f70b9cff2c61844f0bc3a792a12cf0705b194a96d0d0b4f5f866f26", func := "sounder/sounderlaw16.HandSure", spec := "handSure", apart := false, narrowed := true }
def HandSureUptoSaid : Prop := handSureUptoRow.holds Try.pinned (OpenSpec.upto handSureSpec)

/-- 'sounderlaw16.HandCopies', WHERE WHAT IT READS IS OF BULK AT MOST 1048576: true; the input reads as it did. -/
def handCopiesUptoRow : OpenClaim := { program := "ytcjfaegmbbpcaaa", sum := "b8b9abe18f70b9cff2c61844f0bc3a792a12cf0705b194a96d0d0b4f5f866f26", func := "sounder/sounderlaw16.HandCopies", spec := "handCopies", apart := false, narrowed := true }
def HandCopiesUptoSaid : Prop := handCopiesUptoRow.holds Try.pinned (OpenSpec.upto handCopiesSpec)

/-- 'sounderlaw16.HandKnown', WHERE WHAT IT READS IS OF BULK AT MOST 1048576: true; the input reads as it did. -/
def handKnownUptoRow : OpenClaim := { program := "ytcjfaegmbbpcaaa", sum := "b8b9abe18f70b9cff2c61844f0bc3a792a12cf0705b194a96d0d0b4f5f866f26", func := "sounder/sounderlaw16.HandKnown", spec := "handKnown", apart := false, narrowed := true }
def HandKnownUptoSaid : Prop := handKnownUptoRow.holds Try.pinned (OpenSpec.upto handKnownSpec)

end Rows
end Go.Proofs.Ytcjfaegmbbpcaaa
