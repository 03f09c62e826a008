/-
  No cell of these rows narrows 'for every input' (looked for: loops, veiled, ifaces, maps, wideKeys, modest, calm, conditions, laid).
  DERIVED. THE GIVEN ROWS OF THIS SEAT. 6 by the template 'for every input the law returns true; each argument reads behind the call as it read before'; 0 by the template 'total and deterministic' (their statements: YtfbhmfkjpfbleaaTotals.lean).
  GIVEN WITH THE SEED: the statements are not yours to turn. If you find one false, say at which input.
  Laid BY PROGRAM, IN A SANDBOX (cutbox-rows.mjs): the forced cells as the released guide's own fill.sh prints them over the translation 93062059c56963a5… (all of the seat's roots in one cut). By AI agents, Wed Nov 11 2026. No macro, syntax, notation, axiom, sorry.
-/
import Derived.Test.YtfbhmfkjpfbleaaChecked
import GoSem.Claim
import GoSem.ClaimJoined
import GoSem.ClaimMapViews
import Derived.JoinedTies
import Derived.KernelRfl
namespace Go.Proofs.Ytfbhmfkjpfbleaa
/- THE CELL 'sum', in the pinned program and in every row, IS THE sha256 OF THE DUMP (.gsa) THAT YtfbhmfkjpfbleaaProg.lean LOADS. Nothing in Lean hashes anything: it is a label: what it is worth is what the hold of that sum in a sandbox is worth. -/
noncomputable def Try.pinned : Pinned := { name := "ytfbhmfkjpfbleaa", sum := "93062059c56963a5e58191e6596236a35f92ac011f5744b052876237bf87cfb3", checked := Try.checked }
namespace Rows
def none {H : Type} : Left H := { results := [], args := [] }

/-- 'sounderlaw06.SentPlays': WHATEVER THE INPUT: true; the input reads as it did. -/
def sentPlaysSpec : ChangeSpec := { name := "sentPlays", fn := fun _ => fun
  | [d1, d2] => { results := [.lit (.bool true)], args := [d1, d2] }
  | _ => none }
def sentPlaysRow : OpenClaim := { program := "ytfbhmfkjpfbleaa", sum := "93062059c56963a5e58191e6596236a35f92ac011f5744b052876237bf87cfb3", func := "sounder/sounderlaw06.SentPlays", spec := "sentPlays", unfollowed := true, recurses := true, apart := false }
def SentPlaysSaid : Prop := sentPlaysRow.holds Try.pinned (OpenSpec.ofChange sentPlaysSpec)

/-- ITS FALSE NEIGHBOUR: 'it returns false'. Refute it at one input. -/
def sentPlaysWrong : ChangeSpec := { name := "sentPlays", fn := fun _ => fun
  | [d1, d2] => { results := [.lit (.bool false)], args := [d1, d2] }
  | _ => none }
def SentPlaysWrongFalsely : Prop := sentPlaysRow.holds Try.pinned (OpenSpec.ofChange sentPlaysWrong)

/-- 'sounderlaw06.SentSums': WHATEVER THE INPUT: true; the input reads as it did. -/
def sentSumsSpec : ChangeSpec := { name := "sentSums", fn := fun _ => fun
  | [d] => { results := [.lit (.bool true)], args := [d] }
  | _ => none }
def sentSumsRow : OpenClaim := { program := "ytfbhmfkjpfbleaa", sum := "93062059c56963a5e58191e6596236a35f92ac011f5744b052876237bf87cfb3", func := "sounder/sounderlaw06.SentSums", spec := "sentSums", unfollowed := true, recurses := true, apart := false }
def SentSumsSaid : Prop := sentSumsRow.holds Try.pinned (OpenSpec.ofChange sentSumsSpec)

/-- ITS FALSE NEIGHBOUR: 'it returns false'. Refute it at one input. -/
def sentSumsWrong : ChangeSpec := { name := "sentSums", fn := fun _ => fun
  | [d] => { results := [.lit (.bool false)], args := [d] }
  | _ => none }
def SentSumsWrongFalsely : Prop := sentSumsRow.holds Try.pinned (OpenSpec.ofChange sentSumsWrong)

/-- 'sounderlaw06.SentOnce': WHATEVER THE INPUT: true; the input reads as it did. -/
def sentOnceSpec : ChangeSpec := { name := "sentOnce", fn := fun _ => fun
  | [d] => { results := [.lit (.bool true)], args := [d] }
  | _ => none }
def sentOnceRow : OpenClaim := { program := "ytfbhmfkjpfbleaa", sum := "93062059c56963a5e58191e6596236a35f92ac011f5744b052876237bf87cfb3", func := "sounder/sounderlaw06.SentOnce", spec := "sentOnce", unfollowed := true, recurses := true, apart := false }
def SentOnceSaid : Prop := sentOnceRow.holds Try.pinned (OpenSpec.ofChange sentOnceSpec)

/-- ITS FALSE NEIGHBOUR: 'it returns false'. Refute it at one input. -/
def sentOnceWrong : ChangeSpec := { name := "sentOnce", fn := fun _ => fun
  | [d] => { results := [.lit (.bool false)], args := [d] }
  | _ => none }
def SentOnceWrongFalsely : Prop := sentOnceRow.holds Try.pinned (OpenSpec.ofChange sentOnceWrong)

/-- 'sounderlaw06.SentParts': WHATEVER THE INPUT: true; the input reads as it did. -/
def sentPartsSpec : ChangeSpec := { name := "sentParts", fn := fun _ => fun
  | [d1, d2] => { results := [.lit (.bool true)], args := [d1, d2] }
  | _ => none }
def sentPartsRow : OpenClaim := { program := "ytfbhmfkjpfbleaa", sum := "93062059c56963a5e58191e6596236a35f92ac011f5744b052876237bf87cfb3", func := "sounder/sounderlaw06.SentParts", spec := "sentParts", unfollowed := true, recurses := true, apart := false }
def SentPartsSaid : Prop := sentPartsRow.holds Try.pinned (OpenSpec.ofChange sentPartsSpec)

/-- ITS FALSE NEIGHBOUR: 'it returns false'. Refute it at one input. -/
def sentPartsWrong : ChangeSpec := { name := "sentParts", fn := fun _ => fun
  | [d1, d2] => { results := [.lit (.bool false)], args := [d1, d2] }
  | _ => none }
def SentPartsWrongFalsely : Prop := sentPartsRow.holds Try.pinned (OpenSpec.ofChange sentPartsWrong)

/-- 'sounderlaw06.SentRoom': WHATEVER THE INPUT: true; the input reads as it did. -/
def sentRoomSpec : ChangeSpec := { name := "sentRoom", fn := fun _ => fun
  | [d1, d2] => { results := [.lit (.bool true)], args := [d1, d2] }
  | _ => none }
def sentRoomRow : OpenClaim := { program := "ytfbhmfkjpfbleaa", sum := "93062059c56963a5e58191e6596236a35f92ac011f5744b052876237bf87cfb3", func := "sounder/sounderlaw06.SentRoom", spec := "sentRoom", unfollowed := true, recurses := true, apart := false }
def SentRoomSaid : Prop := sentRoomRow.holds Try.pinned (OpenSpec.ofChange sentRoomSpec)

/-- ITS FALSE NEIGHBOUR: 'it returns false'. Refute it at one input. -/
def sentRoomWrong : ChangeSpec := { name := "sentRoom", fn := fun _ => fun
  | [d1, d2] => { results := [.lit (.bool false)], args := [d1, d2] }
  | _ => none }
def SentRoomWrongFalsely : Prop := sentRoomRow.holds Try.pinned (OpenSpec.ofChange sentRoomWrong)

/-- 'sounderlaw06.SentKnown': WHATEVER THE INPUT: true; the input reads as it did. -/
def sentKnownSpec : ChangeSpec := { name := "sentKnown", fn := fun _ => fun
  | [] => { results := [.lit (.bool true)], args := [] }
  | _ => none }
def sentKnownRow : OpenClaim := { program := "ytfbhmfkjpfbleaa", sum := "93062059c56963a5e58191e6596236a35f92ac011f5744b052876237bf87cfb3", func := "sounder/sounderlaw06.SentKnown", spec := "sentKnown", unfollowed := true, recurses := true, apart := false }
def SentKnownSaid : Prop := sentKnownRow.holds Try.pinned (OpenSpec.ofChange sentKnownSpec)

/-- ITS FALSE NEIGHBOUR: 'it returns false'. Refute it at one input. -/
def sentKnownWrong : ChangeSpec := { name := "sentKnown", fn := fun _ => fun
  | [] => { results := [.lit (.bool false)], args := [] }
  | _ => none }
def SentKnownWrongFalsely : Prop := sentKnownRow.holds Try.pinned (OpenSpec.ofChange sentKnownWrong)

/- THE SECOND FORM. 'bulk': how many values and letters a reading holds, each counted each time it is reached (what is shared counts as often as it is met; a slice's spare places count too). A statement '..UptoSaid' is the law's where the arguments, and the package variables that the reading takes, are together of bulk at most 1048576: NARROWER than '..Said'. Prove '..Said' where nothing that the law and all that it calls make is longer than what came in: it says more and counts as full. Else prove '..UptoSaid'. A law counts once. -/
mutual
def uptoBulk {H : Type} : DataW H → Nat
  | .lit (.string bytes) => bytes.length + 1
  | .lit _ => 1
  | .nil => 1
  | .ptr d => uptoBulk d + 1
  | .slice elems spare => uptoBulkAll elems + uptoBulkAll spare + 1
  | .agg parts => uptoBulkAll parts + 1
  | .iface _ d => uptoBulk d + 1
  | .map entries => uptoBulkEntries entries + 1
  | .held _ => 1
def uptoBulkAll {H : Type} : List (DataW H) → Nat
  | [] => 0
  | d :: r => uptoBulk d + uptoBulkAll r
def uptoBulkEntries {H : Type} : List (Lit × DataW H) → Nat
  | [] => 0
  | x :: r => uptoBulkEntry x + uptoBulkEntries r
def uptoBulkEntry {H : Type} : Lit × DataW H → Nat
  | (.string bytes, d) => bytes.length + uptoBulk d + 1
  | (_, d) => uptoBulk d + 1
 end
def uptoSmall : (H : Type) → List (DataW H) → Bool := fun _ ds => decide (uptoBulkAll ds ≤ 1048576)
def OpenSpec.upto (s : _root_.Go.ChangeSpec) : _root_.Go.OpenSpec := { _root_.Go.OpenSpec.ofChange s with cond := some uptoSmall }

/-- 'sounderlaw06.SentPlays', WHERE WHAT IT READS IS OF BULK AT MOST 1048576: true; the input reads as it did. -/
def sentPlaysUptoRow : OpenClaim := { program := "ytfbhmfkjpfbleaa", sum := "93062059c56963a5e58191e6596236a35f92ac011f5744b052876237bf87cfb3", func := "sounder/sounderlaw06.SentPlays", spec := "sentPlays", unfollowed := true, recurses := true, apart := false, narrowed := true }
def SentPlaysUptoSaid : Prop := sentPlaysUptoRow.holds Try.pinned (OpenSpec.upto sentPlaysSpec)

/-- 'sounderlaw06.SentSums', WHERE WHAT IT READS IS OF BULK AT MOST 1048576: true; the input reads as it did. -/
def sentSumsUptoRow : OpenClaim := { program := "ytfbhmfkjpfbleaa", sum := "93062059c56963a5e58191e6596236a35f92ac011f5744b052876237bf87cfb3", func := "sounder/sounderlaw06.SentSums", spec := "sentSums", unfollowed := true, recurses := true, apart := false, narrowed := true }
def SentSumsUptoSaid : Prop := sentSumsUptoRow.holds Try.pinned (OpenSpec.upto sentSumsSpec)

/-- 'sounderlaw06.SentOnce', WHERE WHAT IT READS IS OF BULK AT MOST 1048576: true; the input reads as it did. -/
def sentOnceUptoRow : OpenClaim := { program := "ytfbhmfkjpfbleaa", sum := "93062059c56963a5e58191e6596236a35f92ac011f5744b052876237bf87cfb3", func := "sounder/sounderlaw06.SentOnce", spec := "sentOnce", unfollowed := true, recurses := true, apart := false, narrowed := true }
def SentOnceUptoSaid : Prop := sentOnceUptoRow.holds Try.pinned (OpenSpec.upto sentOnceSpec)

/-- 'sounderlaw06.SentParts', WHERE WHAT IT READS IS OF BULK AT MOST 1048576: true; the input reads as it did. -/
def sentPartsUptoRow : OpenClaim := { program := "ytfbhmfkjpfbleaa", sum := "93062059c56963a5e58191e6596236a35f92ac011f5744b052876237bf87cfb3", func := "sounder/sounderlaw06.SentParts", spec := "sentParts", unfollowed := true, recurses := true, apart := false, narrowed := true }
def SentPartsUptoSaid : Prop := sentPartsUptoRow.holds Try.pinned (OpenSpec.upto sentPartsSpec)

/-- 'sounderlaw06.SentRoom', WHERE WHAT IT READS IS OF BULK AT MOST 1048576: true; the input reads as it did. -/
def sentRoomUptoRow : OpenClaim := { program := "ytfbhmfkjpfbleaa", sum := "93062059c56963a5e58191e6596236a35f92ac011f5744b052876237bf87cfb3", func := "sounder/sounderlaw06.SentRoom", spec := "sentRoom", unfollowed := true, recurses := true, apart := false, narrowed := true }
def SentRoomUptoSaid : Prop := sentRoomUptoRow.holds Try.pinned (OpenSpec.upto sentRoomSpec)

/-- 'sounderlaw06.SentKnown', WHERE WHAT IT READS IS OF BULK AT MOST 1048576: true; the input reads as it did. -/
def sentKnownUptoRow : OpenClaim := { program := "ytfbhmfkjpfbleaa", sum := "93062059c56963a5e58191e6596236a35f92ac011f5744b052876237bf87cfb3", func := "sounder/sounderlaw06.SentKnown", spec := "sentKnown", unfollowed := true, recurses := true, apart := false, narrowed := true }
def SentKnownUptoSaid : Prop := sentKnownUptoRow.holds Try.pinned (OpenSpec.upto sentKnownSpec)

end Rows
end Go.Proofs.Ytfbhmfkjpfbleaa
