/-
  No cell of these rows narrows 'for every input' (looked for: loops, veiled, ifaces, maps, wideKeys, modest, calm, conditions, laid).
  DERIVED. THE GIVEN ROWS OF THIS SEAT. 7 by the template 'for every input the law returns true; each argument reads behind the call as it read before'; 0 by the template 'total and deterministic' (their statements: YtnafmfkchnjmfaaTotals.lean).
  GIVEN WITH THE SEED: the statements are not yours to turn. If you find one false, say at which input.
  Laid BY PROGRAM, IN A SANDBOX (cutbox-rows.mjs): the forced cells as the released guide's own fill.sh prints them over the translation f4a2297d5c9ed3db… (all of the seat's roots in one cut). By AI agents, Wed Nov 11 2026. No macro, syntax, notation, axiom, sorry.
-/
import Derived.Test.YtnafmfkchnjmfaaChecked
import GoSem.Claim
import GoSem.ClaimJoined
import GoSem.ClaimMapViews
import Derived.JoinedTies
import Derived.KernelRfl
namespace Go.Proofs.Ytnafmfkchnjmfaa
/- THE CELL 'sum', in the pinned program and in every row, IS THE sha256 OF THE DUMP (.gsa) THAT YtnafmfkchnjmfaaProg.lean LOADS. Nothing in Lean hashes anything: it is a label: what it is worth is what the hold of that sum in a sandbox is worth. -/
noncomputable def Try.pinned : Pinned := { name := "ytnafmfkchnjmfaa", sum := "f4a2297d5c9ed3dbe9dd82d821e78d47e14d259267be831196e393ef6f8395ba", checked := Try.checked }
namespace Rows
def none {H : Type} : Left H := { results := [], args := [] }

/-- 'sounderlaw01.SatAnswers': WHATEVER THE INPUT: true; the input reads as it did. -/
def satAnswersSpec : ChangeSpec := { name := "satAnswers", fn := fun _ => fun
  | [d1, d2, d3] => { results := [.lit (.bool true)], args := [d1, d2, d3] }
  | _ => none }
def satAnswersRow : OpenClaim := { program := "ytnafmfkchnjmfaa", sum := "f4a2297d5c9ed3dbe9dd82d821e78d47e14d259267be831196e393ef6f8395ba", func := "sounder/sounderlaw01.SatAnswers", spec := "satAnswers", named := ["math/bits.divideError", "math/bits.overflowError"], apart := false }
def SatAnswersSaid : Prop := satAnswersRow.holds Try.pinned (OpenSpec.ofChange satAnswersSpec)

/-- ITS FALSE NEIGHBOUR: 'it returns false'. Refute it at one input. -/
def satAnswersWrong : ChangeSpec := { name := "satAnswers", fn := fun _ => fun
  | [d1, d2, d3] => { results := [.lit (.bool false)], args := [d1, d2, d3] }
  | _ => none }
def SatAnswersWrongFalsely : Prop := satAnswersRow.holds Try.pinned (OpenSpec.ofChange satAnswersWrong)

/-- 'sounderlaw01.SatTells': WHATEVER THE INPUT: true; the input reads as it did. -/
def satTellsSpec : ChangeSpec := { name := "satTells", fn := fun _ => fun
  | [d1, d2] => { results := [.lit (.bool true)], args := [d1, d2] }
  | _ => none }
def satTellsRow : OpenClaim := { program := "ytnafmfkchnjmfaa", sum := "f4a2297d5c9ed3dbe9dd82d821e78d47e14d259267be831196e393ef6f8395ba", func := "sounder/sounderlaw01.SatTells", spec := "satTells", named := ["math/bits.divideError", "math/bits.overflowError"], apart := false }
def SatTellsSaid : Prop := satTellsRow.holds Try.pinned (OpenSpec.ofChange satTellsSpec)

/-- ITS FALSE NEIGHBOUR: 'it returns false'. Refute it at one input. -/
def satTellsWrong : ChangeSpec := { name := "satTells", fn := fun _ => fun
  | [d1, d2] => { results := [.lit (.bool false)], args := [d1, d2] }
  | _ => none }
def SatTellsWrongFalsely : Prop := satTellsRow.holds Try.pinned (OpenSpec.ofChange satTellsWrong)

/-- 'sounderlaw01.SatExact': WHATEVER THE INPUT: true; the input reads as it did. -/
def satExactSpec : ChangeSpec := { name := "satExact", fn := fun _ => fun
  | [d1, d2, d3] => { results := [.lit (.bool true)], args := [d1, d2, d3] }
  | _ => none }
def satExactRow : OpenClaim := { program := "ytnafmfkchnjmfaa", sum := "f4a2297d5c9ed3dbe9dd82d821e78d47e14d259267be831196e393ef6f8395ba", func := "sounder/sounderlaw01.SatExact", spec := "satExact", named := ["math/bits.divideError", "math/bits.overflowError"], apart := false }
def SatExactSaid : Prop := satExactRow.holds Try.pinned (OpenSpec.ofChange satExactSpec)

/-- ITS FALSE NEIGHBOUR: 'it returns false'. Refute it at one input. -/
def satExactWrong : ChangeSpec := { name := "satExact", fn := fun _ => fun
  | [d1, d2, d3] => { results := [.lit (.bool false)], args := [d1, d2, d3] }
  | _ => none }
def SatExactWrongFalsely : Prop := satExactRow.holds Try.pinned (OpenSpec.ofChange satExactWrong)

/-- 'sounderlaw01.SatSums': WHATEVER THE INPUT: true; the input reads as it did. -/
def satSumsSpec : ChangeSpec := { name := "satSums", fn := fun _ => fun
  | [d1, d2, d3] => { results := [.lit (.bool true)], args := [d1, d2, d3] }
  | _ => none }
def satSumsRow : OpenClaim := { program := "ytnafmfkchnjmfaa", sum := "f4a2297d5c9ed3dbe9dd82d821e78d47e14d259267be831196e393ef6f8395ba", func := "sounder/sounderlaw01.SatSums", spec := "satSums", named := ["math/bits.divideError", "math/bits.overflowError"], apart := false }
def SatSumsSaid : Prop := satSumsRow.holds Try.pinned (OpenSpec.ofChange satSumsSpec)

/-- ITS FALSE NEIGHBOUR: 'it returns false'. Refute it at one input. -/
def satSumsWrong : ChangeSpec := { name := "satSums", fn := fun _ => fun
  | [d1, d2, d3] => { results := [.lit (.bool false)], args := [d1, d2, d3] }
  | _ => none }
def SatSumsWrongFalsely : Prop := satSumsRow.holds Try.pinned (OpenSpec.ofChange satSumsWrong)

/-- 'sounderlaw01.SatRises': WHATEVER THE INPUT: true; the input reads as it did. -/
def satRisesSpec : ChangeSpec := { name := "satRises", fn := fun _ => fun
  | [d1, d2, d3] => { results := [.lit (.bool true)], args := [d1, d2, d3] }
  | _ => none }
def satRisesRow : OpenClaim := { program := "ytnafmfkchnjmfaa", sum := "f4a2297d5c9ed3dbe9dd82d821e78d47e14d259267be831196e393ef6f8395ba", func := "sounder/sounderlaw01.SatRises", spec := "satRises", named := ["math/bits.divideError", "math/bits.overflowError"], apart := false }
def SatRisesSaid : Prop := satRisesRow.holds Try.pinned (OpenSpec.ofChange satRisesSpec)

/-- ITS FALSE NEIGHBOUR: 'it returns false'. Refute it at one input. -/
def satRisesWrong : ChangeSpec := { name := "satRises", fn := fun _ => fun
  | [d1, d2, d3] => { results := [.lit (.bool false)], args := [d1, d2, d3] }
  | _ => none }
def SatRisesWrongFalsely : Prop := satRisesRow.holds Try.pinned (OpenSpec.ofChange satRisesWrong)

/-- 'sounderlaw01.SatTimes': WHATEVER THE INPUT: true; the input reads as it did. -/
def satTimesSpec : ChangeSpec := { name := "satTimes", fn := fun _ => fun
  | [d1, d2, d3] => { results := [.lit (.bool true)], args := [d1, d2, d3] }
  | _ => none }
def satTimesRow : OpenClaim := { program := "ytnafmfkchnjmfaa", sum := "f4a2297d5c9ed3dbe9dd82d821e78d47e14d259267be831196e393ef6f8395ba", func := "sounder/sounderlaw01.SatTimes", spec := "satTimes", named := ["math/bits.divideError", "math/bits.overflowError"], apart := false }
def SatTimesSaid : Prop := satTimesRow.holds Try.pinned (OpenSpec.ofChange satTimesSpec)

/-- ITS FALSE NEIGHBOUR: 'it returns false'. Refute it at one input. -/
def satTimesWrong : ChangeSpec := { name := "satTimes", fn := fun _ => fun
  | [d1, d2, d3] => { results := [.lit (.bool false)], args := [d1, d2, d3] }
  | _ => none }
def SatTimesWrongFalsely : Prop := satTimesRow.holds Try.pinned (OpenSpec.ofChange satTimesWrong)

/-- 'sounderlaw01.SatKnown': WHATEVER THE INPUT: true; the input reads as it did. -/
def satKnownSpec : ChangeSpec := { name := "satKnown", fn := fun _ => fun
  | [] => { results := [.lit (.bool true)], args := [] }
  | _ => none }
def satKnownRow : OpenClaim := { program := "ytnafmfkchnjmfaa", sum := "f4a2297d5c9ed3dbe9dd82d821e78d47e14d259267be831196e393ef6f8395ba", func := "sounder/sounderlaw01.SatKnown", spec := "satKnown", named := ["math/bits.divideError", "math/bits.overflowError"], apart := false }
def SatKnownSaid : Prop := satKnownRow.holds Try.pinned (OpenSpec.ofChange satKnownSpec)

/-- ITS FALSE NEIGHBOUR: 'it returns false'. Refute it at one input. -/
def satKnownWrong : ChangeSpec := { name := "satKnown", fn := fun _ => fun
  | [] => { results := [.lit (.bool false)], args := [] }
  | _ => none }
def SatKnownWrongFalsely : Prop := satKnownRow.holds Try.pinned (OpenSpec.ofChange satKnownWrong)

/- THE SECOND FORM. 'bulk': how many values and letters a reading holds, each counted each time it is reached (what is shared counts as often as it is met; a slice's spare places count too). A statement '..UptoSaid' is the law's where the arguments, and the package variables that the reading takes, are together of bulk at most 1048576: NARROWER than '..Said'. Prove '..Said' where nothing that the law and all that it calls make is longer than what came in: it says more and counts as full. Else prove '..UptoSaid'. A law counts once. -/
mutual
def uptoBulk {H : Type} : DataW H → Nat
  | .lit (.string bytes) => bytes.length + 1
  | .lit _ => 1
  | .nil => 1
  | .ptr d => uptoBulk d + 1
  | .slice elems spare => uptoBulkAll elems + uptoBulkAll spare + 1
  | .agg parts => uptoBulkAll parts + 1
  | .iface _ d => uptoBulk d + 1
  | .map entries => uptoBulkEntries entries + 1
  | .held _ => 1
def uptoBulkAll {H : Type} : List (DataW H) → Nat
  | [] => 0
  | d :: r => uptoBulk d + uptoBulkAll r
def uptoBulkEntries {H : Type} : List (Lit × DataW H) → Nat
  | [] => 0
  | x :: r => uptoBulkEntry x + uptoBulkEntries r
def uptoBulkEntry {H : Type} : Lit × DataW H → Nat
  | (.string bytes, d) => bytes.length + uptoBulk d + 1
  | (_, d) => uptoBulk d + 1
 end
def uptoSmall : (H : Type) → List (DataW H) → Bool := fun _ ds => decide (uptoBulkAll ds ≤ 1048576)
def OpenSpec.upto (s : _root_.Go.ChangeSpec) : _root_.Go.OpenSpec := { _root_.Go.OpenSpec.ofChange s with cond := some uptoSmall }

/-- 'sounderlaw01.SatAnswers', WHERE WHAT IT READS IS OF BULK AT MOST 1048576: true; the input reads as it did. -/
def satAnswersUptoRow : OpenClaim := { program := "ytnafmfkchnjmfaa", sum := "f4a2297d5c9ed3dbe9dd82d821e78d47e14d259267be831196e393ef6f8395ba", func := "sounder/sounderlaw01.SatAnswers", spec := "satAnswers", named := ["math/bits.divideError", "math/bits.overflowError"], apart := false, narrowed := true }
def SatAnswersUptoSaid : Prop := satAnswersUptoRow.holds Try.pinned (OpenSpec.upto satAnswersSpec)

/-- 'sounderlaw01.SatTells', WHERE WHAT IT READS IS OF BULK AT MOST 1048576: true; the input reads as it did. -/
def satTellsUptoRow : OpenClaim := { program := "ytnafmfkchnjmfaa", sum := "f4a2297d5c9ed3dbe9dd82d821e78d47e14d259267be831196e393ef6f8395ba", func := "sounder/sounderlaw01.SatTells", spec := "satTells", named := ["math/bits.divideError", "math/bits.overflowError"], apart := false, narrowed := true }
def SatTellsUptoSaid : Prop := satTellsUptoRow.holds Try.pinned (OpenSpec.upto satTellsSpec)

/-- 'sounderlaw01.SatExact', WHERE WHAT IT READS IS OF BULK AT MOST 1048576: true; the input reads as it did. -/
def satExactUptoRow : OpenClaim := { program := "ytnafmfkchnjmfaa", sum := "f4a2297d5c9ed3dbe9dd82d821e78d47e14d259267be831196e393ef6f8395ba", func := "sounder/sounderlaw01.SatExact", spec := "satExact", named := ["math/bits.divideError", "math/bits.overflowError"], apart := false, narrowed := true }
def SatExactUptoSaid : Prop := satExactUptoRow.holds Try.pinned (OpenSpec.upto satExactSpec)

/-- 'sounderlaw01.SatSums', WHERE WHAT IT READS IS OF BULK AT MOST 1048576: true; the input reads as it did. -/
def satSumsUptoRow : OpenClaim := { program := "ytnafmfkchnjmfaa", sum := "f4a2297d5c9ed3dbe9dd82d821e78d47e14d259267be831196e393ef6f8395ba", func := "sounder/sounderlaw01.SatSums", spec := "satSums", named := ["math/bits.divideError", "math/bits.overflowError"], apart := false, narrowed := true }
def SatSumsUptoSaid : Prop := satSumsUptoRow.holds Try.pinned (OpenSpec.upto satSumsSpec)

/-- 'sounderlaw01.SatRises', WHERE WHAT IT READS IS OF BULK AT MOST 1048576: true; the input reads as it did. -/
def satRisesUptoRow : OpenClaim := { program := "ytnafmfkchnjmfaa", sum := "f4a2297d5c9ed3dbe9dd82d821e78d47e14d259267be831196e393ef6f8395ba", func := "sounder/sounderlaw01.SatRises", spec := "satRises", named := ["math/bits.divideError", "math/bits.overflowError"], apart := false, narrowed := true }
def SatRisesUptoSaid : Prop := satRisesUptoRow.holds Try.pinned (OpenSpec.upto satRisesSpec)

/-- 'sounderlaw01.SatTimes', WHERE WHAT IT READS IS OF BULK AT MOST 1048576: true; the input reads as it did. -/
def satTimesUptoRow : OpenClaim := { program := "ytnafmfkchnjmfaa", sum := "f4a2297d5c9ed3dbe9dd82d821e78d47e14d259267be831196e393ef6f8395ba", func := "sounder/sounderlaw01.SatTimes", spec := "satTimes", named := ["math/bits.divideError", "math/bits.overflowError"], apart := false, narrowed := true }
def SatTimesUptoSaid : Prop := satTimesUptoRow.holds Try.pinned (OpenSpec.upto satTimesSpec)

/-- 'sounderlaw01.SatKnown', WHERE WHAT IT READS IS OF BULK AT MOST 1048576: true; the input reads as it did. -/
def satKnownUptoRow : OpenClaim := { program := "ytnafmfkchnjmfaa", sum := "f4a2297d5c9ed3dbe9dd82d821e78d47e14d259267be831196e393ef6f8395ba", func := "sounder/sounderlaw01.SatKnown", spec := "satKnown", named := ["math/bits.divideError", "math/bits.overflowError"], apart := false, narrowed := true }
def SatKnownUptoSaid : Prop := satKnownUptoRow.holds Try.pinned (OpenSpec.upto satKnownSpec)

end Rows
end Go.Proofs.Ytnafmfkchnjmfaa
