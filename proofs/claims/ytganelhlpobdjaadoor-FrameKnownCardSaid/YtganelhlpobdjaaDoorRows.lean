/-
  NARROWER THAN 'FOR EVERY INPUT', by the rows' own cells (each row's printed sentence says how): FrameTells: laid · FrameReads: laid · FrameWaits: laid · FrameBack: laid · FrameAgain: laid · FrameCut: laid · FrameHas: laid · FrameDoubles: laid · FrameKnown: laid.
  DERIVED. THE GIVEN ROWS OF THIS SEAT. 9 by the template 'for every input the law returns true; each argument reads behind the call as it read before'; 0 by the template 'total and deterministic' (their statements: YtganelhlpobdjaaDoorTotals.lean).
  GIVEN WITH THE SEED: the statements are not yours to turn. If you find one false, say at which input.
  Laid BY PROGRAM, IN A SANDBOX (cutbox-rows.mjs): the forced cells as the released guide's own fill.sh prints them over the translation b461966b25910e29… (all of the seat's roots in one cut). By AI agents, Wed Nov 11 2026. No macro, syntax, notation, axiom, sorry.
-/
import Derived.Test.YtganelhlpobdjaaDoorChecked
import GoSem.Claim
import GoSem.ClaimJoined
import GoSem.ClaimMapViews
import Derived.JoinedTies
import Derived.KernelRfl
namespace Go.Proofs.YtganelhlpobdjaaDoor
/- THE CELL 'sum', in the pinned program and in every row, IS THE sha256 OF THE DUMP (.gsa) THAT YtganelhlpobdjaaDoorProg.lean LOADS. Nothing in Lean hashes anything: it is a label: what it is worth is what the hold of that sum in a sandbox is worth. -/
noncomputable def Tryd.pinned : Pinned := { name := "ytganelhlpobdjaadoor", sum := "b461966b25910e29a84d04e637c9173ca1087b04924b584cdf06ccd094a25ee1", checked := Tryd.checked }
namespace Rows
def none {H : Type} : Left H := { results := [], args := [] }

/- WHAT THE LISTED PACKAGE-LEVEL VARIABLES READ AS WHEN THE CALL BEGINS. Each datum BY PROGRAM (the guide's laid-datum.mjs) off the statement by which the dump's own 'gosem.cut.vars' lays the variable. In a bare row this is a premise. The card (YtganelhlpobdjaaDoorCards.lean) ties it to the program's text. -/
def laid_sounder_octet_sizes {H : Type} : DataW H := .agg [.lit (.int .i64 1), .lit (.int .i64 2), .lit (.int .i64 4), .lit (.int .i64 8)]

/-- 'sounderlaw05.FrameTells': WHATEVER THE INPUT: true; the input reads as it did. -/
def frameTellsSpec : ChangeSpec := { name := "frameTells", fn := fun _ => fun
  | [d1, d2, d3] => { results := [.lit (.bool true)], args := [d1, d2, d3] }
  | _ => none }
def frameTellsRow : OpenClaim := { program := "ytganelhlpobdjaadoor", sum := "b461966b25910e29a84d04e637c9173ca1087b04924b584cdf06ccd094a25ee1", func := "sounder/sounderlaw05.FrameTells", spec := "frameTells", unfollowed := true, recurses := true, named := ["sounder/octet.sizes", "math/bits.divideError", "math/bits.overflowError"], apart := false, laid := [("sounder/octet.sizes", laid_sounder_octet_sizes)] }
def FrameTellsSaid : Prop := frameTellsRow.holds Tryd.pinned (OpenSpec.ofChange frameTellsSpec)

/-- ITS FALSE NEIGHBOUR: 'it returns false'. Refute it at one input. -/
def frameTellsWrong : ChangeSpec := { name := "frameTells", fn := fun _ => fun
  | [d1, d2, d3] => { results := [.lit (.bool false)], args := [d1, d2, d3] }
  | _ => none }
def FrameTellsWrongFalsely : Prop := frameTellsRow.holds Tryd.pinned (OpenSpec.ofChange frameTellsWrong)

/-- 'sounderlaw05.FrameReads': WHATEVER THE INPUT: true; the input reads as it did. -/
def frameReadsSpec : ChangeSpec := { name := "frameReads", fn := fun _ => fun
  | [d] => { results := [.lit (.bool true)], args := [d] }
  | _ => none }
def frameReadsRow : OpenClaim := { program := "ytganelhlpobdjaadoor", sum := "b461966b25910e29a84d04e637c9173ca1087b04924b584cdf06ccd094a25ee1", func := "sounder/sounderlaw05.FrameReads", spec := "frameReads", unfollowed := true, recurses := true, named := ["sounder/octet.sizes", "math/bits.divideError", "math/bits.overflowError"], apart := false, laid := [("sounder/octet.sizes", laid_sounder_octet_sizes)] }
def FrameReadsSaid : Prop := frameReadsRow.holds Tryd.pinned (OpenSpec.ofChange frameReadsSpec)

/-- ITS FALSE NEIGHBOUR: 'it returns false'. Refute it at one input. -/
def frameReadsWrong : ChangeSpec := { name := "frameReads", fn := fun _ => fun
  | [d] => { results := [.lit (.bool false)], args := [d] }
  | _ => none }
def FrameReadsWrongFalsely : Prop := frameReadsRow.holds Tryd.pinned (OpenSpec.ofChange frameReadsWrong)

/-- 'sounderlaw05.FrameWaits': WHATEVER THE INPUT: true; the input reads as it did. -/
def frameWaitsSpec : ChangeSpec := { name := "frameWaits", fn := fun _ => fun
  | [d1, d2] => { results := [.lit (.bool true)], args := [d1, d2] }
  | _ => none }
def frameWaitsRow : OpenClaim := { program := "ytganelhlpobdjaadoor", sum := "b461966b25910e29a84d04e637c9173ca1087b04924b584cdf06ccd094a25ee1", func := "sounder/sounderlaw05.FrameWaits", spec := "frameWaits", unfollowed := true, recurses := true, named := ["math/bits.divideError", "math/bits.overflowError", "sounder/octet.sizes"], apart := false, laid := [("sounder/octet.sizes", laid_sounder_octet_sizes)] }
def FrameWaitsSaid : Prop := frameWaitsRow.holds Tryd.pinned (OpenSpec.ofChange frameWaitsSpec)

/-- ITS FALSE NEIGHBOUR: 'it returns false'. Refute it at one input. -/
def frameWaitsWrong : ChangeSpec := { name := "frameWaits", fn := fun _ => fun
  | [d1, d2] => { results := [.lit (.bool false)], args := [d1, d2] }
  | _ => none }
def FrameWaitsWrongFalsely : Prop := frameWaitsRow.holds Tryd.pinned (OpenSpec.ofChange frameWaitsWrong)

/-- 'sounderlaw05.FrameBack': WHATEVER THE INPUT: true; the input reads as it did. -/
def frameBackSpec : ChangeSpec := { name := "frameBack", fn := fun _ => fun
  | [d1, d2] => { results := [.lit (.bool true)], args := [d1, d2] }
  | _ => none }
def frameBackRow : OpenClaim := { program := "ytganelhlpobdjaadoor", sum := "b461966b25910e29a84d04e637c9173ca1087b04924b584cdf06ccd094a25ee1", func := "sounder/sounderlaw05.FrameBack", spec := "frameBack", unfollowed := true, recurses := true, named := ["sounder/octet.sizes", "math/bits.divideError", "math/bits.overflowError"], apart := false, laid := [("sounder/octet.sizes", laid_sounder_octet_sizes)] }
def FrameBackSaid : Prop := frameBackRow.holds Tryd.pinned (OpenSpec.ofChange frameBackSpec)

/-- ITS FALSE NEIGHBOUR: 'it returns false'. Refute it at one input. -/
def frameBackWrong : ChangeSpec := { name := "frameBack", fn := fun _ => fun
  | [d1, d2] => { results := [.lit (.bool false)], args := [d1, d2] }
  | _ => none }
def FrameBackWrongFalsely : Prop := frameBackRow.holds Tryd.pinned (OpenSpec.ofChange frameBackWrong)

/-- 'sounderlaw05.FrameAgain': WHATEVER THE INPUT: true; the input reads as it did. -/
def frameAgainSpec : ChangeSpec := { name := "frameAgain", fn := fun _ => fun
  | [d] => { results := [.lit (.bool true)], args := [d] }
  | _ => none }
def frameAgainRow : OpenClaim := { program := "ytganelhlpobdjaadoor", sum := "b461966b25910e29a84d04e637c9173ca1087b04924b584cdf06ccd094a25ee1", func := "sounder/sounderlaw05.FrameAgain", spec := "frameAgain", unfollowed := true, recurses := true, named := ["sounder/octet.sizes", "math/bits.divideError", "math/bits.overflowError"], apart := false, laid := [("sounder/octet.sizes", laid_sounder_octet_sizes)] }
def FrameAgainSaid : Prop := frameAgainRow.holds Tryd.pinned (OpenSpec.ofChange frameAgainSpec)

/-- ITS FALSE NEIGHBOUR: 'it returns false'. Refute it at one input. -/
def frameAgainWrong : ChangeSpec := { name := "frameAgain", fn := fun _ => fun
  | [d] => { results := [.lit (.bool false)], args := [d] }
  | _ => none }
def FrameAgainWrongFalsely : Prop := frameAgainRow.holds Tryd.pinned (OpenSpec.ofChange frameAgainWrong)

/-- 'sounderlaw05.FrameCut': WHATEVER THE INPUT: true; the input reads as it did. -/
def frameCutSpec : ChangeSpec := { name := "frameCut", fn := fun _ => fun
  | [d1, d2] => { results := [.lit (.bool true)], args := [d1, d2] }
  | _ => none }
def frameCutRow : OpenClaim := { program := "ytganelhlpobdjaadoor", sum := "b461966b25910e29a84d04e637c9173ca1087b04924b584cdf06ccd094a25ee1", func := "sounder/sounderlaw05.FrameCut", spec := "frameCut", unfollowed := true, recurses := true, named := ["sounder/octet.sizes", "math/bits.divideError", "math/bits.overflowError"], apart := false, laid := [("sounder/octet.sizes", laid_sounder_octet_sizes)] }
def FrameCutSaid : Prop := frameCutRow.holds Tryd.pinned (OpenSpec.ofChange frameCutSpec)

/-- ITS FALSE NEIGHBOUR: 'it returns false'. Refute it at one input. -/
def frameCutWrong : ChangeSpec := { name := "frameCut", fn := fun _ => fun
  | [d1, d2] => { results := [.lit (.bool false)], args := [d1, d2] }
  | _ => none }
def FrameCutWrongFalsely : Prop := frameCutRow.holds Tryd.pinned (OpenSpec.ofChange frameCutWrong)

/-- 'sounderlaw05.FrameHas': WHATEVER THE INPUT: true; the input reads as it did. -/
def frameHasSpec : ChangeSpec := { name := "frameHas", fn := fun _ => fun
  | [d1, d2] => { results := [.lit (.bool true)], args := [d1, d2] }
  | _ => none }
def frameHasRow : OpenClaim := { program := "ytganelhlpobdjaadoor", sum := "b461966b25910e29a84d04e637c9173ca1087b04924b584cdf06ccd094a25ee1", func := "sounder/sounderlaw05.FrameHas", spec := "frameHas", unfollowed := true, recurses := true, named := ["sounder/octet.sizes", "math/bits.divideError", "math/bits.overflowError"], apart := false, laid := [("sounder/octet.sizes", laid_sounder_octet_sizes)] }
def FrameHasSaid : Prop := frameHasRow.holds Tryd.pinned (OpenSpec.ofChange frameHasSpec)

/-- ITS FALSE NEIGHBOUR: 'it returns false'. Refute it at one input. -/
def frameHasWrong : ChangeSpec := { name := "frameHas", fn := fun _ => fun
  | [d1, d2] => { results := [.lit (.bool false)], args := [d1, d2] }
  | _ => none }
def FrameHasWrongFalsely : Prop := frameHasRow.holds Tryd.pinned (OpenSpec.ofChange frameHasWrong)

/-- 'sounderlaw05.FrameDoubles': WHATEVER THE INPUT: true; the input reads as it did. -/
def frameDoublesSpec : ChangeSpec := { name := "frameDoubles", fn := fun _ => fun
  | [d1, d2] => { results := [.lit (.bool true)], args := [d1, d2] }
  | _ => none }
def frameDoublesRow : OpenClaim := { program := "ytganelhlpobdjaadoor", sum := "b461966b25910e29a84d04e637c9173ca1087b04924b584cdf06ccd094a25ee1", func := "sounder/sounderlaw05.FrameDoubles", spec := "frameDoubles", unfollowed := true, recurses := true, named := ["math/bits.divideError", "math/bits.overflowError", "sounder/octet.sizes"], apart := false, laid := [("sounder/octet.sizes", laid_sounder_octet_sizes)] }
def FrameDoublesSaid : Prop := frameDoublesRow.holds Tryd.pinned (OpenSpec.ofChange frameDoublesSpec)

/-- ITS FALSE NEIGHBOUR: 'it returns false'. Refute it at one input. -/
def frameDoublesWrong : ChangeSpec := { name := "frameDoubles", fn := fun _ => fun
  | [d1, d2] => { results := [.lit (.bool false)], args := [d1, d2] }
  | _ => none }
def FrameDoublesWrongFalsely : Prop := frameDoublesRow.holds Tryd.pinned (OpenSpec.ofChange frameDoublesWrong)

/-- 'sounderlaw05.FrameKnown': WHATEVER THE INPUT: true; the input reads as it did. -/
def frameKnownSpec : ChangeSpec := { name := "frameKnown", fn := fun _ => fun
  | [] => { results := [.lit (.bool true)], args := [] }
  | _ => none }
def frameKnownRow : OpenClaim := { program := "ytganelhlpobdjaadoor", sum := "b461966b25910e29a84d04e637c9173ca1087b04924b584cdf06ccd094a25ee1", func := "sounder/sounderlaw05.FrameKnown", spec := "frameKnown", unfollowed := true, recurses := true, named := ["sounder/octet.sizes", "math/bits.divideError", "math/bits.overflowError"], apart := false, laid := [("sounder/octet.sizes", laid_sounder_octet_sizes)] }
def FrameKnownSaid : Prop := frameKnownRow.holds Tryd.pinned (OpenSpec.ofChange frameKnownSpec)

/-- ITS FALSE NEIGHBOUR: 'it returns false'. Refute it at one input. -/
def frameKnownWrong : ChangeSpec := { name := "frameKnown", fn := fun _ => fun
  | [] => { results := [.lit (.bool false)], args := [] }
  | _ => none }
def FrameKnownWrongFalsely : Prop := frameKnownRow.holds Tryd.pinned (OpenSpec.ofChange frameKnownWrong)

/- THE SECOND FORM. 'bulk': how many values and letters a reading holds, each counted each time it is reached (what is shared counts as often as it is met; a slice's spare places count too). A statement '..UptoSaid' is the law's where the arguments, and the package variables that the reading takes, are together of bulk at most 1048576: NARROWER than '..Said'. Prove '..Said' where nothing that the law and all that it calls make is longer than what came in: it says more and counts as full. Else prove '..UptoSaid'. A law counts once. -/
mutual
def uptoBulk {H : Type} : DataW H → Nat
  | .lit (.string bytes) => bytes.length + 1
  | .lit _ => 1
  | .nil => 1
  | .ptr d => uptoBulk d + 1
  | .slice elems spare => uptoBulkAll elems + uptoBulkAll spare + 1
  | .agg parts => uptoBulkAll parts + 1
  | .iface _ d => uptoBulk d + 1
  | .map entries => uptoBulkEntries entries + 1
  | .held _ => 1
def uptoBulkAll {H : Type} : List (DataW H) → Nat
  | [] => 0
  | d :: r => uptoBulk d + uptoBulkAll r
def uptoBulkEntries {H : Type} : List (Lit × DataW H) → Nat
  | [] => 0
  | x :: r => uptoBulkEntry x + uptoBulkEntries r
def uptoBulkEntry {H : Type} : Lit × DataW H → Nat
  | (.string bytes, d) => bytes.length + uptoBulk d + 1
  | (_, d) => uptoBulk d + 1
 end
def uptoSmall : (H : Type) → List (DataW H) → Bool := fun _ ds => decide (uptoBulkAll ds ≤ 1048576)
def OpenSpec.upto (s : _root_.Go.ChangeSpec) : _root_.Go.OpenSpec := { _root_.Go.OpenSpec.ofChange s with cond := some uptoSmall }

/-- 'sounderlaw05.FrameTells', WHERE WHAT IT READS IS OF BULK AT MOST 1048576: true; the input reads as it did. -/
def frameTellsUptoRow : OpenClaim := { program := "ytganelhlpobdjaadoor", sum := "b461966b25910e29a84d04e637c9173ca1087b04924b584cdf06ccd094a25ee1", func := "sounder/sounderlaw05.FrameTells", spec := "frameTells", unfollowed := true, recurses := true, named := ["sounder/octet.sizes", "math/bits.divideError", "math/bits.overflowError"], apart := false, laid := [("sounder/octet.sizes", laid_sounder_octet_sizes)], narrowed := true }
def FrameTellsUptoSaid : Prop := frameTellsUptoRow.holds Tryd.pinned (OpenSpec.upto frameTellsSpec)

/-- 'sounderlaw05.FrameReads', WHERE WHAT IT READS IS OF BULK AT MOST 1048576: true; the input reads as it did. -/
def frameReadsUptoRow : OpenClaim := { program := "ytganelhlpobdjaadoor", sum := "b461966b25910e29a84d04e637c9173ca1087b04924b584cdf06ccd094a25ee1", func := "sounder/sounderlaw05.FrameReads", spec := "frameReads", unfollowed := true, recurses := true, named := ["sounder/octet.sizes", "math/bits.divideError", "math/bits.overflowError"], apart := false, laid := [("sounder/octet.sizes", laid_sounder_octet_sizes)], narrowed := true }
def FrameReadsUptoSaid : Prop := frameReadsUptoRow.holds Tryd.pinned (OpenSpec.upto frameReadsSpec)

/-- 'sounderlaw05.FrameWaits', WHERE WHAT IT READS IS OF BULK AT MOST 1048576: true; the input reads as it did. -/
def frameWaitsUptoRow : OpenClaim := { program := "ytganelhlpobdjaadoor", sum := "b461966b25910e29a84d04e637c9173ca1087b04924b584cdf06ccd094a25ee1", func := "sounder/sounderlaw05.FrameWaits", spec := "frameWaits", unfollowed := true, recurses := true, named := ["math/bits.divideError", "math/bits.overflowError", "sounder/octet.sizes"], apart := false, laid := [("sounder/octet.sizes", laid_sounder_octet_sizes)], narrowed := true }
def FrameWaitsUptoSaid : Prop := frameWaitsUptoRow.holds Tryd.pinned (OpenSpec.upto frameWaitsSpec)

/-- 'sounderlaw05.FrameBack', WHERE WHAT IT READS IS OF BULK AT MOST 1048576: true; the input reads as it did. -/
def frameBackUptoRow : OpenClaim := { program := "ytganelhlpobdjaadoor", sum := "b461966b25910e29a84d04e637c9173ca1087b04924b584cdf06ccd094a25ee1", func := "sounder/sounderlaw05.FrameBack", spec := "frameBack", unfollowed := true, recurses := true, named := ["sounder/octet.sizes", "math/bits.divideError", "math/bits.overflowError"], apart := false, laid := [("sounder/octet.sizes", laid_sounder_octet_sizes)], narrowed := true }
def FrameBackUptoSaid : Prop := frameBackUptoRow.holds Tryd.pinned (OpenSpec.upto frameBackSpec)

/-- 'sounderlaw05.FrameAgain', WHERE WHAT IT READS IS OF BULK AT MOST 1048576: true; the input reads as it did. -/
def frameAgainUptoRow : OpenClaim := { program := "ytganelhlpobdjaadoor", sum := "b461966b25910e29a84d04e637c9173ca1087b04924b584cdf06ccd094a25ee1", func := "sounder/sounderlaw05.FrameAgain", spec := "frameAgain", unfollowed := true, recurses := true, named := ["sounder/octet.sizes", "math/bits.divideError", "math/bits.overflowError"], apart := false, laid := [("sounder/octet.sizes", laid_sounder_octet_sizes)], narrowed := true }
def FrameAgainUptoSaid : Prop := frameAgainUptoRow.holds Tryd.pinned (OpenSpec.upto frameAgainSpec)

/-- 'sounderlaw05.FrameCut', WHERE WHAT IT READS IS OF BULK AT MOST 1048576: true; the input reads as it did. -/
def frameCutUptoRow : OpenClaim := { program := "ytganelhlpobdjaadoor", sum := "b461966b25910e29a84d04e637c9173ca1087b04924b584cdf06ccd094a25ee1", func := "sounder/sounderlaw05.FrameCut", spec := "frameCut", unfollowed := true, recurses := true, named := ["sounder/octet.sizes", "math/bits.divideError", "math/bits.overflowError"], apart := false, laid := [("sounder/octet.sizes", laid_sounder_octet_sizes)], narrowed := true }
def FrameCutUptoSaid : Prop := frameCutUptoRow.holds Tryd.pinned (OpenSpec.upto frameCutSpec)

/-- 'sounderlaw05.FrameHas', WHERE WHAT IT READS IS OF BULK AT MOST 1048576: true; the input reads as it did. -/
def frameHasUptoRow : OpenClaim := { program := "ytganelhlpobdjaadoor", sum := "b461966b25910e29a84d04e637c9173ca1087b04924b584cdf06ccd094a25ee1", func := "sounder/sounderlaw05.FrameHas", spec := "frameHas", unfollowed := true, recurses := true, named := ["sounder/octet.sizes", "math/bits.divideError", "math/bits.overflowError"], apart := false, laid := [("sounder/octet.sizes", laid_sounder_octet_sizes)], narrowed := true }
def FrameHasUptoSaid : Prop := frameHasUptoRow.holds Tryd.pinned (OpenSpec.upto frameHasSpec)

/-- 'sounderlaw05.FrameDoubles', WHERE WHAT IT READS IS OF BULK AT MOST 1048576: true; the input reads as it did. -/
def frameDoublesUptoRow : OpenClaim := { program := "ytganelhlpobdjaadoor", sum := "b461966b25910e29a84d04e637c9173ca1087b04924b584cdf06ccd094a25ee1", func := "sounder/sounderlaw05.FrameDoubles", spec := "frameDoubles", unfollowed := true, recurses := true, named := ["math/bits.divideError", "math/bits.overflowError", "sounder/octet.sizes"], apart := false, laid := [("sounder/octet.sizes", laid_sounder_octet_sizes)], narrowed := true }
def FrameDoublesUptoSaid : Prop := frameDoublesUptoRow.holds Tryd.pinned (OpenSpec.upto frameDoublesSpec)

/-- 'sounderlaw05.FrameKnown', WHERE WHAT IT READS IS OF BULK AT MOST 1048576: true; the input reads as it did. -/
def frameKnownUptoRow : OpenClaim := { program := "ytganelhlpobdjaadoor", sum := "b461966b25910e29a84d04e637c9173ca1087b04924b584cdf06ccd094a25ee1", func := "sounder/sounderlaw05.FrameKnown", spec := "frameKnown", unfollowed := true, recurses := true, named := ["sounder/octet.sizes", "math/bits.divideError", "math/bits.overflowError"], apart := false, laid := [("sounder/octet.sizes", laid_sounder_octet_sizes)], narrowed := true }
def FrameKnownUptoSaid : Prop := frameKnownUptoRow.holds Tryd.pinned (OpenSpec.upto frameKnownSpec)

end Rows
end Go.Proofs.YtganelhlpobdjaaDoor
