/-
  Arguments of the statements of layer 7 opened: a struct of five numbers, an array of three, slices of arrays of three.
-/
import Derived.Test.YtilkgjpgoogiiaaGreatWrdabJ8a
import Derived.Test.YtilkgjpgoogiiaaGreatWrdabJ50a
set_option maxRecDepth 100000
set_option maxHeartbeats 16000000
set_option linter.unusedVariables false
set_option linter.unusedSimpArgs false
namespace Go.Proofs.YtilkgjpgoogiiaaGreat.Num
open Go.ChangeShapes Go.WideShapes Go.ChangeAt Go.RowKit Wd
variable {H : Type} {enc : TypeId × Value → H} {W : World}
theorem one_int {fuel : Nat} {cs : List Value} {x : DataW H × List MemPlace} (h : DataW.trod enc Tryz.prog W 0 (fun _ => true) true fuel 3 cs = some x) : ∃ v, cs = [.int .i64 v] := by
  obtain ⟨v, h1, _⟩ := DataW.trod_int Tryz.underlying3 h
  exact ⟨v, h1⟩
end Go.Proofs.YtilkgjpgoogiiaaGreat.Num
