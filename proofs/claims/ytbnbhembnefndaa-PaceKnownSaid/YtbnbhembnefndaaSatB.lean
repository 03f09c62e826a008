/-
  Contracts of sat's sum (of two numbers), Add and Ends: what each returns, for every input; the world gets at most new blocks.
-/
import Derived.Test.YtbnbhembnefndaaSatA
import Derived.LoopN
namespace Go.Proofs.Ytbnbhembnefndaa.Sat
open Go.RowKit
set_option linter.unusedSimpArgs false
set_option linter.unusedVariables false

/-- Of what was there nothing has turned. -/
def Kept (w w' : World) : Prop := Below w.heap.size w w'
set_option maxRecDepth 100000 in
theorem Kept.refl (w : World) : Kept w w := Below.refl _ _
set_option maxRecDepth 100000 in
theorem Kept.trans {a b c : World} (h : Kept a b) (k : Kept b c) : Kept a c := Below.trans h (Below.mono k h.size)
set_option maxRecDepth 100000 in
theorem Kept.alloc {a b : World} (h : Kept a b) (o : Obj) : Kept a (b.alloc o) := Below.alloc h h.size o
set_option maxRecDepth 100000 in
theorem Kept.drew {a b : World} (h : Kept a b) : Kept a b.drew := Below.drew h

end Go.Proofs.Ytbnbhembnefndaa.Sat
