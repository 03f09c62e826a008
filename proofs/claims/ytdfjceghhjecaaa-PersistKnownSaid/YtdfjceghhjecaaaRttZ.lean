/-
  Contracts of package rtt's functions: New, Sample, Held, Greatest.
-/
import Derived.Test.YtdfjceghhjecaaaRttY
namespace Go.Proofs.Ytdfjceghhjecaaa.Rtt
open Go.RowKit RttM Wd
set_option linter.unusedVariables false
set_option linter.unusedSimpArgs false

set_option maxRecDepth 100000 in
theorem two (w : World) (A B : Array Value) (a b : TypeId) : ∃ W, W = (w.alloc (.cells A a)).alloc (.cells B b) ∧ Blk W w.heap.size a A ∧ Blk W (w.heap.size + 1) b B ∧ Kept w W := by
  refine ⟨_, rfl, (Blk.new w a A).kept ((Kept.refl _).alloc _), ?_, ((Kept.refl w).alloc _).alloc _⟩
  have := Blk.new (w.alloc (.cells A a)) b B
  rw [World.size_alloc] at this
  exact this

end Go.Proofs.Ytdfjceghhjecaaa.Rtt
