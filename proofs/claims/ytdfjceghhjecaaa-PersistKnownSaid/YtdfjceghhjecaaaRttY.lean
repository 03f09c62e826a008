/-
  Contracts of package rtt's functions: afterNext, Sample, New, Held, Greatest.
-/
import Derived.Test.YtdfjceghhjecaaaRttWX
namespace Go.Proofs.Ytdfjceghhjecaaa.Rtt
open Go.RowKit RttM Wd
set_option linter.unusedVariables false
set_option linter.unusedSimpArgs false

set_option maxRecDepth 100000 in
/-- Three boxes that are laid one behind the other. -/
theorem three (w : World) (A B C : Array Value) (a b c : TypeId) : ∃ W, W = ((w.alloc (.cells A a)).alloc (.cells B b)).alloc (.cells C c) ∧ Blk W w.heap.size a A ∧ Blk W (w.heap.size + 1) b B ∧ Blk W (w.heap.size + 1 + 1) c C ∧ Kept w W := by
  refine ⟨_, rfl, ((Blk.new w a A).kept ((Kept.refl _).alloc _)).kept ((Kept.refl _).alloc _), ?_, ?_, ((Kept.refl w).alloc _ |>.alloc _).alloc _⟩
  · have := Blk.new (w.alloc (.cells A a)) b B
    rw [World.size_alloc] at this
    exact this.kept ((Kept.refl _).alloc _)
  · have := Blk.new ((w.alloc (.cells A a)).alloc (.cells B b)) c C
    rw [World.size_alloc, World.size_alloc] at this
    exact this
end Go.Proofs.Ytdfjceghhjecaaa.Rtt
