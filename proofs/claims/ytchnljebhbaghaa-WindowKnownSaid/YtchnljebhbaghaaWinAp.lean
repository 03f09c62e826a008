/-
  Packets; the boxes of Acked.
-/
import Derived.Test.YtchnljebhbaghaaWinD
namespace Go.Proofs.Ytchnljebhbaghaa.Win
open Go.RowKit WinM Wd
set_option linter.unusedVariables false
set_option linter.unusedSimpArgs false

/-- A packet. -/
structure Pk where
  n : Int
  t : Int
  z : Int
  e : Bool
  f : Bool
  k : Bool
deriving Inhabited
abbrev pkV (q : Pk) : Value := .agg #[.int .i64 q.n, .int .i64 q.t, .int .i64 q.z, .bool q.e, .bool q.f, .bool q.k]
abbrev pkA (q : Pk) : Array Value := #[.int .i64 q.n, .int .i64 q.t, .int .i64 q.z, .bool q.e, .bool q.f, .bool q.k]
/-- The boxes of a window, of a packet, and of a result. -/
theorem three_box (w : World) (x : Wn) (q : Pk) : ∃ W, W = (((w.alloc (.cells (wnA x) 23)).alloc (.cells (pkA q) 25)).alloc (.cells zA 23)) ∧ Blk W w.heap.size 23 (wnA x) ∧ Blk W (w.heap.size + 1) 25 (pkA q) ∧ Blk W (w.heap.size + 1 + 1) 23 zA ∧ Kept w W := by
  refine ⟨_, rfl, (Blk.new _ _ _).kept (((Kept.refl _).alloc _).alloc _), ?_, ?_, (((Kept.refl w).alloc _).alloc _).alloc _⟩
  · have h := Blk.new (w.alloc (.cells (wnA x) 23)) 25 (pkA q)
    rw [World.size_alloc] at h
    exact h.kept ((Kept.refl _).alloc _)
  · have h := Blk.new ((w.alloc (.cells (wnA x) 23)).alloc (.cells (pkA q) 25)) 23 zA
    rwa [World.size_alloc, World.size_alloc] at h
end Go.Proofs.Ytchnljebhbaghaa.Win
