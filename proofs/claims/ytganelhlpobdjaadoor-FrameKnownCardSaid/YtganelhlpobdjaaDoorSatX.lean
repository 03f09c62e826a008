/-
  Contracts of the small functions of package sat (clamp, Is, Num, Sub, IsTime, moment, before, Earlier, Later): what each returns, for every input; the world is left alone.
-/
import Derived.Test.YtganelhlpobdjaaDoorRows
import Derived.Test.YtganelhlpobdjaaDoorSatM
import Derived.WalkKit
import Derived.Lib.Hide
import Derived.WalkLawsBesides
import Derived.Outline
import Derived.LoopN
namespace Go.Proofs.YtganelhlpobdjaaDoor.Sat
open Go.RowKit
set_option linter.unusedSimpArgs false
set_option linter.unusedVariables false

set_option maxRecDepth 100000 in
theorem ret_int {k : IntKind} {a b : Int} (h : a = b) : Ending.returned (.int k a) = .returned (.int k b) := by rw [h]
set_option maxRecDepth 100000 in
theorem ret_bool {a b : Bool} (h : a = b) : Ending.returned (.bool a) = .returned (.bool b) := by rw [h]

set_option maxRecDepth 100000 in
set_option maxHeartbeats 400000 in
theorem clamp_int (n : Int) (w : World) :
    Calls Tryd.prog 55 #[.int .i64 n] w fun e w' => e = .returned (.int .i64 (num n)) ∧ w = w' := by
  go_enter Tryd.func55, Tryd.ntmps55
  go_wp2
  all_goals
    go_ret
    exact ⟨ret_int (by first | rw [num_lo _ (by omega)] | rw [num_hi _ (by omega)] | rw [num_id _ (by omega) (by omega)]), rfl⟩

set_option maxRecDepth 100000 in
set_option maxHeartbeats 400000 in
theorem clamp_u64 (n : Int) (w : World) :
    Calls Tryd.prog 73 #[.int .u64 n] w fun e w' => e = .returned (.int .u64 (num n)) ∧ w = w' := by
  go_enter Tryd.func73, Tryd.ntmps73
  go_wp2
  all_goals
    go_ret
    exact ⟨ret_int (by first | rw [num_lo _ (by omega)] | rw [num_hi _ (by omega)] | rw [num_id _ (by omega) (by omega)]), rfl⟩

set_option maxRecDepth 100000 in
set_option maxHeartbeats 400000 in
theorem is_any (n : Int) (w : World) :
    Calls Tryd.prog 38 #[.int .i64 n] w fun e w' => e = .returned (.bool (isB n)) ∧ w = w' := by
  go_enter Tryd.func38, Tryd.ntmps38
  go_wp2_with (go_at_call 55; refine (clamp_int _ _).mono ?_; rintro e w' ⟨rfl, rfl⟩)
  go_ret
  refine ⟨ret_bool ?_, rfl⟩
  rw [Bool.eq_iff_iff]; simp only [isB, num, beq_iff_eq, decide_eq_true_eq]
  split <;> (try split) <;> omega

end Go.Proofs.YtganelhlpobdjaaDoor.Sat

/-
  Contracts of sat's sum (of two numbers), Add and Ends: what each returns, for every input; the world gets at most new blocks.
-/
namespace Go.Proofs.YtganelhlpobdjaaDoor.Sat
open Go.RowKit
set_option linter.unusedSimpArgs false
set_option linter.unusedVariables false

/-- Of what was there nothing has turned. -/
def Kept (w w' : World) : Prop := Below w.heap.size w w'
set_option maxRecDepth 100000 in
theorem Kept.refl (w : World) : Kept w w := Below.refl _ _
set_option maxRecDepth 100000 in
theorem Kept.trans {a b c : World} (h : Kept a b) (k : Kept b c) : Kept a c := Below.trans h (Below.mono k h.size)
set_option maxRecDepth 100000 in
theorem Kept.alloc {a b : World} (h : Kept a b) (o : Obj) : Kept a (b.alloc o) := Below.alloc h h.size o
set_option maxRecDepth 100000 in
theorem Kept.drew {a b : World} (h : Kept a b) : Kept a b.drew := Below.drew h

end Go.Proofs.YtganelhlpobdjaaDoor.Sat
