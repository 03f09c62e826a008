/-
  Contracts of the small functions of package sat (clamp, Is, Num, Sub, IsTime, moment, before, Earlier, Later): what each returns, for every input; the world is left alone.
-/
import Derived.Test.YtbnbhembnefndaaRows
import Derived.Test.YtbnbhembnefndaaSatM
import Derived.WalkKit
import Derived.Lib.Hide
import Derived.WalkLawsBesides
import Derived.Outline
namespace Go.Proofs.Ytbnbhembnefndaa.Sat
open Go.RowKit
set_option linter.unusedSimpArgs false
set_option linter.unusedVariables false

set_option maxRecDepth 100000 in
theorem ret_int {k : IntKind} {a b : Int} (h : a = b) : Ending.returned (.int k a) = .returned (.int k b) := by rw [h]
set_option maxRecDepth 100000 in
theorem ret_bool {a b : Bool} (h : a = b) : Ending.returned (.bool a) = .returned (.bool b) := by rw [h]

set_option maxRecDepth 100000 in
set_option maxHeartbeats 400000 in
theorem clamp_int (n : Int) (w : World) :
    Calls Try.prog 48 #[.int .i64 n] w fun e w' => e = .returned (.int .i64 (num n)) ∧ w = w' := by
  go_enter Try.func48, Try.ntmps48
  go_wp2
  all_goals
    go_ret
    exact ⟨ret_int (by first | rw [num_lo _ (by omega)] | rw [num_hi _ (by omega)] | rw [num_id _ (by omega) (by omega)]), rfl⟩

set_option maxRecDepth 100000 in
set_option maxHeartbeats 400000 in
theorem clamp_u64 (n : Int) (w : World) :
    Calls Try.prog 72 #[.int .u64 n] w fun e w' => e = .returned (.int .u64 (num n)) ∧ w = w' := by
  go_enter Try.func72, Try.ntmps72
  go_wp2
  all_goals
    go_ret
    exact ⟨ret_int (by first | rw [num_lo _ (by omega)] | rw [num_hi _ (by omega)] | rw [num_id _ (by omega) (by omega)]), rfl⟩

set_option maxRecDepth 100000 in
set_option maxHeartbeats 400000 in
theorem is_any (n : Int) (w : World) :
    Calls Try.prog 30 #[.int .i64 n] w fun e w' => e = .returned (.bool (isB n)) ∧ w = w' := by
  go_enter Try.func30, Try.ntmps30
  go_wp2_with (go_at_call 48; refine (clamp_int _ _).mono ?_; rintro e w' ⟨rfl, rfl⟩)
  go_ret
  refine ⟨ret_bool ?_, rfl⟩
  rw [Bool.eq_iff_iff]; simp only [isB, num, beq_iff_eq, decide_eq_true_eq]
  split <;> (try split) <;> omega

end Go.Proofs.Ytbnbhembnefndaa.Sat
