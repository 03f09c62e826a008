/-
  The walks of the laws SatTells and SatTimes of layer 1.
-/
import Derived.Test.YtfacacieegfopaaSatC
namespace Go.Proofs.Ytfacacieegfopaa.Law
open Go.RowKit Sat
set_option linter.unusedSimpArgs false
set_option linter.unusedVariables false

set_option maxRecDepth 100000 in
set_option maxHeartbeats 400000 in
theorem rNum_any (n : Int) (w : World) :
    Calls Try.prog 39 #[.int .i64 n] w fun e w' => e = .returned (.int .i64 (num n)) ∧ w = w' := by
  go_enter Try.func39, Try.ntmps39
  go_wp2
  go_ret
  exact ⟨ret_int (num_max n), rfl⟩

set_option maxRecDepth 100000 in
set_option maxHeartbeats 400000 in
theorem rAdd_any (a b : Int) (w : World) :
    Calls Try.prog 30 #[.int .i64 a, .int .i64 b] w fun e w' => e = .returned (.int .i64 (add a b)) ∧ w = w' := by
  have ha := num_bd a
  have hb := num_bd b
  go_enter Try.func30, Try.ntmps30
  go_wp2_with (go_at_call 39; refine (rNum_any _ _).mono ?_; rintro e w' ⟨rfl, rfl⟩)
  go_ret
  exact ⟨rfl, rfl⟩

set_option maxRecDepth 100000 in
theorem earlier_eq (a b r : Int) (h : (tm a = -1 ∨ (tm b ≠ -1 ∧ tm b < tm a)) → r = tm b) (h' : ¬ (tm a = -1 ∨ (tm b ≠ -1 ∧ tm b < tm a)) → r = tm a) : r = earlier a b := by
  unfold earlier befB
  by_cases hc : tm a = -1 ∨ (tm b ≠ -1 ∧ tm b < tm a)
  · rw [h hc]
    by_cases hb : tm b = -1
    · by_cases ha : tm a = -1
      · simp [ha, hb]
      · omega
    · simp [hb]; intro h1 h2; omega
  · rw [h' hc]; simp; omega

set_option maxRecDepth 100000 in
theorem later_eq (a b r : Int) (h : (tm a = -1 ∨ tm b = -1) → r = -1) (h' : ¬ (tm a = -1 ∨ tm b = -1) → r = max (tm a) (tm b)) : r = later a b := by
  have ha := tm_bd a
  have hb := tm_bd b
  unfold later befB
  by_cases hc : tm a = -1 ∨ tm b = -1
  · rw [h hc]; simp; split <;> omega
  · rw [h' hc]; simp; split <;> omega

end Go.Proofs.Ytfacacieegfopaa.Law
