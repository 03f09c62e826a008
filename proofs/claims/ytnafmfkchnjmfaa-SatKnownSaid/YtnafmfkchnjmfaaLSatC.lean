/-
  The walk of the law SatSums of layer 1.
-/
import Derived.Test.YtnafmfkchnjmfaaLSatA
namespace Go.Proofs.Ytnafmfkchnjmfaa.Law
open Go.RowKit Sat
set_option linter.unusedSimpArgs false
set_option linter.unusedVariables false

set_option maxRecDepth 100000 in
set_option maxHeartbeats 4000000 in
theorem satSums_any (a b c : Int) (w : World) :
    Calls Try.prog 6 #[.int .i64 a, .int .i64 b, .int .i64 c] w fun e w' => e = .returned (.bool true) ∧ Kept w w' := by
  have hK : Kept w w := Kept.refl w
  have x1 : (add a b != add b a) = false := by simp [add_comm a b]
  have x2 : (mul a b != mul b a) = false := by simp [mul_comm a b]
  have x3 : (add (add a b) c != add a (add b c)) = false := by simp [add_assoc a b c]
  have x4 : (mul (mul a b) c != mul a (mul b c)) = false := by simp [mul_assoc a b c]
  have x5 := sub_self a
  have x6 := mul_one a
  have x7 := mul_zero a
  have x8 := add_zero a
  cases x9 : (add a b == 9007199254740991)
  · have x10 : (sub (add a b) b == num a) = true := by
      simp only [beq_eq_false_iff_ne] at x9; rw [sub_add a b x9]; simp
    go_enter Try.func6, Try.ntmps6
    go_wp2_with (first
      | (go_at_call 14; refine (add_any _ _ _).mono ?_; rintro e w' ⟨rfl, hk⟩; replace hK := hK.trans hk; clear hk)
      | (go_at_call 16; refine (sub_any _ _ _).mono ?_; rintro e w' ⟨rfl, rfl⟩)
      | (go_at_call 12; refine (num_any _ _).mono ?_; rintro e w' ⟨rfl, rfl⟩)
      | (go_at_call 18; refine (mul_any _ _ _).mono ?_; rintro e w' ⟨rfl, hk⟩; replace hK := hK.trans hk; clear hk)
      | (go_at_call 26; refine (works_any _).mono ?_; rintro e w' ⟨rfl, hk⟩; replace hK := hK.trans hk; clear hk))
    go_ret
    exact ⟨rfl, hK⟩
  · go_enter Try.func6, Try.ntmps6
    go_wp2_with (first
      | (go_at_call 14; refine (add_any _ _ _).mono ?_; rintro e w' ⟨rfl, hk⟩; replace hK := hK.trans hk; clear hk)
      | (go_at_call 16; refine (sub_any _ _ _).mono ?_; rintro e w' ⟨rfl, rfl⟩)
      | (go_at_call 12; refine (num_any _ _).mono ?_; rintro e w' ⟨rfl, rfl⟩)
      | (go_at_call 18; refine (mul_any _ _ _).mono ?_; rintro e w' ⟨rfl, hk⟩; replace hK := hK.trans hk; clear hk)
      | (go_at_call 26; refine (works_any _).mono ?_; rintro e w' ⟨rfl, hk⟩; replace hK := hK.trans hk; clear hk))
    go_ret
    exact ⟨rfl, hK⟩

theorem satSums_walk (a b c : Int) (wa : (Lit.int .i64 a).wf = true) (wb : (Lit.int .i64 b).wf = true) (wc : (Lit.int .i64 c).wf = true) (w : World) :
    Calls Try.prog 6 #[.int .i64 a, .int .i64 b, .int .i64 c] w fun e w' => e = .returned (.bool true) ∧ Kept w w' := satSums_any a b c w

end Go.Proofs.Ytnafmfkchnjmfaa.Law
