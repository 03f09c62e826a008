/-
  The contract of the function 'works' of the laws of layer 1: it returns true.
-/
import Derived.Test.YtnafmfkchnjmfaaSatC
namespace Go.Proofs.Ytnafmfkchnjmfaa.Sat
open Go.RowKit
set_option linter.unusedSimpArgs false
set_option linter.unusedVariables false

set_option maxHeartbeats 2000000 in
theorem works_any (w : World) :
    Calls Try.prog 26 #[] w fun e w' => e = .returned (.bool true) ∧ Kept w w' := by
  have x1 : add 9007199254740991 1 = 9007199254740991 := by decide
  have x2 : sub 3 5 = 0 := by decide
  have x3 : mul 1099511627776 1099511627776 = 9007199254740991 := by decide
  have x4 : add (-7) 2 = 2 := by decide
  have x5 : mulq 7 5 4 = 8 := by decide
  have x6 : mulup 7 5 4 = 9 := by decide
  have x7 : mulq 4503599627370496 4503599627370496 4503599627370496 = 4503599627370496 := by decide
  have x8 : mulup 1 0 3 = 0 := by decide
  have x9 : mulq 1 1 0 = 9007199254740991 := by decide
  have x10 : mulr 7 5 4 = 3 := by decide
  have x11 : mulq 9007199254740991 3 2 = 9007199254740991 := by decide
  have x12 : mulr 9007199254740991 3 2 = 0 := by decide
  have x13 : earlier (-1) 5 = 5 := by decide
  have x14 : later (-1) 5 = -1 := by decide
  have x15 : ends (-1) 3 = -1 := by decide
  have x16 : ends 9007199254740990 9 = 9007199254740991 := by decide
  have x17 : earlier (-5) (-1) = -1 := by decide
  have hK : Kept w w := Kept.refl w
  go_enter Try.func26, Try.ntmps26
  go_wp2_with (first
    | (go_at_call 14; refine (add_any _ _ _).mono ?_; rintro e w' ⟨rfl, hk⟩; replace hK := hK.trans hk; clear hk)
    | (go_at_call 16; refine (sub_any _ _ _).mono ?_; rintro e w' ⟨rfl, rfl⟩)
    | (go_at_call 18; refine (mul_any _ _ _).mono ?_; rintro e w' ⟨rfl, hk⟩; replace hK := hK.trans hk; clear hk)
    | (go_at_call 22; refine (mulDiv_any _ _ _ _).mono ?_; rintro e w' ⟨rfl, hk⟩; replace hK := hK.trans hk; clear hk)
    | (go_at_call 24; refine (mulUp_any _ _ _ _).mono ?_; rintro e w' ⟨rfl, hk⟩; replace hK := hK.trans hk; clear hk)
    | (go_at_call 20; refine (mulRest_any _ _ _ _).mono ?_; rintro e w' ⟨rfl, hk⟩; replace hK := hK.trans hk; clear hk)
    | (go_at_call 29; refine (earlier_any _ _ _).mono ?_; rintro e w' ⟨rfl, rfl⟩)
    | (go_at_call 31; refine (later_any _ _ _).mono ?_; rintro e w' ⟨rfl, rfl⟩)
    | (go_at_call 33; refine (ends_any _ _ _).mono ?_; rintro e w' ⟨rfl, hk⟩; replace hK := hK.trans hk; clear hk))
  go_ret
  exact ⟨rfl, hK⟩

end Go.Proofs.Ytnafmfkchnjmfaa.Sat
