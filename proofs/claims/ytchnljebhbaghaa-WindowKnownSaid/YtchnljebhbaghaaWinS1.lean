/-
  The law's step, all ways.
-/
import Derived.Test.YtchnljebhbaghaaWinS0
namespace Go.Proofs.Ytchnljebhbaghaa.Win
open Go.RowKit WinM Wd
set_option linter.unusedVariables false
set_option linter.unusedSimpArgs false

theorem step_any (x : Wn) (o : Do) (w : World) (hx : Ok x) : Calls Try.prog 26 #[wnV x, doV o] w (Gives (.tuple #[wnV (stepW x o), .bool true]) w) := by
  unfold stepW
  by_cases h5 : o.k % 8 = 5
  · rw [if_pos (.inl h5)]; exact step_5 x o w hx h5
  · by_cases h6 : o.k % 8 = 6
    · rw [if_pos (.inr h6)]; exact step_6 x o w hx h6
    · rw [if_neg (by rintro (h | h); exact h5 h; exact h6 h)]
      by_cases h7 : o.k % 8 = 7
      · rw [if_pos h7]; exact step_7 x o w hx h7
      · rw [if_neg h7]; exact step_0 x o w hx h5 h6 h7
end Go.Proofs.Ytchnljebhbaghaa.Win
