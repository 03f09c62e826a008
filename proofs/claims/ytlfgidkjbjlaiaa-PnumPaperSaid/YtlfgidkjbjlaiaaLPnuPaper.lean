/-
  The law PnumPaper, walked: for every numbers and bytes it returns true; of what was there nothing has turned.
-/
import Derived.Test.YtlfgidkjbjlaiaaLPnuPap1
import Derived.Test.YtlfgidkjbjlaiaaLPnuPap2
import Derived.Test.YtlfgidkjbjlaiaaLPnuPap3
import Derived.Test.YtlfgidkjbjlaiaaLPnuPap4
namespace Go.Proofs.Ytlfgidkjbjlaiaa.Law
open Go.RowKit OctM Oct PnuM Pnu
set_option linter.unusedSimpArgs false
set_option linter.unusedVariables false

theorem pnumPaper_any (g0 : Int) (A : Option Addr) (n c : Nat) (l : List Int) (n0 : Int) (w : World) (hb : Byt w A n c l) :
    Calls Try.prog 7 #[.int .i64 g0, .slice A n c, .int .i64 n0] w fun e w' => e = .returned (.bool true) ∧ Kept w w' := by
  have h : n0 % 4 = 0 ∨ n0 % 4 = 1 ∨ n0 % 4 = 2 ∨ n0 % 4 = 3 := by omega
  rcases h with h | h | h | h
  · exact pnumPaper_1 g0 n0 _ A n c l w hb rfl h
  · exact pnumPaper_2 g0 n0 _ A n c l w hb rfl h
  · exact pnumPaper_3 g0 n0 _ A n c l w hb rfl h
  · exact pnumPaper_4 g0 n0 _ A n c l w hb rfl h

end Go.Proofs.Ytlfgidkjbjlaiaa.Law
