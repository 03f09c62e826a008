/-
  The law RttHolds: Held answers as the document does.
-/
import Derived.Test.YtjmieefbeojkfaaRttV
import Derived.Test.YtjmieefbeojkfaaRttR
namespace Go.Proofs.Ytjmieefbeojkfaa.Law
open Go.RowKit RttM Wd Rtt
set_option linter.unusedVariables false
set_option linter.unusedSimpArgs false
theorem rttHolds_any (d m : Int) (k : Bool) (w : World) : Calls Try.prog 4 #[.int .i64 d, .int .i64 m, .bool k] w (GBool true w) := by
  have c1 := held_any d m k
  have c2 := rheld_any d m k
  generalize held d m k = n at *
  go_enter Try.func4, Try.ntmps4
  go_wp2_with fail
  refine (c1 _).mono ?_
  rintro e w' ⟨rfl, rfl⟩
  go_wp2_with fail
  refine (c2 _).mono ?_
  rintro e w' ⟨rfl, rfl⟩
  go_wp2_with fail
  refine (works_any _).mono ?_
  rintro e w' ⟨rfl, hk⟩
  go_wp2_with fail
  go_ret
  exact ⟨rfl, hk⟩
end Go.Proofs.Ytjmieefbeojkfaa.Law
