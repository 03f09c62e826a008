/-
  The law PtoBacks: Backed and Due answer as the document does.
-/
import Derived.Test.YtiifihipeidphaaPtoV
import Derived.Test.YtiifihipeidphaaPtoR
import Derived.Deep.Cut
import Derived.Deep.CutRange
import Derived.Deep.RegionHeld3
namespace Go.Proofs.Ytiifihipeidphaa.Law
open Go.RowKit RttM Wd Rtt PtoM Pto
set_option linter.unusedVariables false
set_option linter.unusedSimpArgs false

set_option maxRecDepth 100000 in
set_option maxHeartbeats 2000000 in
theorem ptoBacks_any (b c m : Int) (w : World) : Calls Try.prog 4 #[.int .i64 b, .int .i64 c, .int .i64 m] w (GBool true w) := by
  obtain ⟨N, hN⟩ : ∃ N, bk b c m = N := ⟨_, rfl⟩
  obtain ⟨P, hP⟩ : ∃ P, ovr b c = P := ⟨_, rfl⟩
  obtain ⟨Q, hQ⟩ : ∃ P, ovr c m = P := ⟨_, rfl⟩
  have c1 := backed_is hN
  have c2 := fun W => rbacked_any b c m W
  have c3 := due_is hP
  have c4 := fun W => rdue_any b c W
  have c5 := due_is hQ
  have c6 := fun W => rdue_any c m W
  rw [hN] at c2
  rw [hP] at c4
  rw [hQ] at c6
  clear hN hP hQ
  have K := Lib.hid (Kept.refl w)
  go_enter Try.func4, Try.ntmps4
  go_wp2_with fail
  refine (c1 _).mono ?_
  rintro e w' ⟨rfl, hk⟩
  have K := Lib.hid (K.out.trans hk)
  clear hk
  go_wp2_with fail
  refine (c2 _).mono ?_
  rintro e w' ⟨rfl, hk⟩
  have K := Lib.hid (K.out.trans hk)
  clear hk
  go_wp2_with fail
  refine (c3 _).mono ?_
  rintro e w' ⟨rfl, hk⟩
  have K := Lib.hid (K.out.trans hk)
  clear hk
  go_wp2_with fail
  refine (c4 _).mono ?_
  rintro e w' ⟨rfl, hk⟩
  have K := Lib.hid (K.out.trans hk)
  clear hk
  go_wp2_with fail
  refine (c5 _).mono ?_
  rintro e w' ⟨rfl, hk⟩
  have K := Lib.hid (K.out.trans hk)
  clear hk
  go_wp2_with fail
  refine (c6 _).mono ?_
  rintro e w' ⟨rfl, hk⟩
  have K := Lib.hid (K.out.trans hk)
  clear hk
  go_wp2_with fail
  refine (works_any _).mono ?_
  rintro e w' ⟨rfl, hk⟩
  have K := Lib.hid (K.out.trans hk)
  clear hk
  go_wp2_with fail
  go_ret
  exact ⟨rfl, K.out⟩
end Go.Proofs.Ytiifihipeidphaa.Law
