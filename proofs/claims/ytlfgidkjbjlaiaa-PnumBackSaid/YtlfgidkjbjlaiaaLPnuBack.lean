/-
  The law PnumBack, walked: for every numbers it returns true; of what was there nothing has turned.
-/
import Derived.Test.YtlfgidkjbjlaiaaLPnuBa1
import Derived.Test.YtlfgidkjbjlaiaaLPnuBa2
import Derived.Test.YtlfgidkjbjlaiaaLPnuBa3
import Derived.Test.YtlfgidkjbjlaiaaLPnuBa4
namespace Go.Proofs.Ytlfgidkjbjlaiaa.Law
open Go.RowKit OctM Oct PnuM Pnu
set_option linter.unusedSimpArgs false
set_option linter.unusedVariables false

theorem pnumBack_any (full acked more : Int) (w : World) :
    Calls Try.prog 4 #[.int .i64 full, .int .i64 acked, .int .i64 more] w fun e w' => e = .returned (.bool true) ∧ Kept w w' := by
  generalize hF : full % 9007199254740992 = F
  generalize hR : acked % 2147483648 = R
  obtain ⟨a, hA⟩ : ∃ a, (F - 1 - R ≤ -1 ∧ a = -1) ∨ (-1 < F - 1 - R ∧ a = F - 1 - R) := by
    rcases Int.lt_or_le (-1) (F - 1 - R) with h | h
    · exact ⟨_, .inr ⟨h, rfl⟩⟩
    · exact ⟨_, .inl ⟨h, rfl⟩⟩
  rcases Int.lt_or_le 8388608 (F - a) with h4 | h4
  · exact pnumBack_4 full acked more F R a w hF hR hA h4 (by omega)
  · rcases Int.lt_or_le 32768 (F - a) with h3 | h3
    · exact pnumBack_3 full acked more F R a w hF hR hA h3 h4
    · rcases Int.lt_or_le 128 (F - a) with h2 | h2
      · exact pnumBack_2 full acked more F R a w hF hR hA h2 h3
      · exact pnumBack_1 full acked more F R a w hF hR hA (by omega) h2

end Go.Proofs.Ytlfgidkjbjlaiaa.Law
