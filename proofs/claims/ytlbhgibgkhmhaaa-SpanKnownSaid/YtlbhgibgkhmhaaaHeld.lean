/-
  A region that draws its order, walked by hand: what is held may grow midway. (For every layer.)
-/
import Derived.Test.YtlbhgibgkhmhaaaWord
import Derived.Deep.RegionHeld3
namespace Go.Proofs.Ytlbhgibgkhmhaaa.Hd
open Go
set_option linter.unusedVariables false

variable {P : Program} {md : Region.Mode} {ops : Array Oper} {Q : Exit → Act → World → Prop} {S S' : World → Prop}
/-- Where more is held from here on, less is. -/
theorem wpAnyH_turn (h : ∀ w, S' w → S w) : ∀ (fuel : Nat) (listed : Array Bool) (a : Act) (w : World), wpAnyH P md ops Q S' fuel listed a w → wpAnyH P md ops Q S fuel listed a w
  | 0, _, _, _, h' => h'
  | fuel + 1, _, _, _, h' => ⟨h'.1, fun i hi => wpOp_mono (fun a' w' h'' => ⟨h _ h''.1, wpAnyH_turn h fuel _ a' w' h''.2⟩) (h'.2 i hi)⟩

end Go.Proofs.Ytlbhgibgkhmhaaa.Hd
