/-
  The law's works, rate and same.
-/
import Derived.Test.YtbnbhembnefndaaBucF
import Derived.Test.YtbnbhembnefndaaBucI
import Derived.Test.YtbnbhembnefndaaNum
import Derived.Test.YtbnbhembnefndaaOpen
namespace Go.Proofs.Ytbnbhembnefndaa.Buc
open Go.RowKit BucM Wd Bxs
set_option linter.unusedVariables false
set_option linter.unusedSimpArgs false

instance (x : Bk) : Decidable (Ok x) := decidable_of_iff ((1 ≤ x.b ∧ x.b ≤ 1073741824) ∧ (0 ≤ x.n ∧ x.n ≤ x.b) ∧ 0 ≤ x.l ∧ (x.l = 0 ∨ x.l < x.q) ∧ x.q ≤ 9007199254740991 ∧ tm x.t)
  ⟨fun ⟨⟨a, b⟩, ⟨c, d⟩, e, f, g, h⟩ => ⟨a, b, c, d, e, f, g, h⟩, fun h => ⟨⟨h.b0, h.b1⟩, ⟨h.n0, h.n1⟩, h.l0, h.l1, h.q1, h.t⟩⟩
/-- The rate that the law makes of two numbers. -/
def rp (x : Int) : Int := x % 16777216
def rq (y : Int) : Int := 1 + y % 1073741824
set_option maxRecDepth 100000 in
theorem r_may (x y : Int) : may (rp x) (rq y) := by
  have h0 := Int.emod_nonneg x (show (16777216 : Int) ≠ 0 by decide)
  have h1 := Int.emod_lt_of_pos x (show (0 : Int) < 16777216 by decide)
  have h2 := Int.emod_nonneg y (show (1073741824 : Int) ≠ 0 by decide)
  have h3 := Int.emod_lt_of_pos y (show (0 : Int) < 1073741824 by decide)
  unfold rp rq
  exact ⟨⟨by omega, by omega⟩, by omega, by omega⟩
end Go.Proofs.Ytbnbhembnefndaa.Buc
