/-
  Contracts of slices.Delete (from the beginning), Clone and Equal at ranges.
-/
import Derived.Test.YtdfjceghhjecaaaSpnBI
import Derived.LoopTactic
import Derived.Lib.SliceRun
import Derived.Test.YtdfjceghhjecaaaSpnW
import Derived.Laws.StructEq
namespace Go.Proofs.Ytdfjceghhjecaaa.Spn
open Go.RowKit SpnM Wd
set_option linter.unusedVariables false
set_option linter.unusedSimpArgs false

set_option maxRecDepth 100000 in
theorem del_fin {X Z : List Value} {l : List R} {n c k : Nat} (hl : l.length = n) (hX : X.length = c * 2) (hk : k ≤ n) (hc : n ≤ c) (hZ : Z.length = k * 2) :
    (splice (splice X (0 * 2) (flat (l.drop k))) ((n - k) * 2) Z).length = c * 2 ∧ (splice (splice X (0 * 2) (flat (l.drop k))) ((n - k) * 2) Z).take ((n - k) * 2) = flat (l.drop k) := by
  have hd : (flat (l.drop k)).length = (n - k) * 2 := by rw [flat_length, List.length_drop, hl]
  have hlen1 : (splice X (0 * 2) (flat (l.drop k))).length = c * 2 := by rw [length_splice _ _ _ (by omega)]; exact hX
  refine ⟨by rw [length_splice _ _ _ (by omega)]; exact hlen1, ?_⟩
  rw [splice_keep (by omega) (Nat.le_refl _), show (n - k) * 2 = 0 * 2 + (flat (l.drop k)).length by omega, splice_front (by omega)]
  simp

end Go.Proofs.Ytdfjceghhjecaaa.Spn

/-
  Two ranges are compared; contracts of slices.Equal at ranges and of the statements' own equal.
-/
namespace Go.Proofs.Ytdfjceghhjecaaa.Spn
open Go.RowKit SpnM Wd
set_option linter.unusedVariables false
set_option linter.unusedSimpArgs false

set_option maxRecDepth 100000 in
theorem guard_range : Try.prog.eqGuardType Try.prog.depth 49 = false := by kernel_rfl
set_option maxRecDepth 100000 in
theorem neq_range (a b c d : Int) (w : World) : (binOp .neq 49 (.agg #[.int .i64 a, .int .i64 b]) (.agg #[.int .i64 c, .int .i64 d])).run Try.prog w = .ok (.bool (!(a == c && b == d))) w := by
  have u3 := Try.underlying3
  have a3 := Try.isAgg3
  have z3 := Try.sizeOf3
  have hS : Try.prog.underlying 49 = some (.struct (Try.prog.fieldsOf 49)) := by kernel_rfl
  have hp : Try.prog.stoodInHeld 49 = false := by kernel_rfl
  rw [run_neq_struct, show (10000 : Nat) = 9999 + 1 from rfl, run_equalIn_agg w 9999 _ _ _ hS hp]
  simp only [Program.fieldsOf, Try.underlying49]
  go_simp
  by_cases h1 : a = c <;> by_cases h2 : b = d <;> simp [h1, h2]
set_option maxRecDepth 100000 in
theorem eql_range (a b c d : Int) (w : World) : (binOp .eql 49 (.agg #[.int .i64 a, .int .i64 b]) (.agg #[.int .i64 c, .int .i64 d])).run Try.prog w = .ok (.bool (a == c && b == d)) w := by
  have u3 := Try.underlying3
  have a3 := Try.isAgg3
  have z3 := Try.sizeOf3
  have hS : Try.prog.underlying 49 = some (.struct (Try.prog.fieldsOf 49)) := by kernel_rfl
  have hp : Try.prog.stoodInHeld 49 = false := by kernel_rfl
  rw [run_eql_struct, show (10000 : Nat) = 9999 + 1 from rfl, run_equalIn_agg w 9999 _ _ _ hS hp]
  simp only [Program.fieldsOf, Try.underlying49]
  go_simp
  by_cases h1 : a = c <;> by_cases h2 : b = d <;> simp [h1, h2]

/-- Are two lists of ranges the same? -/
def same (l m : List R) : Bool := decide (l = m)
set_option maxRecDepth 100000 in
theorem same_self (l : List R) : same l l = true := decide_eq_true rfl
set_option maxRecDepth 100000 in
theorem same_no {l m : List R} (h : l ≠ m) : same l m = false := decide_eq_false h
set_option maxRecDepth 100000 in
theorem same_all {l m : List R} (h : l.length = m.length) (hk : ∀ i, i < l.length → at_ l i = at_ m i) : l = m := by
  apply List.ext_getElem h
  intro i h1 h2
  have := hk i h1
  rwa [at_of h1, at_of h2] at this

end Go.Proofs.Ytdfjceghhjecaaa.Spn
