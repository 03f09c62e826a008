/-
  Arguments of the statements of layer 8 opened: an array of four.
-/
import Derived.Test.YtiifihipeidphaaRttRow
namespace Go.Proofs.Ytiifihipeidphaa.Num
open Go.ChangeShapes Go.WideShapes Go.ChangeAt Go.RowKit Wd
set_option linter.unusedVariables false
set_option linter.unusedSimpArgs false
variable {H : Type} {enc : TypeId × Value → H} {W : World}
theorem open_array4 {v : Value} {d : DataW H} {p : List MemPlace} {b : Nat} (hval : Value.okWide Try.prog W .any b 31 v) (h0 : DataW.Trod enc Try.prog W 0 (fun _ => true) true 31 v d p) :
    ∃ x0 x1 x2 x3 : Int, v = .agg #[.int .i64 x0, .int .i64 x1, .int .i64 x2, .int .i64 x3] := by
  obtain ⟨xs, hv, hl, hw⟩ := Open.open_array_int Try.underlying31 Try.underlying3 (by kernel_rfl) (by kernel_rfl) hval h0
  match xs, hl with
  | [x, y, z, t], _ => exact ⟨x, y, z, t, by simpa using hv⟩
end Go.Proofs.Ytiifihipeidphaa.Num
