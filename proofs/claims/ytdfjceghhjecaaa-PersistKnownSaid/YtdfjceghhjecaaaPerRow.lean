/-
  Arguments of the statements of layer 10 opened: slices of rows of three numbers; arrays of numbers.
-/
import Derived.Test.YtdfjceghhjecaaaNum
import Derived.Test.YtdfjceghhjecaaaRttRow
namespace Go.Proofs.Ytdfjceghhjecaaa.Num
open Go.ChangeShapes Go.WideShapes Go.ChangeAt Go.RowKit Wd
set_option linter.unusedVariables false
set_option linter.unusedSimpArgs false
variable {H : Type} {enc : TypeId × Value → H} {W : World}

theorem open_rows {a0 : Option Addr} {len cap : Nat} {d0 : DataW H} {p : List MemPlace} (h0 : DataW.Trod enc Try.prog W 0 (fun _ => true) true 22 (.slice a0 len cap) d0 p) : ∃ f, Grid 3 W a0 len cap f :=
  open_grid (s := 3) (by decide) Try.underlying22 (by kernel_rfl) (cells_struct (s := 3) Try.underlying53 rfl Try.underlying3 cInt (fun j hj => by
    match j, hj with
    | 0, _ => exact ⟨_, rfl, rfl, rfl⟩
    | 1, _ => exact ⟨_, rfl, rfl, rfl⟩
    | 2, _ => exact ⟨_, rfl, rfl, rfl⟩)) h0

end Go.Proofs.Ytdfjceghhjecaaa.Num
