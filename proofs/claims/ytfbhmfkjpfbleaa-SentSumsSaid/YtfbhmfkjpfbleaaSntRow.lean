/-
  Arguments of the statements of layer 6 opened.
-/
import Derived.Test.YtfbhmfkjpfbleaaNum
import Derived.Test.YtfbhmfkjpfbleaaOpen
namespace Go.Proofs.Ytfbhmfkjpfbleaa.Num
open Go.ChangeShapes Go.WideShapes Go.ChangeAt Go.RowKit Wd
variable {H : Type} {enc : TypeId × Value → H} {W : World}
theorem open_rows {a0 : Option Addr} {len cap : Nat} {d0 : DataW H} {p : List MemPlace} (h0 : DataW.Trod enc Try.prog W 0 (fun _ => true) true 46 (.slice a0 len cap) d0 p) : ∃ f, Grid 4 W a0 len cap f :=
  open_grid (s := 4) (by decide) Try.underlying46 (by kernel_rfl) (cells_struct Try.underlying49 rfl Try.underlying3 cInt (fun j hj => by
    match j, hj with
    | 0, _ => exact ⟨_, rfl, rfl, rfl⟩
    | 1, _ => exact ⟨_, rfl, rfl, rfl⟩
    | 2, _ => exact ⟨_, rfl, rfl, rfl⟩
    | 3, _ => exact ⟨_, rfl, rfl, rfl⟩)) h0

end Go.Proofs.Ytfbhmfkjpfbleaa.Num
