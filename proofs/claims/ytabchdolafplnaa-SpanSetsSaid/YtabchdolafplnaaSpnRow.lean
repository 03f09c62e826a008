/-
  Arguments of the statements of layer 4 opened.
-/
import Derived.Test.YtabchdolafplnaaNum
namespace Go.Proofs.Ytabchdolafplnaa.Num
open Go.ChangeShapes Go.WideShapes Go.ChangeAt Go.RowKit Wd
variable {H : Type} {enc : TypeId × Value → H} {W : World}
theorem open_pairs {a0 : Option Addr} {len cap : Nat} {d0 : DataW H} {p : List MemPlace} (h0 : DataW.Trod enc Try.prog W 0 (fun _ => true) true 47 (.slice a0 len cap) d0 p) : ∃ f, Grid 2 W a0 len cap f :=
  open_grid (s := 2) (by decide) Try.underlying47 (by kernel_rfl) (cells_array Try.underlying50 Try.underlying3 cInt) h0
theorem open_dos {a0 : Option Addr} {len cap : Nat} {d0 : DataW H} {p : List MemPlace} (h0 : DataW.Trod enc Try.prog W 0 (fun _ => true) true 22 (.slice a0 len cap) d0 p) : ∃ f, Grid 3 W a0 len cap f :=
  open_grid (s := 3) (by decide) Try.underlying22 (by kernel_rfl) (cells_struct Try.underlying31 rfl Try.underlying3 cInt (fun j hj => by
    match j, hj with
    | 0, _ => exact ⟨_, rfl, rfl, rfl⟩
    | 1, _ => exact ⟨_, rfl, rfl, rfl⟩
    | 2, _ => exact ⟨_, rfl, rfl, rfl⟩)) h0

end Go.Proofs.Ytabchdolafplnaa.Num
