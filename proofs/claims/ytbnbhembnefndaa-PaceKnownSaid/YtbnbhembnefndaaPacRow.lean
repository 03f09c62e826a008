/-
  Arguments of the statements of layer 14 opened: slices of structs of four numbers, arrays of three and of four numbers.
-/
import Derived.Test.YtbnbhembnefndaaNum
import Derived.Test.YtbnbhembnefndaaOpen
namespace Go.Proofs.Ytbnbhembnefndaa.Num
open Go.ChangeShapes Go.WideShapes Go.ChangeAt Go.RowKit Wd
set_option linter.unusedVariables false
set_option linter.unusedSimpArgs false
variable {H : Type} {enc : TypeId × Value → H} {W : World}
set_option maxRecDepth 100000 in
theorem open_array3 {v : Value} {d : DataW H} {p : List MemPlace} {b : Nat} (hval : Value.okWide Try.prog W .any b 49 v) (h0 : DataW.Trod enc Try.prog W 0 (fun _ => true) true 49 v d p) :
    ∃ x0 x1 x2 : Int, v = .agg #[.int .i64 x0, .int .i64 x1, .int .i64 x2] := by
  obtain ⟨xs, hv, hl, hw⟩ := Open.open_array_int Try.underlying49 Try.underlying3 (by kernel_rfl) (by kernel_rfl) hval h0
  match xs, hl with
  | [x, y, z], _ => exact ⟨x, y, z, by simpa using hv⟩
set_option maxRecDepth 100000 in
theorem open_array4 {v : Value} {d : DataW H} {p : List MemPlace} {b : Nat} (hval : Value.okWide Try.prog W .any b 58 v) (h0 : DataW.Trod enc Try.prog W 0 (fun _ => true) true 58 v d p) :
    ∃ x0 x1 x2 x3 : Int, v = .agg #[.int .i64 x0, .int .i64 x1, .int .i64 x2, .int .i64 x3] := by
  obtain ⟨xs, hv, hl, hw⟩ := Open.open_array_int Try.underlying58 Try.underlying3 (by kernel_rfl) (by kernel_rfl) hval h0
  match xs, hl with
  | [x, y, z, u], _ => exact ⟨x, y, z, u, by simpa using hv⟩
set_option maxRecDepth 100000 in
theorem open_dos {a0 : Option Addr} {len cap : Nat} {d0 : DataW H} {p : List MemPlace} (h0 : DataW.Trod enc Try.prog W 0 (fun _ => true) true 22 (.slice a0 len cap) d0 p) : ∃ f, Grid 4 W a0 len cap f :=
  open_grid (s := 4) (by decide) Try.underlying22 (by kernel_rfl) (cells_struct (s := 4) Try.underlying32 rfl Try.underlying3 cInt (fun j hj => by
    match j, hj with
    | 0, _ => exact ⟨_, rfl, rfl, rfl⟩
    | 1, _ => exact ⟨_, rfl, rfl, rfl⟩
    | 2, _ => exact ⟨_, rfl, rfl, rfl⟩
    | 3, _ => exact ⟨_, rfl, rfl, rfl⟩)) h0
set_option maxRecDepth 100000 in
theorem open_steps {a0 : Option Addr} {len cap : Nat} {d0 : DataW H} {p : List MemPlace} (h0 : DataW.Trod enc Try.prog W 0 (fun _ => true) true 40 (.slice a0 len cap) d0 p) : ∃ f, Grid 4 W a0 len cap f :=
  open_grid (s := 4) (by decide) Try.underlying40 (by kernel_rfl) (cells_struct (s := 4) Try.underlying51 rfl Try.underlying3 cInt (fun j hj => by
    match j, hj with
    | 0, _ => exact ⟨_, rfl, rfl, rfl⟩
    | 1, _ => exact ⟨_, rfl, rfl, rfl⟩
    | 2, _ => exact ⟨_, rfl, rfl, rfl⟩
    | 3, _ => exact ⟨_, rfl, rfl, rfl⟩)) h0
end Go.Proofs.Ytbnbhembnefndaa.Num
