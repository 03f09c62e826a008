/-
  Arguments of the statements of layer 13 opened: slices of structs of three and of five numbers, arrays of three numbers, arrays of three pairs.
-/
import Derived.Test.YtjpajmoceodadaaNum
import Derived.Test.YtjpajmoceodadaaOpen
namespace Go.Proofs.Ytjpajmoceodadaa.Num
open Go.ChangeShapes Go.WideShapes Go.ChangeAt Go.RowKit Wd
set_option linter.unusedVariables false
set_option linter.unusedSimpArgs false
variable {H : Type} {enc : TypeId × Value → H} {W : World}
theorem open_array3 {v : Value} {d : DataW H} {p : List MemPlace} {b : Nat} (hval : Value.okWide Try.prog W .any b 56 v) (h0 : DataW.Trod enc Try.prog W 0 (fun _ => true) true 56 v d p) :
    ∃ x0 x1 x2 : Int, v = .agg #[.int .i64 x0, .int .i64 x1, .int .i64 x2] := by
  obtain ⟨xs, hv, hl, hw⟩ := Open.open_array_int Try.underlying56 Try.underlying3 (by kernel_rfl) (by kernel_rfl) hval h0
  match xs, hl with
  | [x, y, z], _ => exact ⟨x, y, z, by simpa using hv⟩
theorem open_rows {a0 : Option Addr} {len cap : Nat} {d0 : DataW H} {p : List MemPlace} (h0 : DataW.Trod enc Try.prog W 0 (fun _ => true) true 52 (.slice a0 len cap) d0 p) : ∃ f, Grid 3 W a0 len cap f :=
  open_grid (s := 3) (by decide) Try.underlying52 (by kernel_rfl) (cells_struct (s := 3) Try.underlying54 rfl Try.underlying3 cInt (fun j hj => by
    match j, hj with
    | 0, _ => exact ⟨_, rfl, rfl, rfl⟩
    | 1, _ => exact ⟨_, rfl, rfl, rfl⟩
    | 2, _ => exact ⟨_, rfl, rfl, rfl⟩)) h0
theorem open_dos {a0 : Option Addr} {len cap : Nat} {d0 : DataW H} {p : List MemPlace} (h0 : DataW.Trod enc Try.prog W 0 (fun _ => true) true 22 (.slice a0 len cap) d0 p) : ∃ f, Grid 5 W a0 len cap f :=
  open_grid (s := 5) (by decide) Try.underlying22 (by kernel_rfl) (cells_struct (s := 5) Try.underlying31 rfl Try.underlying3 cInt (fun j hj => by
    match j, hj with
    | 0, _ => exact ⟨_, rfl, rfl, rfl⟩
    | 1, _ => exact ⟨_, rfl, rfl, rfl⟩
    | 2, _ => exact ⟨_, rfl, rfl, rfl⟩
    | 3, _ => exact ⟨_, rfl, rfl, rfl⟩
    | 4, _ => exact ⟨_, rfl, rfl, rfl⟩)) h0
theorem cArr2 : Try.prog.cellsOf 46 = 2 := by kernel_rfl
theorem two_ints {fuel : Nat} {a b : Value} {x : DataW H × List MemPlace} (h : DataW.trod enc Try.prog W 0 (fun _ => true) true fuel 46 [a, b] = some x) : ∃ x y : Int, a = .int .i64 x ∧ b = .int .i64 y := by
  obtain ⟨ys, m, _, _, _, hy3, hys⟩ := DataW.trod_array Try.underlying46 h
  have g0 := hys 0 (by omega)
  have g1 := hys 1 (by omega)
  rw [List.getElem?_eq_getElem (by omega)] at g0 g1
  obtain ⟨m0, f0, _⟩ := DataW.trod_int Try.underlying3 g0
  obtain ⟨m1, f1, _⟩ := DataW.trod_int Try.underlying3 g1
  simp [cInt] at f0 f1
  exact ⟨m0, m1, f0, f1⟩
theorem open_pairs {v : Value} {d : DataW H} {p : List MemPlace} {b : Nat} (hval : Value.okWide Try.prog W .any b 51 v) (h0 : DataW.Trod enc Try.prog W 0 (fun _ => true) true 51 v d p) :
    ∃ x0 x1 x2 x3 x4 x5 : Int, v = .agg #[.int .i64 x0, .int .i64 x1, .int .i64 x2, .int .i64 x3, .int .i64 x4, .int .i64 x5] := by
  simp only [Value.okWide, Try.underlying51] at hval
  obtain ⟨cs, rfl, hsz, _⟩ := hval
  obtain ⟨fuel, hf⟩ := h0
  obtain ⟨xs, n, _, _, hl, hx, hall⟩ := DataW.trod_array Try.underlying51 hf
  have hc6 : Try.prog.cellsOf 51 = 6 := by kernel_rfl
  rw [hc6] at hl
  obtain ⟨l⟩ := cs
  change l.length = 6 at hl
  match l, hl with
  | [a0, a1, a2, a3, a4, a5], _ =>
    have h0 := hall 0 (by omega)
    have h1 := hall 1 (by omega)
    have h2 := hall 2 (by omega)
    rw [List.getElem?_eq_getElem (by omega)] at h0 h1 h2
    have h0' : DataW.trod enc Try.prog W 0 (fun _ => true) true n 46 [a0, a1] = some xs[0] := by simpa [Value.cells, cArr2] using h0
    have h1' : DataW.trod enc Try.prog W 0 (fun _ => true) true n 46 [a2, a3] = some xs[1] := by simpa [Value.cells, cArr2] using h1
    have h2' : DataW.trod enc Try.prog W 0 (fun _ => true) true n 46 [a4, a5] = some xs[2] := by simpa [Value.cells, cArr2] using h2
    obtain ⟨v0, v1, e0, e1⟩ := two_ints h0'
    obtain ⟨v2, v3, e2, e3⟩ := two_ints h1'
    obtain ⟨v4, v5, e4, e5⟩ := two_ints h2'
    exact ⟨v0, v1, v2, v3, v4, v5, by simp only [e0, e1, e2, e3, e4, e5]⟩
end Go.Proofs.Ytjpajmoceodadaa.Num
