/-
  Arguments of the statements of layer 7 opened: a struct of five numbers, an array of three, slices of arrays of three.
-/
import Derived.Test.YtdfjceghhjecaaaNum
import Derived.Test.YtdfjceghhjecaaaOpen
namespace Go.Proofs.Ytdfjceghhjecaaa.Num
open Go.ChangeShapes Go.WideShapes Go.ChangeAt Go.RowKit Wd
set_option linter.unusedVariables false
set_option linter.unusedSimpArgs false
variable {H : Type} {enc : TypeId × Value → H} {W : World}
set_option maxRecDepth 100000 in
theorem one_int {fuel : Nat} {cs : List Value} {x : DataW H × List MemPlace} (h : DataW.trod enc Try.prog W 0 (fun _ => true) true fuel 3 cs = some x) : ∃ v, cs = [.int .i64 v] := by
  obtain ⟨v, h1, _⟩ := DataW.trod_int Try.underlying3 h
  exact ⟨v, h1⟩
set_option maxRecDepth 100000 in
theorem open_rtt {v : Value} {d : DataW H} {p : List MemPlace} {b : Nat} (hval : Value.okWide Try.prog W .any b 42 v) (h0 : DataW.Trod enc Try.prog W 0 (fun _ => true) true 42 v d p) :
    ∃ x0 x1 x2 x3 x4 : Int, v = .agg #[.int .i64 x0, .int .i64 x1, .int .i64 x2, .int .i64 x3, .int .i64 x4] := by
  simp only [Value.okWide, Try.underlying42] at hval
  obtain ⟨cs, rfl, hsz, _⟩ := hval
  obtain ⟨fuel, hf⟩ := h0
  obtain ⟨xs, n, _, _, hl, hx, hall⟩ := DataW.trod_struct Try.underlying42 hf
  have hc5 : Try.prog.cellsOf 42 = 5 := by kernel_rfl
  rw [hc5] at hl
  have hx5 : xs.length = 5 := hx
  obtain ⟨l⟩ := cs
  change l.length = 5 at hl
  have hall' : ∀ (i : Nat) (g : Field), _ := hall
  match l, hl with
  | [a0, a1, a2, a3, a4], _ =>
    have h0 := hall 0 _ rfl
    have h1 := hall 1 _ rfl
    have h2 := hall 2 _ rfl
    have h3 := hall 3 _ rfl
    have h4 := hall 4 _ rfl
    rw [List.getElem?_eq_getElem (by omega)] at h0 h1 h2 h3 h4
    obtain ⟨v0, e0⟩ := one_int h0
    obtain ⟨v1, e1⟩ := one_int h1
    obtain ⟨v2, e2⟩ := one_int h2
    obtain ⟨v3, e3⟩ := one_int h3
    obtain ⟨v4, e4⟩ := one_int h4
    refine ⟨v0, v1, v2, v3, v4, ?_⟩
    have f0 := congrArg List.head? e0
    have f1 := congrArg List.head? e1
    have f2 := congrArg List.head? e2
    have f3 := congrArg List.head? e3
    have f4 := congrArg List.head? e4
    simp [cInt, Value.cells] at f0 f1 f2 f3 f4
    subst f0; subst f1; subst f2; subst f3; subst f4
    rfl
set_option maxRecDepth 100000 in
theorem open_array3 {v : Value} {d : DataW H} {p : List MemPlace} {b : Nat} (hval : Value.okWide Try.prog W .any b 35 v) (h0 : DataW.Trod enc Try.prog W 0 (fun _ => true) true 35 v d p) :
    ∃ x0 x1 x2 : Int, v = .agg #[.int .i64 x0, .int .i64 x1, .int .i64 x2] := by
  obtain ⟨xs, hv, hl, hw⟩ := Open.open_array_int Try.underlying35 Try.underlying3 (by kernel_rfl) (by kernel_rfl) hval h0
  match xs, hl with
  | [x, y, z], _ => exact ⟨x, y, z, by simpa using hv⟩

end Go.Proofs.Ytdfjceghhjecaaa.Num
