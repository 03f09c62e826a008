/-
  Arguments of the statements of layer 12 opened: a count, an ACK, slices of arrays of three numbers.
-/
import Derived.Test.YtbclpjfjkgehaaaNum
import Derived.Test.YtbclpjfjkgehaaaOpen
import Derived.Test.YtbclpjfjkgehaaaEcnW
namespace Go.Proofs.Ytbclpjfjkgehaaa.Num
open Go.ChangeShapes Go.WideShapes Go.ChangeAt Go.RowKit Wd
set_option linter.unusedVariables false
set_option linter.unusedSimpArgs false
variable {H : Type} {enc : TypeId × Value → H} {W : World}
theorem cBool : Try.prog.cellsOf 4 = 1 := by kernel_rfl
theorem cRngs : Try.prog.cellsOf 25 = 1 := by kernel_rfl
theorem cArr3 : Try.prog.cellsOf 22 = 3 := by kernel_rfl
theorem one_int {fuel : Nat} {cs : List Value} {x : DataW H × List MemPlace} (h : DataW.trod enc Try.prog W 0 (fun _ => true) true fuel 3 cs = some x) : ∃ v, cs = [.int .i64 v] := by
  obtain ⟨v, h1, _⟩ := DataW.trod_int Try.underlying3 h
  exact ⟨v, h1⟩
theorem one_bool {fuel : Nat} {cs : List Value} {x : DataW H × List MemPlace} (h : DataW.trod enc Try.prog W 0 (fun _ => true) true fuel 4 cs = some x) : ∃ v, cs = [.bool v] := by
  obtain ⟨v, h1, _⟩ := DataW.trod_bool Try.underlying4 h
  exact ⟨v, h1⟩
theorem one_slice {fuel : Nat} {v : Value} {x : DataW H × List MemPlace} (h : DataW.trod enc Try.prog W 0 (fun _ => true) true fuel 25 [v] = some x) : ∃ A n c, v = .slice A n c := by
  rcases Go.Deep.open_slice Try.underlying25 h with ⟨hcs, hx⟩ | ⟨a, len, cap, m, n, D, Pl, hcs, _, hl, hm, hmm, hx, hi⟩
  · simp at hcs
    exact ⟨_, _, _, hcs⟩
  · simp at hcs
    exact ⟨_, _, _, hcs⟩
theorem three_ints {fuel : Nat} {a b c : Value} {x : DataW H × List MemPlace} (h : DataW.trod enc Try.prog W 0 (fun _ => true) true fuel 22 [a, b, c] = some x) : ∃ x y z : Int, a = .int .i64 x ∧ b = .int .i64 y ∧ c = .int .i64 z := by
  obtain ⟨ys, m, _, _, _, hy3, hys⟩ := DataW.trod_array Try.underlying22 h
  have g0 := hys 0 (by omega)
  have g1 := hys 1 (by omega)
  have g2 := hys 2 (by omega)
  rw [List.getElem?_eq_getElem (by omega)] at g0 g1 g2
  obtain ⟨m0, f0⟩ := one_int g0
  obtain ⟨m1, f1⟩ := one_int g1
  obtain ⟨m2, f2⟩ := one_int g2
  simp [cInt] at f0 f1 f2
  exact ⟨m0, m1, m2, f0, f1, f2⟩
theorem open_array3 {v : Value} {d : DataW H} {p : List MemPlace} {b : Nat} (hval : Value.okWide Try.prog W .any b 22 v) (h0 : DataW.Trod enc Try.prog W 0 (fun _ => true) true 22 v d p) :
    ∃ x0 x1 x2 : Int, v = .agg #[.int .i64 x0, .int .i64 x1, .int .i64 x2] := by
  obtain ⟨xs, hv, hl, hw⟩ := Open.open_array_int Try.underlying22 Try.underlying3 (by kernel_rfl) (by kernel_rfl) hval h0
  match xs, hl with
  | [x, y, z], _ => exact ⟨x, y, z, by simpa using hv⟩
theorem open_count {v : Value} {d : DataW H} {p : List MemPlace} {b : Nat} (hval : Value.okWide Try.prog W .any b 24 v) (h0 : DataW.Trod enc Try.prog W 0 (fun _ => true) true 24 v d p) :
    ∃ (x0 x1 x2 x3 : Int) (x4 : Bool), v = .agg #[.int .i64 x0, .int .i64 x1, .int .i64 x2, .int .i64 x3, .bool x4] := by
  simp only [Value.okWide, Try.underlying24] at hval
  obtain ⟨cs, rfl, hsz, _⟩ := hval
  obtain ⟨fuel, hf⟩ := h0
  obtain ⟨xs, n, _, _, hl, hx, hall⟩ := DataW.trod_struct Try.underlying24 hf
  have hc5 : Try.prog.cellsOf 24 = 5 := by kernel_rfl
  rw [hc5] at hl
  have hx3 : xs.length = 3 := hx
  obtain ⟨l⟩ := cs
  change l.length = 5 at hl
  match l, hl with
  | [a0, a1, a2, a3, a4], _ =>
    have h0 := hall 0 _ rfl
    have h1 := hall 1 _ rfl
    have h2 := hall 2 _ rfl
    rw [List.getElem?_eq_getElem (by omega)] at h0 h1 h2
    obtain ⟨v0, e0⟩ := one_int h0
    obtain ⟨v4, e4⟩ := one_bool h2
    have h1' : DataW.trod enc Try.prog W 0 (fun _ => true) true n 22 [a1, a2, a3] = some xs[1] := by simpa [Value.cells, cArr3] using h1
    obtain ⟨v1, v2, v3, e1, e2, e3⟩ := three_ints h1'
    refine ⟨v0, v1, v2, v3, v4, ?_⟩
    simp [cInt, cBool, Value.cells] at e0 e4
    simp only [e0, e1, e2, e3, e4]
theorem open_ack {v : Value} {d : DataW H} {p : List MemPlace} {b : Nat} (hval : Value.okWide Try.prog W .any b 27 v) (h0 : DataW.Trod enc Try.prog W 0 (fun _ => true) true 27 v d p) :
    ∃ (r : Ecn.Rs) (y : EcnM.Fr), v = Ecn.akV r y := by
  simp only [Value.okWide, Try.underlying27] at hval
  obtain ⟨cs, rfl, hsz, _⟩ := hval
  obtain ⟨fuel, hf⟩ := h0
  obtain ⟨xs, n, _, _, hl, hx, hall⟩ := DataW.trod_struct Try.underlying27 hf
  have hc6 : Try.prog.cellsOf 27 = 6 := by kernel_rfl
  rw [hc6] at hl
  have hx4 : xs.length = 4 := hx
  obtain ⟨l⟩ := cs
  change l.length = 6 at hl
  match l, hl with
  | [a0, a1, a2, a3, a4, a5], _ =>
    have h0 := hall 0 _ rfl
    have h1 := hall 1 _ rfl
    have h2 := hall 2 _ rfl
    have h3 := hall 3 _ rfl
    rw [List.getElem?_eq_getElem (by omega)] at h0 h1 h2 h3
    obtain ⟨v0, e0⟩ := one_int h0
    obtain ⟨v2, e2⟩ := one_bool h2
    have h1' : DataW.trod enc Try.prog W 0 (fun _ => true) true n 25 [a1] = some xs[1] := by simpa [Value.cells, cRngs] using h1
    have h3' : DataW.trod enc Try.prog W 0 (fun _ => true) true n 22 [a3, a4, a5] = some xs[3] := by simpa [Value.cells, cArr3] using h3
    obtain ⟨A, len, cap, e1⟩ := one_slice h1'
    obtain ⟨v3, v4, v5, e3, e4, e5⟩ := three_ints h3'
    refine ⟨⟨v0, A, len, cap⟩, ⟨v2, v3, v4, v5⟩, ?_⟩
    simp [cInt, cBool, Value.cells] at e0 e2
    simp only [e0, e1, e2, e3, e4, e5]
theorem open_threes {a0 : Option Addr} {len cap : Nat} {d0 : DataW H} {p : List MemPlace} (h0 : DataW.Trod enc Try.prog W 0 (fun _ => true) true 47 (.slice a0 len cap) d0 p) : ∃ f, Grid 3 W a0 len cap f :=
  open_grid (s := 3) (by decide) Try.underlying47 (by kernel_rfl) (cells_array Try.underlying22 Try.underlying3 cInt) h0
end Go.Proofs.Ytbclpjfjkgehaaa.Num
