/-
  Arguments of the statements of layer 11 opened: a window, a packet, arrays of three numbers, slices of what happens, of pairs of numbers.
-/
import Derived.Test.YtchnljebhbaghaaNum
import Derived.Test.YtchnljebhbaghaaOpen
import Derived.Test.YtchnljebhbaghaaWinB
namespace Go.Proofs.Ytchnljebhbaghaa.Num
open Go.ChangeShapes Go.WideShapes Go.ChangeAt Go.RowKit Wd Win WinM
set_option linter.unusedVariables false
set_option linter.unusedSimpArgs false
variable {H : Type} {enc : TypeId × Value → H} {W : World}
theorem cBool : Try.prog.cellsOf 4 = 1 := by kernel_rfl
theorem cDo : Try.prog.cellsOf 40 = 5 := by kernel_rfl
theorem one_int {fuel : Nat} {cs : List Value} {x : DataW H × List MemPlace} (h : DataW.trod enc Try.prog W 0 (fun _ => true) true fuel 3 cs = some x) : ∃ v, cs = [.int .i64 v] := by
  obtain ⟨v, h1, _⟩ := DataW.trod_int Try.underlying3 h
  exact ⟨v, h1⟩
theorem one_bool {fuel : Nat} {cs : List Value} {x : DataW H × List MemPlace} (h : DataW.trod enc Try.prog W 0 (fun _ => true) true fuel 4 cs = some x) : ∃ v, cs = [.bool v] := by
  obtain ⟨v, h1, _⟩ := DataW.trod_bool Try.underlying4 h
  exact ⟨v, h1⟩
theorem open_array3 {v : Value} {d : DataW H} {p : List MemPlace} {b : Nat} (hval : Value.okWide Try.prog W .any b 26 v) (h0 : DataW.Trod enc Try.prog W 0 (fun _ => true) true 26 v d p) :
    ∃ x0 x1 x2 : Int, v = .agg #[.int .i64 x0, .int .i64 x1, .int .i64 x2] := by
  obtain ⟨xs, hv, hl, hw⟩ := Open.open_array_int Try.underlying26 Try.underlying3 (by kernel_rfl) (by kernel_rfl) hval h0
  match xs, hl with
  | [x, y, z], _ => exact ⟨x, y, z, by simpa using hv⟩
theorem open_window {v : Value} {d : DataW H} {p : List MemPlace} {b : Nat} (hval : Value.okWide Try.prog W .any b 23 v) (h0 : DataW.Trod enc Try.prog W 0 (fun _ => true) true 23 v d p) :
    ∃ x0 x1 x2 x3 x4 x5 : Int, v = .agg #[.int .i64 x0, .int .i64 x1, .int .i64 x2, .int .i64 x3, .int .i64 x4, .int .i64 x5] := by
  simp only [Value.okWide, Try.underlying23] at hval
  obtain ⟨cs, rfl, hsz, _⟩ := hval
  obtain ⟨fuel, hf⟩ := h0
  obtain ⟨xs, n, _, _, hl, hx, hall⟩ := DataW.trod_struct Try.underlying23 hf
  have hc6 : Try.prog.cellsOf 23 = 6 := by kernel_rfl
  rw [hc6] at hl
  have hx6 : xs.length = 6 := hx
  obtain ⟨l⟩ := cs
  change l.length = 6 at hl
  match l, hl with
  | [a0, a1, a2, a3, a4, a5], _ =>
    have h0 := hall 0 _ rfl
    have h1 := hall 1 _ rfl
    have h2 := hall 2 _ rfl
    have h3 := hall 3 _ rfl
    have h4 := hall 4 _ rfl
    have h5 := hall 5 _ rfl
    rw [List.getElem?_eq_getElem (by omega)] at h0 h1 h2 h3 h4 h5
    obtain ⟨v0, e0⟩ := one_int h0
    obtain ⟨v1, e1⟩ := one_int h1
    obtain ⟨v2, e2⟩ := one_int h2
    obtain ⟨v3, e3⟩ := one_int h3
    obtain ⟨v4, e4⟩ := one_int h4
    obtain ⟨v5, e5⟩ := one_int h5
    refine ⟨v0, v1, v2, v3, v4, v5, ?_⟩
    have f0 := congrArg List.head? e0
    have f1 := congrArg List.head? e1
    have f2 := congrArg List.head? e2
    have f3 := congrArg List.head? e3
    have f4 := congrArg List.head? e4
    have f5 := congrArg List.head? e5
    simp [cInt, Value.cells] at f0 f1 f2 f3 f4 f5
    subst f0; subst f1; subst f2; subst f3; subst f4; subst f5
    rfl
theorem open_packet {v : Value} {d : DataW H} {p : List MemPlace} {b : Nat} (hval : Value.okWide Try.prog W .any b 25 v) (h0 : DataW.Trod enc Try.prog W 0 (fun _ => true) true 25 v d p) :
    ∃ (x0 x1 x2 : Int) (x3 x4 x5 : Bool), v = .agg #[.int .i64 x0, .int .i64 x1, .int .i64 x2, .bool x3, .bool x4, .bool x5] := by
  simp only [Value.okWide, Try.underlying25] at hval
  obtain ⟨cs, rfl, hsz, _⟩ := hval
  obtain ⟨fuel, hf⟩ := h0
  obtain ⟨xs, n, _, _, hl, hx, hall⟩ := DataW.trod_struct Try.underlying25 hf
  have hc6 : Try.prog.cellsOf 25 = 6 := by kernel_rfl
  rw [hc6] at hl
  have hx6 : xs.length = 6 := hx
  obtain ⟨l⟩ := cs
  change l.length = 6 at hl
  match l, hl with
  | [a0, a1, a2, a3, a4, a5], _ =>
    have h0 := hall 0 _ rfl
    have h1 := hall 1 _ rfl
    have h2 := hall 2 _ rfl
    have h3 := hall 3 _ rfl
    have h4 := hall 4 _ rfl
    have h5 := hall 5 _ rfl
    rw [List.getElem?_eq_getElem (by omega)] at h0 h1 h2 h3 h4 h5
    obtain ⟨v0, e0⟩ := one_int h0
    obtain ⟨v1, e1⟩ := one_int h1
    obtain ⟨v2, e2⟩ := one_int h2
    obtain ⟨v3, e3⟩ := one_bool h3
    obtain ⟨v4, e4⟩ := one_bool h4
    obtain ⟨v5, e5⟩ := one_bool h5
    refine ⟨v0, v1, v2, v3, v4, v5, ?_⟩
    have f0 := congrArg List.head? e0
    have f1 := congrArg List.head? e1
    have f2 := congrArg List.head? e2
    have f3 := congrArg List.head? e3
    have f4 := congrArg List.head? e4
    have f5 := congrArg List.head? e5
    simp [cInt, cBool, Value.cells] at f0 f1 f2 f3 f4 f5
    subst f0; subst f1; subst f2; subst f3; subst f4; subst f5
    rfl
theorem do_cells {fuel : Nat} {cs : List Value} {x : DataW H × List MemPlace} (h : DataW.trod enc Try.prog W 0 (fun _ => true) true fuel 40 cs = some x) : ∃ d : Do, cs = (doA d).toList := by
  obtain ⟨xs, n, _, _, hl, hx, hall⟩ := DataW.trod_struct Try.underlying40 h
  rw [cDo] at hl
  have hx5 : xs.length = 5 := hx
  match cs, hl with
  | [a0, a1, a2, a3, a4], _ =>
    have h0 := hall 0 _ rfl
    have h1 := hall 1 _ rfl
    have h2 := hall 2 _ rfl
    have h3 := hall 3 _ rfl
    have h4 := hall 4 _ rfl
    rw [List.getElem?_eq_getElem (by omega)] at h0 h1 h2 h3 h4
    obtain ⟨v0, e0⟩ := one_int h0
    obtain ⟨v1, e1⟩ := one_int h1
    obtain ⟨v2, e2⟩ := one_int h2
    obtain ⟨v3, e3⟩ := one_int h3
    obtain ⟨v4, e4⟩ := one_bool h4
    simp [cInt, cBool] at e0 e1 e2 e3 e4
    exact ⟨⟨v0, v1, v2, v3, v4⟩, by simp [e0, e1, e2, e3, e4]⟩
theorem open_dos {a0 : Option Addr} {len cap : Nat} {d0 : DataW H} {p : List MemPlace} (h0 : DataW.Trod enc Try.prog W 0 (fun _ => true) true 38 (.slice a0 len cap) d0 p) : ∃ f, Dos W a0 len cap f := by
  obtain ⟨fuel, hf⟩ := h0
  rcases Go.Deep.open_slice Try.underlying38 hf with ⟨hcs, hx⟩ | ⟨a, len', cap', m, n, D, Pl, hcs, _, hl, hm, hmm, hx, hi⟩
  · simp [Value.cells] at hcs
    obtain ⟨rfl, rfl, rfl⟩ := hcs
    exact ⟨fun _ => ⟨0, 0, 0, 0, false⟩, Nat.le_refl _, by simp [maxLen], fun h => absurd h (by omega)⟩
  · simp [Value.cells] at hcs
    obtain ⟨rfl, rfl, rfl⟩ := hcs
    simp only [if_true] at hmm
    have key : ∀ k, k < len → ∃ d : Do, ∀ j, j < 5 → W.cell? (a.add (k * 5 + j)) = (doA d)[j]? := by
      intro k hk
      obtain ⟨cs', hc, htr⟩ := hi k (by omega)
      rw [cDo] at hc
      obtain ⟨_, hcl, hat⟩ := World.cells?_some hc
      obtain ⟨d, hd⟩ := do_cells htr
      refine ⟨d, fun j hj => ?_⟩
      rw [← Go.Deep.add_add, hat j hj, hd]
      simp
    obtain ⟨f, hf2⟩ : ∃ f : Nat → Do, ∀ k, k < len → ∀ j, j < 5 → W.cell? (a.add (k * 5 + j)) = (doA (f k))[j]? := by
      refine ⟨fun k => if h : k < len then (key k h).choose else ⟨0, 0, 0, 0, false⟩, fun k hk j hj => ?_⟩
      simp only [hk, dif_pos]
      exact (key k hk).choose_spec j hj
    refine ⟨f, hl, hm, fun hn => ?_⟩
    have hv0 := hf2 0 hn 0 (by omega)
    have ha : a.add (0 * 5 + 0) = a := by simp [Addr.add]
    rw [ha] at hv0
    have hv1 : W.cell? a = some (.int .i64 (f 0).k) := hv0
    have hsp := no_spot hv1
    refine ⟨a.block, a.off, by rw [← hsp], World.block_lt_of_cell? _ _ hv1, fun k hk j hj => ?_⟩
    have hkj := hf2 k hk j hj
    have ek : a.add (k * 5 + j) = ⟨a.block, a.off + k * 5 + j, none⟩ := by have := add_plain a.block a.off (k * 5 + j); rw [← hsp, ← Nat.add_assoc] at this; exact this
    rw [← ek]; exact hkj
theorem open_twos {a0 : Option Addr} {len cap : Nat} {d0 : DataW H} {p : List MemPlace} (h0 : DataW.Trod enc Try.prog W 0 (fun _ => true) true 45 (.slice a0 len cap) d0 p) : ∃ f, Grid 2 W a0 len cap f :=
  open_grid (s := 2) (by decide) Try.underlying45 (by kernel_rfl) (cells_array Try.underlying46 Try.underlying3 cInt) h0
end Go.Proofs.Ytchnljebhbaghaa.Num
