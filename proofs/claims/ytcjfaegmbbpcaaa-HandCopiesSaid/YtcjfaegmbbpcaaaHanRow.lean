/-
  Arguments of the statements of layer 16 opened: slices of structs of two numbers, and what they may weigh; a struct of two numbers.
-/
import Derived.Test.YtcjfaegmbbpcaaaNum
import Derived.Test.YtcjfaegmbbpcaaaOpen
namespace Go.Proofs.Ytcjfaegmbbpcaaa.Num
open Go.ChangeShapes Go.WideShapes Go.ChangeAt Go.RowKit Wd
set_option linter.unusedVariables false
set_option linter.unusedSimpArgs false
variable {H : Type} {enc : TypeId × Value → H} {W : World}
set_option maxRecDepth 100000 in
theorem open_dos {a0 : Option Addr} {len cap : Nat} {d0 : DataW H} {p : List MemPlace} (h0 : DataW.Trod enc Try.prog W 0 (fun _ => true) true 22 (.slice a0 len cap) d0 p) : ∃ f, Grid 2 W a0 len cap f :=
  open_grid (s := 2) (by decide) Try.underlying22 (by kernel_rfl) (cells_struct (s := 2) Try.underlying30 rfl Try.underlying3 cInt (fun j hj => by
    match j, hj with
    | 0, _ => exact ⟨_, rfl, rfl, rfl⟩
    | 1, _ => exact ⟨_, rfl, rfl, rfl⟩)) h0
theorem dos_nil {a0 : Option Addr} {len cap : Nat} {d0 : DataW H} {p : List MemPlace} (h0 : DataW.Trod enc Try.prog W 0 (fun _ => true) true 22 (.slice a0 len cap) d0 p) : a0 = none → cap = 0 := by
  obtain ⟨fuel, hf⟩ := h0
  rcases Go.Deep.open_slice Try.underlying22 hf with ⟨hcs, hx⟩ | ⟨a, len', cap', m, n, D, Pl, hcs, _, hl, hm, hmm, hx, hi⟩
  · simp [Value.cells] at hcs
    exact fun _ => hcs.2.2
  · simp [Value.cells] at hcs
    intro e
    rw [e] at hcs
    cases hcs.1
theorem bDo : Try.prog.bytesOf 30 = 16 := by kernel_rfl
theorem dos_few {a0 : Option Addr} {len cap : Nat} {d0 : DataW H} {p : List MemPlace} (h0 : DataW.Trod enc Try.prog W 0 (fun _ => true) true 22 (.slice a0 len cap) d0 p) (hw : ∀ y ∈ d0.weights Try.prog 22, y ≤ reachBytes) : len * 16 ≤ 140737488351232 := by
  obtain ⟨fuel, hf⟩ := h0
  rcases Go.Deep.open_slice Try.underlying22 hf with ⟨hcs, hx⟩ | ⟨a, len', cap', m, n, D, Pl, hcs, _, hl, hm, hmm, hx, hi⟩
  · simp [Value.cells] at hcs
    obtain ⟨rfl, rfl, rfl⟩ := hcs
    omega
  · simp [Value.cells] at hcs
    obtain ⟨rfl, rfl, rfl⟩ := hcs
    simp only [if_true] at hmm
    have h1 := hw ((len + (m - len)) * 16) (by
      rw [(Prod.mk.inj hx).1]
      simp [DataW.weights, Try.underlying22, bDo])
    unfold reachBytes at h1
    omega
theorem one_int {fuel : Nat} {cs : List Value} {x : DataW H × List MemPlace} (h : DataW.trod enc Try.prog W 0 (fun _ => true) true fuel 3 cs = some x) : ∃ v, cs = [.int .i64 v] := by
  obtain ⟨v, h1, _⟩ := DataW.trod_int Try.underlying3 h
  exact ⟨v, h1⟩
theorem open_do {v : Value} {d : DataW H} {p : List MemPlace} {b : Nat} (hval : Value.okWide Try.prog W .any b 30 v) (h0 : DataW.Trod enc Try.prog W 0 (fun _ => true) true 30 v d p) :
    ∃ x0 x1 : Int, v = .agg #[.int .i64 x0, .int .i64 x1] := by
  simp only [Value.okWide, Try.underlying30] at hval
  obtain ⟨cs, rfl, hsz, _⟩ := hval
  obtain ⟨fuel, hf⟩ := h0
  obtain ⟨xs, n, _, _, hl, hx, hall⟩ := DataW.trod_struct Try.underlying30 hf
  have hc5 : Try.prog.cellsOf 30 = 2 := by kernel_rfl
  rw [hc5] at hl
  have hx5 : xs.length = 2 := hx
  obtain ⟨l⟩ := cs
  change l.length = 2 at hl
  match l, hl with
  | [a0, a1], _ =>
    have h0 := hall 0 _ rfl
    have h1 := hall 1 _ rfl
    rw [List.getElem?_eq_getElem (by omega)] at h0 h1
    obtain ⟨v0, e0⟩ := one_int h0
    obtain ⟨v1, e1⟩ := one_int h1
    refine ⟨v0, v1, ?_⟩
    have f0 := congrArg List.head? e0
    have f1 := congrArg List.head? e1
    simp [cInt, Value.cells] at f0 f1
    subst f0; subst f1
    rfl
end Go.Proofs.Ytcjfaegmbbpcaaa.Num
