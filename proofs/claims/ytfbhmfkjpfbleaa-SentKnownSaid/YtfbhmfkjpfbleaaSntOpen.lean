/-
  The argument of SentPlays opened: a slice of calls.
-/
import Derived.Test.YtfbhmfkjpfbleaaNum
import Derived.Test.YtfbhmfkjpfbleaaSntH
namespace Go.Proofs.Ytfbhmfkjpfbleaa.Num
open Go.ChangeShapes Go.WideShapes Go.ChangeAt Go.RowKit Wd Snt SntM
set_option linter.unusedVariables false
set_option linter.unusedSimpArgs false
variable {H : Type} {enc : TypeId × Value → H} {W : World}

theorem cBool : Try.prog.cellsOf 4 = 1 := by kernel_rfl
theorem cPk : Try.prog.cellsOf 31 = 6 := by kernel_rfl
theorem cDo : Try.prog.cellsOf 33 = 9 := by kernel_rfl

theorem one_int {fuel : Nat} {cs : List Value} {x : DataW H × List MemPlace} (h : DataW.trod enc Try.prog W 0 (fun _ => true) true fuel 3 cs = some x) : ∃ v, cs = [.int .i64 v] := by
  obtain ⟨v, h1, _⟩ := DataW.trod_int Try.underlying3 h
  exact ⟨v, h1⟩
theorem one_bool {fuel : Nat} {cs : List Value} {x : DataW H × List MemPlace} (h : DataW.trod enc Try.prog W 0 (fun _ => true) true fuel 4 cs = some x) : ∃ v, cs = [.bool v] := by
  obtain ⟨v, h1, _⟩ := DataW.trod_bool Try.underlying4 h
  exact ⟨v, h1⟩

theorem pk_cells {fuel : Nat} {cs : List Value} {x : DataW H × List MemPlace} (h : DataW.trod enc Try.prog W 0 (fun _ => true) true fuel 31 cs = some x) : ∃ q : Pk, cs = (pkA q).toList := by
  obtain ⟨xs, n, _, _, hl, hx, hall⟩ := DataW.trod_struct Try.underlying31 h
  rw [cPk] at hl
  have hx6 : xs.length = 6 := hx
  match cs, hl with
  | [a0, a1, a2, a3, a4, a5], _ =>
    have h0 := hall 0 _ rfl
    have h1 := hall 1 _ rfl
    have h2 := hall 2 _ rfl
    have h3 := hall 3 _ rfl
    have h4 := hall 4 _ rfl
    have h5 := hall 5 _ rfl
    rw [List.getElem?_eq_getElem (by omega)] at h0 h1 h2 h3 h4 h5
    obtain ⟨v0, e0⟩ := one_int h0
    obtain ⟨v1, e1⟩ := one_int h1
    obtain ⟨v2, e2⟩ := one_int h2
    obtain ⟨v3, e3⟩ := one_bool h3
    obtain ⟨v4, e4⟩ := one_bool h4
    obtain ⟨v5, e5⟩ := one_bool h5
    simp [cInt, cBool] at e0 e1 e2 e3 e4 e5
    exact ⟨⟨v0, v1, v2, v3, v4, v5⟩, by simp [e0, e1, e2, e3, e4, e5]⟩

theorem do_cells {fuel : Nat} {cs : List Value} {x : DataW H × List MemPlace} (h : DataW.trod enc Try.prog W 0 (fun _ => true) true fuel 33 cs = some x) : ∃ d : DoV, cs = (doA d).toList := by
  obtain ⟨xs, n, _, _, hl, hx, hall⟩ := DataW.trod_struct Try.underlying33 h
  rw [cDo] at hl
  have hx4 : xs.length = 4 := hx
  match cs, hl with
  | [a0, a1, a2, a3, a4, a5, a6, a7, a8], _ =>
    have h0 := hall 0 _ rfl
    have h1 := hall 1 _ rfl
    have h2 := hall 2 _ rfl
    have h3 := hall 3 _ rfl
    rw [List.getElem?_eq_getElem (by omega)] at h0 h1 h2 h3
    obtain ⟨v0, e0⟩ := one_int h0
    obtain ⟨v1, e1⟩ := one_int h1
    obtain ⟨v2, e2⟩ := one_int h2
    obtain ⟨q, e3⟩ := pk_cells h3
    simp [cInt, cPk] at e0 e1 e2 e3
    obtain ⟨e30, e31, e32, e33, e34, e35⟩ := e3
    exact ⟨⟨v0, v1, v2, q⟩, by simp [e0, e1, e2, e30, e31, e32, e33, e34, e35]⟩

theorem open_calls {a0 : Option Addr} {len cap : Nat} {d0 : DataW H} {p : List MemPlace} (h0 : DataW.Trod enc Try.prog W 0 (fun _ => true) true 22 (.slice a0 len cap) d0 p) : ∃ f, Dos W a0 len cap f := by
  obtain ⟨fuel, hf⟩ := h0
  rcases Go.Deep.open_slice Try.underlying22 hf with ⟨hcs, hx⟩ | ⟨a, len', cap', m, n, D, Pl, hcs, _, hl, hm, hmm, hx, hi⟩
  · simp [Value.cells] at hcs
    obtain ⟨rfl, rfl, rfl⟩ := hcs
    exact ⟨fun _ => ⟨0, 0, 0, zero⟩, Nat.le_refl _, by simp [maxLen], fun h => absurd h (by omega)⟩
  · simp [Value.cells] at hcs
    obtain ⟨rfl, rfl, rfl⟩ := hcs
    simp only [if_true] at hmm
    have key : ∀ k, k < len → ∃ d : DoV, ∀ j, j < 9 → W.cell? (a.add (k * 9 + j)) = (doA d)[j]? := by
      intro k hk
      obtain ⟨cs', hc, htr⟩ := hi k (by omega)
      rw [cDo] at hc
      obtain ⟨_, hcl, hat⟩ := World.cells?_some hc
      obtain ⟨d, hd⟩ := do_cells htr
      refine ⟨d, fun j hj => ?_⟩
      rw [← Go.Deep.add_add, hat j hj, hd]
      simp
    obtain ⟨f, hf2⟩ : ∃ f : Nat → DoV, ∀ k, k < len → ∀ j, j < 9 → W.cell? (a.add (k * 9 + j)) = (doA (f k))[j]? := by
      refine ⟨fun k => if h : k < len then (key k h).choose else ⟨0, 0, 0, zero⟩, fun k hk j hj => ?_⟩
      simp only [hk, dif_pos]
      exact (key k hk).choose_spec j hj
    refine ⟨f, hl, hm, fun hn => ?_⟩
    have hv0 := hf2 0 hn 0 (by omega)
    have ha : a.add (0 * 9 + 0) = a := by simp [Addr.add]
    rw [ha] at hv0
    have hv1 : W.cell? a = some (.int .i64 (f 0).kind) := hv0
    have hsp := no_spot hv1
    refine ⟨a.block, a.off, by rw [← hsp], World.block_lt_of_cell? _ _ hv1, fun k hk j hj => ?_⟩
    have hkj := hf2 k hk j hj
    have ek : a.add (k * 9 + j) = ⟨a.block, a.off + k * 9 + j, none⟩ := by have := add_plain a.block a.off (k * 9 + j); rw [← hsp, ← Nat.add_assoc] at this; exact this
    rw [← ek]; exact hkj

end Go.Proofs.Ytfbhmfkjpfbleaa.Num
