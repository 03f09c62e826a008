/-
  Arguments of the statements of layer 9 opened: slices of packets, of rows of three numbers; arrays of four numbers.
-/
import Derived.Test.YtilfimlojpejhaaRttRow
import Derived.Test.YtilfimlojpejhaaLosQ
namespace Go.Proofs.Ytilfimlojpejhaa.Num
open Go.ChangeShapes Go.WideShapes Go.ChangeAt Go.RowKit Wd Snt SntM Cd
set_option linter.unusedVariables false
set_option linter.unusedSimpArgs false
variable {H : Type} {enc : TypeId × Value → H} {W : World}

theorem cBool : Try.prog.cellsOf 4 = 1 := by kernel_rfl
theorem cPk : Try.prog.cellsOf 33 = 6 := by kernel_rfl
theorem one_bool {fuel : Nat} {cs : List Value} {x : DataW H × List MemPlace} (h : DataW.trod enc Try.prog W 0 (fun _ => true) true fuel 4 cs = some x) : ∃ v, cs = [.bool v] := by
  obtain ⟨v, h1, _⟩ := DataW.trod_bool Try.underlying4 h
  exact ⟨v, h1⟩
theorem pk_cells {fuel : Nat} {cs : List Value} {x : DataW H × List MemPlace} (h : DataW.trod enc Try.prog W 0 (fun _ => true) true fuel 33 cs = some x) : ∃ q : Pk, cs = (pkA q).toList := by
  obtain ⟨xs, n, _, _, hl, hx, hall⟩ := DataW.trod_struct Try.underlying33 h
  rw [cPk] at hl
  have hx6 : xs.length = 6 := hx
  match cs, hl with
  | [a0, a1, a2, a3, a4, a5], _ =>
    have h0 := hall 0 _ rfl
    have h1 := hall 1 _ rfl
    have h2 := hall 2 _ rfl
    have h3 := hall 3 _ rfl
    have h4 := hall 4 _ rfl
    have h5 := hall 5 _ rfl
    rw [List.getElem?_eq_getElem (by omega)] at h0 h1 h2 h3 h4 h5
    obtain ⟨v0, e0⟩ := one_int h0
    obtain ⟨v1, e1⟩ := one_int h1
    obtain ⟨v2, e2⟩ := one_int h2
    obtain ⟨v3, e3⟩ := one_bool h3
    obtain ⟨v4, e4⟩ := one_bool h4
    obtain ⟨v5, e5⟩ := one_bool h5
    simp [cInt, cBool] at e0 e1 e2 e3 e4 e5
    exact ⟨⟨v0, v1, v2, v3, v4, v5⟩, by simp [e0, e1, e2, e3, e4, e5]⟩

theorem open_packets {a0 : Option Addr} {len cap : Nat} {d0 : DataW H} {p : List MemPlace} (h0 : DataW.Trod enc Try.prog W 0 (fun _ => true) true 22 (.slice a0 len cap) d0 p) : ∃ l, Los.Src W a0 len cap l := by
  obtain ⟨fuel, hf⟩ := h0
  rcases Go.Deep.open_slice Try.underlying22 hf with ⟨hcs, hx⟩ | ⟨a, len', cap', m, n, D, Pl, hcs, _, hl, hm, hmm, hx, hi⟩
  · simp [Value.cells] at hcs
    obtain ⟨rfl, rfl, rfl⟩ := hcs
    exact ⟨[], Los.Src.nil W⟩
  · simp [Value.cells] at hcs
    obtain ⟨rfl, rfl, rfl⟩ := hcs
    simp only [if_true] at hmm
    have key : ∀ k, k < len → ∃ q : Pk, ∀ j, j < 6 → W.cell? (a.add (k * 6 + j)) = (pkC.enc q)[j]? := by
      intro k hk
      obtain ⟨cs', hc, htr⟩ := hi k (by omega)
      rw [cPk] at hc
      obtain ⟨_, hcl, hat⟩ := World.cells?_some hc
      obtain ⟨q, hq⟩ := pk_cells htr
      refine ⟨q, fun j hj => ?_⟩
      rw [← Go.Deep.add_add, hat j hj, hq]
      rfl
    obtain ⟨f, hf2⟩ : ∃ f : Nat → Pk, ∀ k, k < len → ∀ j, j < 6 → W.cell? (a.add (k * 6 + j)) = (pkC.enc (f k))[j]? := by
      refine ⟨fun k => if h : k < len then (key k h).choose else zero, fun k hk j hj => ?_⟩
      simp only [hk, dif_pos]
      exact (key k hk).choose_spec j hj
    refine ⟨(List.range len).map f, by simp, hl, hm, .inr ⟨a, rfl, fun j u hj => ?_⟩⟩
    have hjl : j < len * 6 := by
      have h1 := (List.getElem?_eq_some_iff.1 hj).1
      rw [flat_length, List.length_map, List.length_range] at h1
      exact h1
    have hk : j / 6 < len := by omega
    have e : j / 6 * 6 + j % 6 = j := by omega
    have h1 := flat_at (C := pkC) ((List.range len).map f) (j / 6) (by simpa using hk) (j % 6) (Nat.mod_lt _ (by decide))
    have e' : j / 6 * pkC.size + j % 6 = j := e
    rw [e', hj] at h1
    have h2 : at_ ((List.range len).map f) (j / 6) = f (j / 6) := by rw [at_of (by simpa using hk)]; simp
    rw [h2] at h1
    have h3 := hf2 (j / 6) hk (j % 6) (Nat.mod_lt _ (by decide))
    rw [e, ← h1] at h3
    exact h3

theorem open_rows {a0 : Option Addr} {len cap : Nat} {d0 : DataW H} {p : List MemPlace} (h0 : DataW.Trod enc Try.prog W 0 (fun _ => true) true 38 (.slice a0 len cap) d0 p) : ∃ f, Grid 3 W a0 len cap f :=
  open_grid (s := 3) (by decide) Try.underlying38 (by kernel_rfl) (cells_struct (s := 3) Try.underlying62 rfl Try.underlying3 cInt (fun j hj => by
    match j, hj with
    | 0, _ => exact ⟨_, rfl, rfl, rfl⟩
    | 1, _ => exact ⟨_, rfl, rfl, rfl⟩
    | 2, _ => exact ⟨_, rfl, rfl, rfl⟩)) h0
theorem open_array4 {v : Value} {d : DataW H} {p : List MemPlace} {b : Nat} (hval : Value.okWide Try.prog W .any b 43 v) (h0 : DataW.Trod enc Try.prog W 0 (fun _ => true) true 43 v d p) :
    ∃ x0 x1 x2 x3 : Int, v = .agg #[.int .i64 x0, .int .i64 x1, .int .i64 x2, .int .i64 x3] := by
  obtain ⟨xs, hv, hl, hw⟩ := Open.open_array_int Try.underlying43 Try.underlying3 (by kernel_rfl) (by kernel_rfl) hval h0
  match xs, hl with
  | [x, y, z, t], _ => exact ⟨x, y, z, t, by simpa using hv⟩

end Go.Proofs.Ytilfimlojpejhaa.Num
