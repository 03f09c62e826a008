/-
  Words for the laws of layer 7: a box of an estimate that is stored anew; literal rows of samples.
-/
import Derived.Test.YtjmieefbeojkfaaRttL
import Derived.Deep.CutBlock
import Derived.Deep.DeepCutAuto
namespace Go.Proofs.Ytjmieefbeojkfaa.Rtt
open Go.RowKit RttM Cd Wd Num
set_option linter.unusedVariables false
set_option linter.unusedSimpArgs false

/-- The box of an estimate, laid since w; nothing that was there in w has turned. -/
structure Bq (w W : World) (q : Nat) (r : Rt) : Prop where
  b : Blk W q 23 (rtA r)
  k : Kept w W
  q0 : w.heap.size ≤ q
theorem Bq.on {w W W' : World} {q : Nat} {r : Rt} (h : Bq w W q r) (k : Kept W W') : Bq w W' q r := ⟨h.b.kept k, h.k.trans k, h.q0⟩
theorem Bq.store {w W : World} {q : Nat} {r : Rt} (h : Bq w W q r) (s : Rt) : Bq w (five W q s) q s := ⟨five_here h.b, five_kept h.k h.q0, h.q0⟩
theorem Bq.cells {w W : World} {q : Nat} {r : Rt} (h : Bq w W q r) : W.cell? ⟨q, 0, none⟩ = some (.int .i64 r.l) ∧ W.cell? ⟨q, 1, none⟩ = some (.int .i64 r.m) ∧ W.cell? ⟨q, 2, none⟩ = some (.int .i64 r.s) ∧ W.cell? ⟨q, 3, none⟩ = some (.int .i64 r.v) ∧ W.cell? ⟨q, 4, none⟩ = some (.int .i64 r.f) :=
  ⟨h.b.cell 0, h.b.cell 1, h.b.cell 2, h.b.cell 3, h.b.cell 4⟩

theorem th_two {W : World} {g : Nat} {x0 y0 z0 x1 y1 z1 : Int} (h : Blk W g 24 #[.int .i64 x0, .int .i64 y0, .int .i64 z0, .int .i64 x1, .int .i64 y1, .int .i64 z1]) : Th W (some ⟨g, 0, none⟩) 2 2 [⟨x0, y0, z0⟩, ⟨x1, y1, z1⟩] :=
  ⟨rfl, Nat.le_refl _, by unfold maxLen; omega, fun _ => ⟨g, 0, rfl, h.lt, fun k hk => by
    match k, hk with
    | 0, _ => exact ⟨h.cell 0, h.cell 1, h.cell 2⟩
    | 1, _ => exact ⟨h.cell 3, h.cell 4, h.cell 5⟩⟩⟩
theorem th_one {W : World} {g : Nat} {x0 y0 z0 : Int} (h : Blk W g 24 #[.int .i64 x0, .int .i64 y0, .int .i64 z0]) : Th W (some ⟨g, 0, none⟩) 1 1 [⟨x0, y0, z0⟩] :=
  ⟨rfl, Nat.le_refl _, by unfold maxLen; omega, fun _ => ⟨g, 0, rfl, h.lt, fun k hk => by
    match k, hk with
    | 0, _ => exact ⟨h.cell 0, h.cell 1, h.cell 2⟩⟩⟩
theorem tm_mod (a : Int) : tm (a % 9007199254740992) := by
  have h1 := Int.emod_nonneg a (show (9007199254740992 : Int) ≠ 0 by omega)
  have h2 := Int.emod_lt_of_pos a (show (0 : Int) < 9007199254740992 by omega)
  exact ⟨h1, by omega⟩
theorem okS_mk {x y z : Int} (hx : tm x) (hy : tm y) (hz : tm z) : okS ⟨x, y, z⟩ := ⟨hx, hy, hz⟩
theorem tm0 : tm 0 := by unfold tm; omega
theorem tm_nat {i : Nat} (h : i ≤ 1000000) : tm (i : Int) := by unfold tm; omega
theorem run_first {a : Sm} (h : okS a) : runs base0 [a] = first a.x a.z := by
  show after base0 a.x a.y a.z = _
  exact after_new base0_new _ _ _
theorem run_second {a b : Sm} (h : okS a) (h' : okS b) : runs base0 [a, b] = next (first a.x a.z) b.x b.y := by
  show after (after base0 a.x a.y a.z) b.x b.y b.z = _
  rw [after_new base0_new]
  exact after_meas (first_meas h.1 h.2.2) _ _ _

end Go.Proofs.Ytjmieefbeojkfaa.Rtt
