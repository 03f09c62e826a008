/-
  The law LossWaits: Wait answers as the document does.
-/
import Derived.Test.YtilfimlojpejhaaLosV
import Derived.Test.YtilfimlojpejhaaLosT
import Derived.Deep.RegionHeld3
namespace Go.Proofs.Ytilfimlojpejhaa.Law
open Go.RowKit SntM Cd Wd LosM Los
open Snt (pkC pkV pkA PRow)
open Rtt (rtV rtA Gives Same GBool)
open RttM (Rt chk great)
set_option linter.unusedVariables false
set_option linter.unusedSimpArgs false

/-- The box of an estimate; since a first world nothing has turned. -/
structure Bx (w W : World) (q : Nat) (r : Rt) : Prop where
  b : Blk W q 25 (rtA r)
  k : Kept w W
theorem Bx.on {w W W' : World} {q : Nat} {r : Rt} (h : Bx w W q r) (k : Kept W W') : Bx w W' q r := ⟨h.b.kept k, h.k.trans k⟩
theorem Bx.new (w : World) (r : Rt) : Bx w (w.alloc (.cells #[.int .i64 r.l, .int .i64 r.m, .int .i64 r.s, .int .i64 r.v, .int .i64 r.f] 25)) w.heap.size r := ⟨Blk.new _ _ _, (Kept.refl w).alloc _⟩
theorem Bx.cells {w W : World} {q : Nat} {r : Rt} (h : Bx w W q r) : W.cell? ⟨q, 0, none⟩ = some (.int .i64 r.l) ∧ W.cell? ⟨q, 1, none⟩ = some (.int .i64 r.m) ∧ W.cell? ⟨q, 2, none⟩ = some (.int .i64 r.s) ∧ W.cell? ⟨q, 3, none⟩ = some (.int .i64 r.v) ∧ W.cell? ⟨q, 4, none⟩ = some (.int .i64 r.f) :=
  ⟨h.b.cell 0, h.b.cell 1, h.b.cell 2, h.b.cell 3, h.b.cell 4⟩

set_option maxRecDepth 100000 in
set_option maxHeartbeats 2000000 in
theorem lossWaits_any (r : Rt) (w : World) : Calls Try.prog 4 #[rtV r] w (GBool true w) := by
  obtain ⟨N, hN⟩ : ∃ N, wait r = N := ⟨_, rfl⟩
  have c1 := wait_is hN
  have c2 := rwait_is hN
  clear hN
  have D := Lib.hid ((Bx.new w r).on (Kept.refl _).drew)
  go_enter Try.func4, Try.ntmps4
  go_upto_region 1 with (fail)
  generalize w.alloc (.cells #[.int .i64 r.l, .int .i64 r.m, .int .i64 r.s, .int .i64 r.v, .int .i64 r.f] 25) = W at *
  generalize hq : w.heap.size = q at *
  go_region_held3 (fun W => W.cell? ⟨q, 0, none⟩ = some (.int .i64 r.l) ∧ W.cell? ⟨q, 1, none⟩ = some (.int .i64 r.m) ∧ W.cell? ⟨q, 2, none⟩ = some (.int .i64 r.s) ∧ W.cell? ⟨q, 3, none⟩ = some (.int .i64 r.v) ∧ W.cell? ⟨q, 4, none⟩ = some (.int .i64 r.f))
    (exact D.out.cells)
    (first
      | (go_at_call 17; (refine (c1 _).mono ?_); rintro e w' ⟨rfl, hk⟩; have D := Lib.hid (D.out.on hk); clear hk)
      | (go_at_call 18; (refine (c2 _).mono ?_); rintro e w' ⟨rfl, hk⟩; have D := Lib.hid (D.out.on hk); clear hk)
      | (go_at_call 16; (refine (works_any _).mono ?_); rintro e w' ⟨rfl, hk⟩; have D := Lib.hid (D.out.on hk); clear hk))
  all_goals
    go_wp2_with fail
    go_ret
    exact ⟨rfl, D.out.k⟩
end Go.Proofs.Ytilfimlojpejhaa.Law
