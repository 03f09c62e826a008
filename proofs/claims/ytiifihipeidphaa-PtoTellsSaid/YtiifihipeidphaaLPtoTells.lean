/-
  The law PtoTells: Base and Persist answer as the document does.
-/
import Derived.Test.YtiifihipeidphaaPtoV
import Derived.Test.YtiifihipeidphaaPtoR
import Derived.Deep.Cut
import Derived.Deep.CutRange
import Derived.Deep.RegionHeld3
namespace Go.Proofs.Ytiifihipeidphaa.Law
open Go.RowKit RttM Wd Rtt PtoM Pto
set_option linter.unusedVariables false
set_option linter.unusedSimpArgs false

set_option maxRecDepth 100000 in
set_option maxHeartbeats 2000000 in
theorem ptoTells_any (r : Rt) (sp d : Int) (w : World) : Calls Try.prog 3 #[rtV r, .int .i64 sp, .int .i64 d] w (GBool true w) := by
  obtain ⟨N, hN⟩ : ∃ N, bas r sp d = N := ⟨_, rfl⟩
  obtain ⟨P, hP⟩ : ∃ P, pers r d = P := ⟨_, rfl⟩
  have c1 := base_is hN
  have c2 := rbase_is hN
  have c3 := persist_is hP
  have c4 := fun W => rpersist_any r d W
  rw [hP] at c4
  clear hN hP
  have D := Lib.hid ((Bx.new w r).on (Kept.refl _).drew)
  go_enter Try.func3, Try.ntmps3
  go_upto_region 1 with (fail)
  generalize w.alloc (.cells #[.int .i64 r.l, .int .i64 r.m, .int .i64 r.s, .int .i64 r.v, .int .i64 r.f] 23) = W at *
  generalize hq : w.heap.size = q at *
  go_region_held3 (fun W => W.cell? ⟨q, 0, none⟩ = some (.int .i64 r.l) ∧ W.cell? ⟨q, 1, none⟩ = some (.int .i64 r.m) ∧ W.cell? ⟨q, 2, none⟩ = some (.int .i64 r.s) ∧ W.cell? ⟨q, 3, none⟩ = some (.int .i64 r.v) ∧ W.cell? ⟨q, 4, none⟩ = some (.int .i64 r.f))
    (exact D.out.cells)
    (first
      | (go_at_call 10; (refine (c1 _).mono ?_); rintro e w' ⟨rfl, hk⟩; have D := Lib.hid (D.out.on hk); clear hk)
      | (go_at_call 11; (refine (c2 _).mono ?_); rintro e w' ⟨rfl, hk⟩; have D := Lib.hid (D.out.on hk); clear hk)
      | (go_at_call 12; (refine (c3 _).mono ?_); rintro e w' ⟨rfl, hk⟩; have D := Lib.hid (D.out.on hk); clear hk)
      | (go_at_call 13; (refine (c4 _).mono ?_); rintro e w' ⟨rfl, hk⟩; have D := Lib.hid (D.out.on hk); clear hk)
      | (go_at_call 14; (refine (works_any _).mono ?_); rintro e w' ⟨rfl, hk⟩; have D := Lib.hid (D.out.on hk); clear hk))
  all_goals
    go_wp2_with fail
    go_ret
    exact ⟨rfl, D.out.k⟩
end Go.Proofs.Ytiifihipeidphaa.Law
