/-
  The law PtoNew: the base of a new estimate.
-/
import Derived.Test.YtiifihipeidphaaPtoV
import Derived.Test.YtiifihipeidphaaPtoR
import Derived.Deep.Cut
import Derived.Deep.CutRange
import Derived.Deep.RegionHeld3
namespace Go.Proofs.Ytiifihipeidphaa.Law
open Go.RowKit RttM Wd Rtt PtoM Pto
set_option linter.unusedVariables false
set_option linter.unusedSimpArgs false

theorem new_bas {f : Int} (h : 1000000 ≤ f) (h' : f ≤ 60000000000) (sp d : Int) (hs : 0 ≤ sp) (hs' : sp < 3) (hd : 0 ≤ d) (hd' : d ≤ 9) : bas (fresh f) sp d = f + 4 * (f / 2) + (if sp = 2 then d else 0) := by
  have hn : chk (fresh f) = 0 := chk_new ⟨h, h', rfl, rfl, rfl, rfl⟩
  rw [bas_in hn ⟨hs, hs'⟩]
  unfold raw
  rw [Sat.num_id d hd (by omega), num_def]
  show max 0 (min (f + max (4 * (f / 2)) 1000000 + (if sp = 2 then d else 0)) 9007199254740991) = _
  split <;> omega
theorem base_new {f sp d n : Int} (h : bas (fresh f) sp d = n) (w : World) : Calls Try.prog 10 #[.agg #[.int .i64 0, .int .i64 0, .int .i64 f, .int .i64 (f / 2), .int .i64 (-1)], .int .i64 sp, .int .i64 d] w (Gives (.int .i64 n) w) := base_is h w
set_option maxRecDepth 100000 in
set_option maxHeartbeats 2000000 in
theorem ptoNew_any (a : Int) (w : World) : Calls Try.prog 6 #[.int .i64 a] w (GBool true w) := by
  have cb := fun W => bring_any a 59999000001 W (by omega) (by omega)
  have h1 := Int.emod_nonneg a (show (59999000001 : Int) ≠ 0 by omega)
  have h2 := Int.emod_lt_of_pos a (show (0 : Int) < 59999000001 by omega)
  generalize a % 59999000001 = b at *
  obtain ⟨f, hf⟩ : ∃ f, 1000000 + b = f := ⟨_, rfl⟩
  have f1 : 1000000 ≤ f := by omega
  have f2 : f ≤ 60000000000 := by omega
  obtain ⟨N, hN⟩ : ∃ N, f + 4 * (f / 2) = N := ⟨_, rfl⟩
  have n1 := new_bas f1 f2 0 9 (by omega) (by omega) (by omega) (by omega)
  have n2 := new_bas f1 f2 1 9 (by omega) (by omega) (by omega) (by omega)
  have n3 := new_bas f1 f2 0 0 (by omega) (by omega) (by omega) (by omega)
  have n4 := new_bas f1 f2 2 9 (by omega) (by omega) (by omega) (by omega)
  rw [if_neg (by omega), Int.add_zero, hN] at n1 n2 n3
  rw [if_pos rfl, hN] at n4
  have c1 := base_new n1
  have c2 := base_new n2
  have c3 := base_new n3
  have c4 := base_new n4
  have q2 : f.tdiv 2 = f / 2 := Int.tdiv_eq_ediv_of_nonneg (by omega)
  have w0 : IntKind.i64.wrap f = f := IntWalk.i64_in _ (by omega)
  have w1 : IntKind.i64.wrap (f / 2) = f / 2 := IntWalk.i64_in _ (by omega)
  have w2 : IntKind.i64.wrap (4 * (f / 2)) = 4 * (f / 2) := IntWalk.i64_in _ (by omega)
  have w3 : IntKind.i64.wrap N = N := IntWalk.i64_in _ (by omega)
  have w4 : IntKind.i64.wrap (N + 9) = N + 9 := IntWalk.i64_in _ (by omega)
  clear h1 h2 n1 n2 n3 n4
  go_enter Try.func6, Try.ntmps6
  go_wp2_with fail
  refine (cb _).mono ?_
  rintro e w' ⟨rfl, rfl⟩
  go_upto_region 3 with (fail)
  have D := Lib.hid ((Bx.new w (fresh f)).on (Kept.refl _).drew)
  change Code.wp _ _ _ _ (w.alloc (.cells #[.int .i64 0, .int .i64 0, .int .i64 f, .int .i64 (f / 2), .int .i64 (-1)] 23))
  have D : Hid (Bx w (w.alloc (.cells #[.int .i64 0, .int .i64 0, .int .i64 f, .int .i64 (f / 2), .int .i64 (-1)] 23)).drew w.heap.size (fresh f)) := D
  generalize w.alloc (.cells #[.int .i64 0, .int .i64 0, .int .i64 f, .int .i64 (f / 2), .int .i64 (-1)] 23) = W at *
  generalize hq : w.heap.size = q at *
  go_region_held3 (fun W => W.cell? ⟨q, 0, none⟩ = some (.int .i64 0) ∧ W.cell? ⟨q, 1, none⟩ = some (.int .i64 0) ∧ W.cell? ⟨q, 2, none⟩ = some (.int .i64 f) ∧ W.cell? ⟨q, 3, none⟩ = some (.int .i64 (f / 2)) ∧ W.cell? ⟨q, 4, none⟩ = some (.int .i64 (-1)))
    (exact D.out.cells)
    (first
      | (go_at_call 10; (with_reducible refine (c1 _).mono ?_); rintro e w' ⟨rfl, hk⟩; have D := Lib.hid (D.out.on hk); clear hk)
      | (go_at_call 10; (with_reducible refine (c2 _).mono ?_); rintro e w' ⟨rfl, hk⟩; have D := Lib.hid (D.out.on hk); clear hk)
      | (go_at_call 10; (with_reducible refine (c3 _).mono ?_); rintro e w' ⟨rfl, hk⟩; have D := Lib.hid (D.out.on hk); clear hk)
      | (go_at_call 10; (with_reducible refine (c4 _).mono ?_); rintro e w' ⟨rfl, hk⟩; have D := Lib.hid (D.out.on hk); clear hk)
      | (go_at_call 14; (refine (works_any _).mono ?_); rintro e w' ⟨rfl, hk⟩; have D := Lib.hid (D.out.on hk); clear hk))
  all_goals
    go_wp2_with fail
    go_ret
    exact ⟨rfl, D.out.k⟩
end Go.Proofs.Ytiifihipeidphaa.Law
