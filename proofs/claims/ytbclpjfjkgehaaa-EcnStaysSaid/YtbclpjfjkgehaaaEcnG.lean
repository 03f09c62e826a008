/-
  Contracts of the document's own: fails.
-/
import Derived.Test.YtbclpjfjkgehaaaEcnF
namespace Go.Proofs.Ytbclpjfjkgehaaa.Ecn
open Go.RowKit EcnM Wd
set_option linter.unusedVariables false
set_option linter.unusedSimpArgs false

set_option maxRecDepth 100000 in
set_option maxHeartbeats 1000000 in
theorem rfails_a (s a b c : Int) (f : Bool) (r : Rs) (ya yb yc n : Int) (h0 : ya < a) (w : World) : Calls Try.prog 22 #[cnV ⟨s, a, b, c, f⟩, akV r ⟨true, ya, yb, yc⟩, .int .i64 n] w (Gives (.bool true) w) := by
  obtain ⟨W, hW, T0⟩ := Tw.mk_ 31 w ⟨s, a, b, c, f⟩ r ⟨true, ya, yb, yc⟩
  go_enter Try.func22, Try.ntmps22
  go_wp2_with fail
  rw [← hW]
  clear hW
  generalize w.heap.size = p at *
  generalize p + 1 = q at *
  have T := Lib.hid T0
  clear T0
  obtain ⟨c0, c1, c2, c3, d2, d3, d4, d5⟩ := T.out.cells
  dsimp only at c0 c1 c2 c3 d2 d3 d4 d5
  go_wp2_with fail
  refine wp_loop_rounds 4 ?_
  rw [rounds_succ]
  go_wp2_with fail
  go_quiet (fail)
  have T := Lib.hid (T.out.on ((Kept.refl _).drewN nq))
  clear c0 c1 c2 c3 d2 d3 d4 d5
  generalize World.drewN _ nq = W2 at *
  obtain ⟨c0, c1, c2, c3, d2, d3, d4, d5⟩ := T.out.cells
  dsimp only at c0 c1 c2 c3 d2 d3 d4 d5
  go_wp2_with fail
  go_ret
  exact ⟨rfl, T.out.k⟩
set_option maxRecDepth 100000 in
set_option maxHeartbeats 1000000 in
theorem rfails_b (s a b c : Int) (f : Bool) (r : Rs) (ya yb yc n : Int) (h0 : ¬ ya < a) (h1 : yb < b) (w : World) : Calls Try.prog 22 #[cnV ⟨s, a, b, c, f⟩, akV r ⟨true, ya, yb, yc⟩, .int .i64 n] w (Gives (.bool true) w) := by
  obtain ⟨W, hW, T0⟩ := Tw.mk_ 31 w ⟨s, a, b, c, f⟩ r ⟨true, ya, yb, yc⟩
  go_enter Try.func22, Try.ntmps22
  go_wp2_with fail
  rw [← hW]
  clear hW
  generalize w.heap.size = p at *
  generalize p + 1 = q at *
  have T := Lib.hid T0
  clear T0
  obtain ⟨c0, c1, c2, c3, d2, d3, d4, d5⟩ := T.out.cells
  dsimp only at c0 c1 c2 c3 d2 d3 d4 d5
  go_wp2_with fail
  refine wp_loop_rounds 4 ?_
  rw [rounds_succ]
  go_wp2_with fail
  go_quiet (fail)
  have T := Lib.hid (T.out.on ((Kept.refl _).drewN nq))
  clear c0 c1 c2 c3 d2 d3 d4 d5
  generalize World.drewN _ nq = W2 at *
  obtain ⟨c0, c1, c2, c3, d2, d3, d4, d5⟩ := T.out.cells
  dsimp only at c0 c1 c2 c3 d2 d3 d4 d5
  go_wp2_with fail
  rw [rounds_succ]
  go_wp2_with fail
  go_quiet (fail)
  have T := Lib.hid (T.out.on ((Kept.refl _).drewN nq))
  clear c0 c1 c2 c3 d2 d3 d4 d5
  generalize World.drewN _ nq = W3 at *
  obtain ⟨c0, c1, c2, c3, d2, d3, d4, d5⟩ := T.out.cells
  dsimp only at c0 c1 c2 c3 d2 d3 d4 d5
  go_wp2_with fail
  go_ret
  exact ⟨rfl, T.out.k⟩
set_option maxRecDepth 100000 in
set_option maxHeartbeats 1000000 in
theorem rfails_c (s a b c : Int) (f : Bool) (r : Rs) (ya yb yc n : Int) (h0 : ¬ ya < a) (h1 : ¬ yb < b) (h2 : yc < c) (w : World) : Calls Try.prog 22 #[cnV ⟨s, a, b, c, f⟩, akV r ⟨true, ya, yb, yc⟩, .int .i64 n] w (Gives (.bool true) w) := by
  obtain ⟨W, hW, T0⟩ := Tw.mk_ 31 w ⟨s, a, b, c, f⟩ r ⟨true, ya, yb, yc⟩
  go_enter Try.func22, Try.ntmps22
  go_wp2_with fail
  rw [← hW]
  clear hW
  generalize w.heap.size = p at *
  generalize p + 1 = q at *
  have T := Lib.hid T0
  clear T0
  obtain ⟨c0, c1, c2, c3, d2, d3, d4, d5⟩ := T.out.cells
  dsimp only at c0 c1 c2 c3 d2 d3 d4 d5
  go_wp2_with fail
  refine wp_loop_rounds 4 ?_
  rw [rounds_succ]
  go_wp2_with fail
  go_quiet (fail)
  have T := Lib.hid (T.out.on ((Kept.refl _).drewN nq))
  clear c0 c1 c2 c3 d2 d3 d4 d5
  generalize World.drewN _ nq = W2 at *
  obtain ⟨c0, c1, c2, c3, d2, d3, d4, d5⟩ := T.out.cells
  dsimp only at c0 c1 c2 c3 d2 d3 d4 d5
  go_wp2_with fail
  rw [rounds_succ]
  go_wp2_with fail
  go_quiet (fail)
  have T := Lib.hid (T.out.on ((Kept.refl _).drewN nq))
  clear c0 c1 c2 c3 d2 d3 d4 d5
  generalize World.drewN _ nq = W3 at *
  obtain ⟨c0, c1, c2, c3, d2, d3, d4, d5⟩ := T.out.cells
  dsimp only at c0 c1 c2 c3 d2 d3 d4 d5
  go_wp2_with fail
  rw [rounds_succ]
  go_wp2_with fail
  go_quiet (fail)
  have T := Lib.hid (T.out.on ((Kept.refl _).drewN nq))
  clear c0 c1 c2 c3 d2 d3 d4 d5
  generalize World.drewN _ nq = W4 at *
  obtain ⟨c0, c1, c2, c3, d2, d3, d4, d5⟩ := T.out.cells
  dsimp only at c0 c1 c2 c3 d2 d3 d4 d5
  go_wp2_with fail
  go_ret
  exact ⟨rfl, T.out.k⟩
set_option maxRecDepth 100000 in
set_option maxHeartbeats 1000000 in
theorem rfails_d (s a b c : Int) (f : Bool) (r : Rs) (ya yb yc n : Int) (h0 : ¬ ya < a) (h1 : ¬ yb < b) (h2 : ¬ yc < c) (a0 : 0 ≤ a) (a1 : a ≤ 9007199254740991) (c0 : 0 ≤ c) (c1 : c ≤ 9007199254740991) (y0 : 0 ≤ ya) (y1 : ya ≤ 9007199254740991) (z0 : 0 ≤ yc) (z1 : yc ≤ 9007199254740991) (h3 : b < yb) (w : World) : Calls Try.prog 22 #[cnV ⟨s, a, b, c, f⟩, akV r ⟨true, ya, yb, yc⟩, .int .i64 n] w (Gives (.bool true) w) := by
  obtain ⟨W, hW, T0⟩ := Tw.mk_ 31 w ⟨s, a, b, c, f⟩ r ⟨true, ya, yb, yc⟩
  have w1 : IntKind.i64.wrap (ya + yc) = ya + yc := IntWalk.i64_in _ (by omega)
  have w2 : IntKind.i64.wrap (ya + yc - a) = ya + yc - a := IntWalk.i64_in _ (by omega)
  have w3 : IntKind.i64.wrap (ya + yc - a - c) = ya + yc - a - c := IntWalk.i64_in _ (by omega)
  have g0 : decide (b < yb) = true := decide_eq_true h3
  clear a0 a1 c0 c1 y0 y1 z0 z1
  go_enter Try.func22, Try.ntmps22
  go_wp2_with fail
  rw [← hW]
  clear hW
  generalize w.heap.size = p at *
  generalize p + 1 = q at *
  have T := Lib.hid T0
  clear T0
  obtain ⟨c0, c1, c2, c3, d2, d3, d4, d5⟩ := T.out.cells
  dsimp only at c0 c1 c2 c3 d2 d3 d4 d5
  go_wp2_with fail
  refine wp_loop_rounds 4 ?_
  rw [rounds_succ]
  go_wp2_with fail
  go_quiet (fail)
  have T := Lib.hid (T.out.on ((Kept.refl _).drewN nq))
  clear c0 c1 c2 c3 d2 d3 d4 d5
  generalize World.drewN _ nq = W2 at *
  obtain ⟨c0, c1, c2, c3, d2, d3, d4, d5⟩ := T.out.cells
  dsimp only at c0 c1 c2 c3 d2 d3 d4 d5
  go_wp2_with fail
  rw [rounds_succ]
  go_wp2_with fail
  go_quiet (fail)
  have T := Lib.hid (T.out.on ((Kept.refl _).drewN nq))
  clear c0 c1 c2 c3 d2 d3 d4 d5
  generalize World.drewN _ nq = W3 at *
  obtain ⟨c0, c1, c2, c3, d2, d3, d4, d5⟩ := T.out.cells
  dsimp only at c0 c1 c2 c3 d2 d3 d4 d5
  go_wp2_with fail
  rw [rounds_succ]
  go_wp2_with fail
  go_quiet (fail)
  have T := Lib.hid (T.out.on ((Kept.refl _).drewN nq))
  clear c0 c1 c2 c3 d2 d3 d4 d5
  generalize World.drewN _ nq = W4 at *
  obtain ⟨c0, c1, c2, c3, d2, d3, d4, d5⟩ := T.out.cells
  dsimp only at c0 c1 c2 c3 d2 d3 d4 d5
  go_wp2_with fail
  rw [rounds_succ]
  go_wp2_with fail
  go_ret
  exact ⟨rfl, T.out.k⟩
set_option maxRecDepth 100000 in
set_option maxHeartbeats 1000000 in
theorem rfails_e (s a b c : Int) (f : Bool) (r : Rs) (ya yb yc n : Int) (h0 : ¬ ya < a) (h1 : ¬ yb < b) (h2 : ¬ yc < c) (a0 : 0 ≤ a) (a1 : a ≤ 9007199254740991) (c0 : 0 ≤ c) (c1 : c ≤ 9007199254740991) (y0 : 0 ≤ ya) (y1 : ya ≤ 9007199254740991) (z0 : 0 ≤ yc) (z1 : yc ≤ 9007199254740991) (h3 : ¬ b < yb) (h4 : s < ya + yc) (w : World) : Calls Try.prog 22 #[cnV ⟨s, a, b, c, f⟩, akV r ⟨true, ya, yb, yc⟩, .int .i64 n] w (Gives (.bool true) w) := by
  obtain ⟨W, hW, T0⟩ := Tw.mk_ 31 w ⟨s, a, b, c, f⟩ r ⟨true, ya, yb, yc⟩
  have w1 : IntKind.i64.wrap (ya + yc) = ya + yc := IntWalk.i64_in _ (by omega)
  have w2 : IntKind.i64.wrap (ya + yc - a) = ya + yc - a := IntWalk.i64_in _ (by omega)
  have w3 : IntKind.i64.wrap (ya + yc - a - c) = ya + yc - a - c := IntWalk.i64_in _ (by omega)
  have g0 : decide (b < yb) = false := decide_eq_false h3
  have g1 : decide (s < ya + yc) = true := decide_eq_true h4
  clear a0 a1 c0 c1 y0 y1 z0 z1
  go_enter Try.func22, Try.ntmps22
  go_wp2_with fail
  rw [← hW]
  clear hW
  generalize w.heap.size = p at *
  generalize p + 1 = q at *
  have T := Lib.hid T0
  clear T0
  obtain ⟨c0, c1, c2, c3, d2, d3, d4, d5⟩ := T.out.cells
  dsimp only at c0 c1 c2 c3 d2 d3 d4 d5
  go_wp2_with fail
  refine wp_loop_rounds 4 ?_
  rw [rounds_succ]
  go_wp2_with fail
  go_quiet (fail)
  have T := Lib.hid (T.out.on ((Kept.refl _).drewN nq))
  clear c0 c1 c2 c3 d2 d3 d4 d5
  generalize World.drewN _ nq = W2 at *
  obtain ⟨c0, c1, c2, c3, d2, d3, d4, d5⟩ := T.out.cells
  dsimp only at c0 c1 c2 c3 d2 d3 d4 d5
  go_wp2_with fail
  rw [rounds_succ]
  go_wp2_with fail
  go_quiet (fail)
  have T := Lib.hid (T.out.on ((Kept.refl _).drewN nq))
  clear c0 c1 c2 c3 d2 d3 d4 d5
  generalize World.drewN _ nq = W3 at *
  obtain ⟨c0, c1, c2, c3, d2, d3, d4, d5⟩ := T.out.cells
  dsimp only at c0 c1 c2 c3 d2 d3 d4 d5
  go_wp2_with fail
  rw [rounds_succ]
  go_wp2_with fail
  go_quiet (fail)
  have T := Lib.hid (T.out.on ((Kept.refl _).drewN nq))
  clear c0 c1 c2 c3 d2 d3 d4 d5
  generalize World.drewN _ nq = W4 at *
  obtain ⟨c0, c1, c2, c3, d2, d3, d4, d5⟩ := T.out.cells
  dsimp only at c0 c1 c2 c3 d2 d3 d4 d5
  go_wp2_with fail
  rw [rounds_succ]
  go_wp2_with fail
  go_ret
  exact ⟨rfl, T.out.k⟩
set_option maxRecDepth 100000 in
set_option maxHeartbeats 1000000 in
theorem rfails_f (s a b c : Int) (f : Bool) (r : Rs) (ya yb yc n : Int) (h0 : ¬ ya < a) (h1 : ¬ yb < b) (h2 : ¬ yc < c) (a0 : 0 ≤ a) (a1 : a ≤ 9007199254740991) (c0 : 0 ≤ c) (c1 : c ≤ 9007199254740991) (y0 : 0 ≤ ya) (y1 : ya ≤ 9007199254740991) (z0 : 0 ≤ yc) (z1 : yc ≤ 9007199254740991) (h3 : ¬ b < yb) (h4 : ¬ s < ya + yc) (w : World) : Calls Try.prog 22 #[cnV ⟨s, a, b, c, f⟩, akV r ⟨true, ya, yb, yc⟩, .int .i64 n] w (Gives (.bool (decide (ya + yc - a - c < n))) w) := by
  obtain ⟨W, hW, T0⟩ := Tw.mk_ 31 w ⟨s, a, b, c, f⟩ r ⟨true, ya, yb, yc⟩
  have w1 : IntKind.i64.wrap (ya + yc) = ya + yc := IntWalk.i64_in _ (by omega)
  have w2 : IntKind.i64.wrap (ya + yc - a) = ya + yc - a := IntWalk.i64_in _ (by omega)
  have w3 : IntKind.i64.wrap (ya + yc - a - c) = ya + yc - a - c := IntWalk.i64_in _ (by omega)
  have g0 : decide (b < yb) = false := decide_eq_false h3
  have g1 : decide (s < ya + yc) = false := decide_eq_false h4
  clear a0 a1 c0 c1 y0 y1 z0 z1
  obtain ⟨E, hE⟩ : ∃ E, decide (ya + yc - a - c < n) = E := ⟨_, rfl⟩
  rw [hE]
  go_enter Try.func22, Try.ntmps22
  go_wp2_with fail
  rw [← hW]
  clear hW
  generalize w.heap.size = p at *
  generalize p + 1 = q at *
  have T := Lib.hid T0
  clear T0
  obtain ⟨c0, c1, c2, c3, d2, d3, d4, d5⟩ := T.out.cells
  dsimp only at c0 c1 c2 c3 d2 d3 d4 d5
  go_wp2_with fail
  refine wp_loop_rounds 4 ?_
  rw [rounds_succ]
  go_wp2_with fail
  go_quiet (fail)
  have T := Lib.hid (T.out.on ((Kept.refl _).drewN nq))
  clear c0 c1 c2 c3 d2 d3 d4 d5
  generalize World.drewN _ nq = W2 at *
  obtain ⟨c0, c1, c2, c3, d2, d3, d4, d5⟩ := T.out.cells
  dsimp only at c0 c1 c2 c3 d2 d3 d4 d5
  go_wp2_with fail
  rw [rounds_succ]
  go_wp2_with fail
  go_quiet (fail)
  have T := Lib.hid (T.out.on ((Kept.refl _).drewN nq))
  clear c0 c1 c2 c3 d2 d3 d4 d5
  generalize World.drewN _ nq = W3 at *
  obtain ⟨c0, c1, c2, c3, d2, d3, d4, d5⟩ := T.out.cells
  dsimp only at c0 c1 c2 c3 d2 d3 d4 d5
  go_wp2_with fail
  rw [rounds_succ]
  go_wp2_with fail
  go_quiet (fail)
  have T := Lib.hid (T.out.on ((Kept.refl _).drewN nq))
  clear c0 c1 c2 c3 d2 d3 d4 d5
  generalize World.drewN _ nq = W4 at *
  obtain ⟨c0, c1, c2, c3, d2, d3, d4, d5⟩ := T.out.cells
  dsimp only at c0 c1 c2 c3 d2 d3 d4 d5
  go_wp2_with fail
  rw [rounds_succ]
  go_wp2_with fail
  go_ret
  exact ⟨rfl, T.out.k⟩
set_option maxRecDepth 100000 in
theorem rfails_no (x : Cn) (r : Rs) (y : Fr) (n : Int) (hm : y.m = false) (w : World) : Calls Try.prog 22 #[cnV x, akV r y, .int .i64 n] w (Gives (.bool (decide (fails x y n))) w) := by
  have HF := Lib.hid (show decide (0 < n) = decide (fails x y n) by rw [decide_eq_decide]; unfold fails; simp [hm])
  obtain ⟨W, hW, T0⟩ := Tw.mk_ 31 w x r y
  obtain ⟨E, hE⟩ : ∃ E, decide (fails x y n) = E := ⟨_, rfl⟩
  rw [hE] at HF ⊢
  clear hE
  obtain ⟨m, ya, yb, yc⟩ := y
  dsimp only at *
  subst hm
  go_enter Try.func22, Try.ntmps22
  go_wp2_with fail
  go_ret
  exact ⟨ret_bool HF.out, ((Kept.refl w).alloc _).alloc _⟩
theorem rfails_any (x : Cn) (r : Rs) (y : Fr) (n : Int) (hx : Ok x) (hy : OkF y) (w : World) : Calls Try.prog 22 #[cnV x, akV r y, .int .i64 n] w (Gives (.bool (decide (fails x y n))) w) := by
  rcases Bool.eq_false_or_eq_true y.m with hm | hm
  · obtain ⟨s, a, b, c, f⟩ := x
    obtain ⟨m, ya, yb, yc⟩ := y
    dsimp only at *
    subst hm
    by_cases h0 : ya < a
    · rw [decide_eq_true (show fails _ _ _ from .inr ⟨rfl, .inl h0⟩)]
      exact rfails_a s a b c f r ya yb yc n h0 w
    by_cases h1 : yb < b
    · rw [decide_eq_true (show fails _ _ _ from .inr ⟨rfl, .inr (.inl h1)⟩)]
      exact rfails_b s a b c f r ya yb yc n h0 h1 w
    by_cases h2 : yc < c
    · rw [decide_eq_true (show fails _ _ _ from .inr ⟨rfl, .inr (.inr (.inl h2))⟩)]
      exact rfails_c s a b c f r ya yb yc n h0 h1 h2 w
    by_cases h3 : b < yb
    · rw [decide_eq_true (show fails _ _ _ from .inr ⟨rfl, .inr (.inr (.inr (.inl h3)))⟩)]
      exact rfails_d s a b c f r ya yb yc n h0 h1 h2 hx.a.1 hx.a.2 hx.c.1 hx.c.2 hy.a.1 hy.a.2 hy.c.1 hy.c.2 h3 w
    by_cases h4 : s < ya + yc
    · rw [decide_eq_true (show fails _ _ _ from .inr ⟨rfl, .inr (.inr (.inr (.inr (.inl h4))))⟩)]
      exact rfails_e s a b c f r ya yb yc n h0 h1 h2 hx.a.1 hx.a.2 hx.c.1 hx.c.2 hy.a.1 hy.a.2 hy.c.1 hy.c.2 h3 h4 w
    · rw [show decide (fails ⟨s, a, b, c, f⟩ ⟨true, ya, yb, yc⟩ n) = decide (ya + yc - a - c < n) by rw [decide_eq_decide]; unfold fails; simp [h0, h1, h2, h3, h4]]
      exact rfails_f s a b c f r ya yb yc n h0 h1 h2 hx.a.1 hx.a.2 hx.c.1 hx.c.2 hy.a.1 hy.a.2 hy.c.1 hy.c.2 h3 h4 w
  · exact rfails_no x r y n hm w
end Go.Proofs.Ytbclpjfjkgehaaa.Ecn
