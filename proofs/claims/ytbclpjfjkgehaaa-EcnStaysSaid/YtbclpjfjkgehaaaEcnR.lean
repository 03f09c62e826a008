/-
  Contracts: the document's Acked.
-/
import Derived.Test.YtbclpjfjkgehaaaEcnA
import Derived.Deep.Cut
import Derived.Deep.CutRange
namespace Go.Proofs.Ytbclpjfjkgehaaa.Ecn
open Go.RowKit EcnM Wd
set_option linter.unusedVariables false
set_option linter.unusedSimpArgs false

set_option maxRecDepth 100000 in
set_option maxHeartbeats 2000000 in
theorem racked_bad (x : Cn) (r : Rs) (y : Fr) (n : Int) (hx : ¬ Ok x) (w : World) : Calls Try.prog 12 #[cnV x, akV r y, .int .i64 n] w (Gives (.tuple #[cnV zero, .bool false, .int .i64 2]) w) := by
  obtain ⟨W, hW, T0⟩ := Th.mk_ 31 w x r y
  have D := Lib.hid T0
  have hg0 : w.heap.size + 1 + 1 < W.heap.size := T0.G.lt
  clear T0
  have k1 := Lib.hid (fun W => rcheck_any x W)
  rw [chk_no hx] at k1
  clear hx
  have c0 := D.out.P.cell 0
  have c1 := D.out.P.cell 1
  have c2 := D.out.P.cell 2
  have c3 := D.out.P.cell 3
  have c4 := D.out.P.cell 4
  have a0 := D.out.Q.cell 0
  have a1 := D.out.Q.cell 1
  have a2 := D.out.Q.cell 2
  have a3 := D.out.Q.cell 3
  have a4 := D.out.Q.cell 4
  have a5 := D.out.Q.cell 5
  have d0 := D.out.G.cell 0
  have d1 := D.out.G.cell 1
  have d2 := D.out.G.cell 2
  have d3 := D.out.G.cell 3
  have d4 := D.out.G.cell 4
  have e0 := D.out.G.frozen 0
  have e1 := D.out.G.frozen 1
  have e2 := D.out.G.frozen 2
  have e3 := D.out.G.frozen 3
  have e4 := D.out.G.frozen 4
  have b0 := D.out.P.frozen 0
  have b1 := D.out.P.frozen 1
  have b2 := D.out.P.frozen 2
  have b3 := D.out.P.frozen 3
  have b4 := D.out.P.frozen 4
  go_enter Try.func12, Try.ntmps12
  go_wp2_with fail
  rw [← hW]
  clear hW
  refine (k1.out _).mono ?_
  rintro e w1 ⟨rfl, hk⟩
  have D := Lib.hid (D.out.on hk)
  clear c0 c1 c2 c3 c4 a0 a1 a2 a3 a4 a5 d0 e0 b0 d1 e1 b1 d2 e2 b2 d3 e3 b3 d4 e4 b4
  clear hk
  have c0 := D.out.P.cell 0
  have c1 := D.out.P.cell 1
  have c2 := D.out.P.cell 2
  have c3 := D.out.P.cell 3
  have c4 := D.out.P.cell 4
  have a0 := D.out.Q.cell 0
  have a1 := D.out.Q.cell 1
  have a2 := D.out.Q.cell 2
  have a3 := D.out.Q.cell 3
  have a4 := D.out.Q.cell 4
  have a5 := D.out.Q.cell 5
  have d0 := D.out.G.cell 0
  have d1 := D.out.G.cell 1
  have d2 := D.out.G.cell 2
  have d3 := D.out.G.cell 3
  have d4 := D.out.G.cell 4
  have e0 := D.out.G.frozen 0
  have e1 := D.out.G.frozen 1
  have e2 := D.out.G.frozen 2
  have e3 := D.out.G.frozen 3
  have e4 := D.out.G.frozen 4
  have b0 := D.out.P.frozen 0
  have b1 := D.out.P.frozen 1
  have b2 := D.out.P.frozen 2
  have b3 := D.out.P.frozen 3
  have b4 := D.out.P.frozen 4
  have hg0 : w.heap.size + 1 + 1 < w1.heap.size := D.out.G.lt
  go_wp2_with fail
  refine bodyPost_ret (v := .tuple #[cnV zero, .bool false, .int .i64 2]) ?_ rfl ⟨rfl, ?_⟩
  · simp [results, Try.f12, go_sem, d0, d1, d2, d3, d4, zero]
  · exact kept_five D.out.k D.out.g0 _ _ _ _ _

set_option maxRecDepth 100000 in
set_option maxHeartbeats 2000000 in
theorem racked_n (x : Cn) (r : Rs) (y : Fr) (n : Int) (hx : Ok x) (hn : ¬ nm n) (w : World) : Calls Try.prog 12 #[cnV x, akV r y, .int .i64 n] w (Gives (.tuple #[cnV zero, .bool false, .int .i64 9]) w) := by
  obtain ⟨W, hW, T0⟩ := Th.mk_ 31 w x r y
  have D := Lib.hid T0
  have hg0 : w.heap.size + 1 + 1 < W.heap.size := T0.G.lt
  clear T0
  have k1 := Lib.hid (fun W => rcheck_any x W)
  rw [chk_ok hx] at k1
  have k2 := Lib.hid (fun W => is_any n W)
  rw [decide_eq_false hn] at k2
  clear hx hn
  have c0 := D.out.P.cell 0
  have c1 := D.out.P.cell 1
  have c2 := D.out.P.cell 2
  have c3 := D.out.P.cell 3
  have c4 := D.out.P.cell 4
  have a0 := D.out.Q.cell 0
  have a1 := D.out.Q.cell 1
  have a2 := D.out.Q.cell 2
  have a3 := D.out.Q.cell 3
  have a4 := D.out.Q.cell 4
  have a5 := D.out.Q.cell 5
  have d0 := D.out.G.cell 0
  have d1 := D.out.G.cell 1
  have d2 := D.out.G.cell 2
  have d3 := D.out.G.cell 3
  have d4 := D.out.G.cell 4
  have e0 := D.out.G.frozen 0
  have e1 := D.out.G.frozen 1
  have e2 := D.out.G.frozen 2
  have e3 := D.out.G.frozen 3
  have e4 := D.out.G.frozen 4
  have b0 := D.out.P.frozen 0
  have b1 := D.out.P.frozen 1
  have b2 := D.out.P.frozen 2
  have b3 := D.out.P.frozen 3
  have b4 := D.out.P.frozen 4
  go_enter Try.func12, Try.ntmps12
  go_wp2_with fail
  rw [← hW]
  clear hW
  refine (k1.out _).mono ?_
  rintro e w1 ⟨rfl, hk⟩
  have D := Lib.hid (D.out.on hk)
  clear c0 c1 c2 c3 c4 a0 a1 a2 a3 a4 a5 d0 e0 b0 d1 e1 b1 d2 e2 b2 d3 e3 b3 d4 e4 b4
  clear hk
  have c0 := D.out.P.cell 0
  have c1 := D.out.P.cell 1
  have c2 := D.out.P.cell 2
  have c3 := D.out.P.cell 3
  have c4 := D.out.P.cell 4
  have a0 := D.out.Q.cell 0
  have a1 := D.out.Q.cell 1
  have a2 := D.out.Q.cell 2
  have a3 := D.out.Q.cell 3
  have a4 := D.out.Q.cell 4
  have a5 := D.out.Q.cell 5
  have d0 := D.out.G.cell 0
  have d1 := D.out.G.cell 1
  have d2 := D.out.G.cell 2
  have d3 := D.out.G.cell 3
  have d4 := D.out.G.cell 4
  have e0 := D.out.G.frozen 0
  have e1 := D.out.G.frozen 1
  have e2 := D.out.G.frozen 2
  have e3 := D.out.G.frozen 3
  have e4 := D.out.G.frozen 4
  have b0 := D.out.P.frozen 0
  have b1 := D.out.P.frozen 1
  have b2 := D.out.P.frozen 2
  have b3 := D.out.P.frozen 3
  have b4 := D.out.P.frozen 4
  have hg0 : w.heap.size + 1 + 1 < w1.heap.size := D.out.G.lt
  go_wp2_with fail
  refine (k2.out _).mono ?_
  rintro e w' ⟨rfl, rfl⟩
  go_wp2_with fail
  refine bodyPost_ret (v := .tuple #[cnV zero, .bool false, .int .i64 9]) ?_ rfl ⟨rfl, ?_⟩
  · simp [results, Try.f12, go_sem, d0, d1, d2, d3, d4, zero]
  · exact kept_five D.out.k D.out.g0 _ _ _ _ _

set_option maxRecDepth 100000 in
set_option maxHeartbeats 2000000 in
theorem racked_y (x : Cn) (r : Rs) (y : Fr) (n : Int) (hx : Ok x) (hn : nm n) (hy : thr y.a y.b y.c = false) (w : World) : Calls Try.prog 12 #[cnV x, akV r y, .int .i64 n] w (Gives (.tuple #[cnV zero, .bool false, .int .i64 9]) w) := by
  obtain ⟨W, hW, T0⟩ := Th.mk_ 31 w x r y
  have D := Lib.hid T0
  have hg0 : w.heap.size + 1 + 1 < W.heap.size := T0.G.lt
  clear T0
  have k1 := Lib.hid (fun W => rcheck_any x W)
  rw [chk_ok hx] at k1
  have k2 := Lib.hid (fun W => is_any n W)
  rw [decide_eq_true hn] at k2
  have k3 := Lib.hid (fun W => three_any y.a y.b y.c W)
  rw [hy] at k3
  clear hx hn hy
  have c0 := D.out.P.cell 0
  have c1 := D.out.P.cell 1
  have c2 := D.out.P.cell 2
  have c3 := D.out.P.cell 3
  have c4 := D.out.P.cell 4
  have a0 := D.out.Q.cell 0
  have a1 := D.out.Q.cell 1
  have a2 := D.out.Q.cell 2
  have a3 := D.out.Q.cell 3
  have a4 := D.out.Q.cell 4
  have a5 := D.out.Q.cell 5
  have d0 := D.out.G.cell 0
  have d1 := D.out.G.cell 1
  have d2 := D.out.G.cell 2
  have d3 := D.out.G.cell 3
  have d4 := D.out.G.cell 4
  have e0 := D.out.G.frozen 0
  have e1 := D.out.G.frozen 1
  have e2 := D.out.G.frozen 2
  have e3 := D.out.G.frozen 3
  have e4 := D.out.G.frozen 4
  have b0 := D.out.P.frozen 0
  have b1 := D.out.P.frozen 1
  have b2 := D.out.P.frozen 2
  have b3 := D.out.P.frozen 3
  have b4 := D.out.P.frozen 4
  go_enter Try.func12, Try.ntmps12
  go_wp2_with fail
  rw [← hW]
  clear hW
  refine (k1.out _).mono ?_
  rintro e w1 ⟨rfl, hk⟩
  have D := Lib.hid (D.out.on hk)
  clear c0 c1 c2 c3 c4 a0 a1 a2 a3 a4 a5 d0 e0 b0 d1 e1 b1 d2 e2 b2 d3 e3 b3 d4 e4 b4
  clear hk
  have c0 := D.out.P.cell 0
  have c1 := D.out.P.cell 1
  have c2 := D.out.P.cell 2
  have c3 := D.out.P.cell 3
  have c4 := D.out.P.cell 4
  have a0 := D.out.Q.cell 0
  have a1 := D.out.Q.cell 1
  have a2 := D.out.Q.cell 2
  have a3 := D.out.Q.cell 3
  have a4 := D.out.Q.cell 4
  have a5 := D.out.Q.cell 5
  have d0 := D.out.G.cell 0
  have d1 := D.out.G.cell 1
  have d2 := D.out.G.cell 2
  have d3 := D.out.G.cell 3
  have d4 := D.out.G.cell 4
  have e0 := D.out.G.frozen 0
  have e1 := D.out.G.frozen 1
  have e2 := D.out.G.frozen 2
  have e3 := D.out.G.frozen 3
  have e4 := D.out.G.frozen 4
  have b0 := D.out.P.frozen 0
  have b1 := D.out.P.frozen 1
  have b2 := D.out.P.frozen 2
  have b3 := D.out.P.frozen 3
  have b4 := D.out.P.frozen 4
  have hg0 : w.heap.size + 1 + 1 < w1.heap.size := D.out.G.lt
  go_wp2_with fail
  refine (k2.out _).mono ?_
  rintro e w' ⟨rfl, rfl⟩
  go_wp2_with fail
  refine (k3.out _).mono ?_
  rintro e w2 ⟨rfl, hk⟩
  have D := Lib.hid (D.out.on hk)
  clear c0 c1 c2 c3 c4 a0 a1 a2 a3 a4 a5 d0 e0 b0 d1 e1 b1 d2 e2 b2 d3 e3 b3 d4 e4 b4
  clear hk
  have c0 := D.out.P.cell 0
  have c1 := D.out.P.cell 1
  have c2 := D.out.P.cell 2
  have c3 := D.out.P.cell 3
  have c4 := D.out.P.cell 4
  have a0 := D.out.Q.cell 0
  have a1 := D.out.Q.cell 1
  have a2 := D.out.Q.cell 2
  have a3 := D.out.Q.cell 3
  have a4 := D.out.Q.cell 4
  have a5 := D.out.Q.cell 5
  have d0 := D.out.G.cell 0
  have d1 := D.out.G.cell 1
  have d2 := D.out.G.cell 2
  have d3 := D.out.G.cell 3
  have d4 := D.out.G.cell 4
  have e0 := D.out.G.frozen 0
  have e1 := D.out.G.frozen 1
  have e2 := D.out.G.frozen 2
  have e3 := D.out.G.frozen 3
  have e4 := D.out.G.frozen 4
  have b0 := D.out.P.frozen 0
  have b1 := D.out.P.frozen 1
  have b2 := D.out.P.frozen 2
  have b3 := D.out.P.frozen 3
  have b4 := D.out.P.frozen 4
  have hg0 : w.heap.size + 1 + 1 < w2.heap.size := D.out.G.lt
  go_wp2_with fail
  refine bodyPost_ret (v := .tuple #[cnV zero, .bool false, .int .i64 9]) ?_ rfl ⟨rfl, ?_⟩
  · simp [results, Try.f12, go_sem, d0, d1, d2, d3, d4, zero]
  · exact kept_five D.out.k D.out.g0 _ _ _ _ _

set_option maxRecDepth 100000 in
set_option maxHeartbeats 2000000 in
theorem racked_failed (x : Cn) (r : Rs) (y : Fr) (n : Int) (hx : Ok x) (hn : nm n) (hy : thr y.a y.b y.c = true) (hf : x.f = true) (w : World) : Calls Try.prog 12 #[cnV x, akV r y, .int .i64 n] w (Gives (.tuple #[cnV ⟨x.s, x.a, x.b, x.c, true⟩, .bool false, .int .i64 0]) w) := by
  obtain ⟨W, hW, T0⟩ := Th.mk_ 31 w x r y
  have D := Lib.hid T0
  have hg0 : w.heap.size + 1 + 1 < W.heap.size := T0.G.lt
  clear T0
  have k1 := Lib.hid (fun W => rcheck_any x W)
  rw [chk_ok hx] at k1
  have k2 := Lib.hid (fun W => is_any n W)
  rw [decide_eq_true hn] at k2
  have k3 := Lib.hid (fun W => three_any y.a y.b y.c W)
  rw [hy] at k3
  obtain ⟨s, a, b, c, f⟩ := x
  dsimp only at *
  subst hf
  clear hx hn hy
  have c0 := D.out.P.cell 0
  have c1 := D.out.P.cell 1
  have c2 := D.out.P.cell 2
  have c3 := D.out.P.cell 3
  have c4 := D.out.P.cell 4
  have a0 := D.out.Q.cell 0
  have a1 := D.out.Q.cell 1
  have a2 := D.out.Q.cell 2
  have a3 := D.out.Q.cell 3
  have a4 := D.out.Q.cell 4
  have a5 := D.out.Q.cell 5
  have d0 := D.out.G.cell 0
  have d1 := D.out.G.cell 1
  have d2 := D.out.G.cell 2
  have d3 := D.out.G.cell 3
  have d4 := D.out.G.cell 4
  have e0 := D.out.G.frozen 0
  have e1 := D.out.G.frozen 1
  have e2 := D.out.G.frozen 2
  have e3 := D.out.G.frozen 3
  have e4 := D.out.G.frozen 4
  have b0 := D.out.P.frozen 0
  have b1 := D.out.P.frozen 1
  have b2 := D.out.P.frozen 2
  have b3 := D.out.P.frozen 3
  have b4 := D.out.P.frozen 4
  go_enter Try.func12, Try.ntmps12
  go_wp2_with fail
  rw [← hW]
  clear hW
  refine (k1.out _).mono ?_
  rintro e w1 ⟨rfl, hk⟩
  have D := Lib.hid (D.out.on hk)
  clear c0 c1 c2 c3 c4 a0 a1 a2 a3 a4 a5 d0 e0 b0 d1 e1 b1 d2 e2 b2 d3 e3 b3 d4 e4 b4
  clear hk
  have c0 := D.out.P.cell 0
  have c1 := D.out.P.cell 1
  have c2 := D.out.P.cell 2
  have c3 := D.out.P.cell 3
  have c4 := D.out.P.cell 4
  have a0 := D.out.Q.cell 0
  have a1 := D.out.Q.cell 1
  have a2 := D.out.Q.cell 2
  have a3 := D.out.Q.cell 3
  have a4 := D.out.Q.cell 4
  have a5 := D.out.Q.cell 5
  have d0 := D.out.G.cell 0
  have d1 := D.out.G.cell 1
  have d2 := D.out.G.cell 2
  have d3 := D.out.G.cell 3
  have d4 := D.out.G.cell 4
  have e0 := D.out.G.frozen 0
  have e1 := D.out.G.frozen 1
  have e2 := D.out.G.frozen 2
  have e3 := D.out.G.frozen 3
  have e4 := D.out.G.frozen 4
  have b0 := D.out.P.frozen 0
  have b1 := D.out.P.frozen 1
  have b2 := D.out.P.frozen 2
  have b3 := D.out.P.frozen 3
  have b4 := D.out.P.frozen 4
  have hg0 : w.heap.size + 1 + 1 < w1.heap.size := D.out.G.lt
  go_wp2_with fail
  refine (k2.out _).mono ?_
  rintro e w' ⟨rfl, rfl⟩
  go_wp2_with fail
  refine (k3.out _).mono ?_
  rintro e w2 ⟨rfl, hk⟩
  have D := Lib.hid (D.out.on hk)
  clear c0 c1 c2 c3 c4 a0 a1 a2 a3 a4 a5 d0 e0 b0 d1 e1 b1 d2 e2 b2 d3 e3 b3 d4 e4 b4
  clear hk
  have c0 := D.out.P.cell 0
  have c1 := D.out.P.cell 1
  have c2 := D.out.P.cell 2
  have c3 := D.out.P.cell 3
  have c4 := D.out.P.cell 4
  have a0 := D.out.Q.cell 0
  have a1 := D.out.Q.cell 1
  have a2 := D.out.Q.cell 2
  have a3 := D.out.Q.cell 3
  have a4 := D.out.Q.cell 4
  have a5 := D.out.Q.cell 5
  have d0 := D.out.G.cell 0
  have d1 := D.out.G.cell 1
  have d2 := D.out.G.cell 2
  have d3 := D.out.G.cell 3
  have d4 := D.out.G.cell 4
  have e0 := D.out.G.frozen 0
  have e1 := D.out.G.frozen 1
  have e2 := D.out.G.frozen 2
  have e3 := D.out.G.frozen 3
  have e4 := D.out.G.frozen 4
  have b0 := D.out.P.frozen 0
  have b1 := D.out.P.frozen 1
  have b2 := D.out.P.frozen 2
  have b3 := D.out.P.frozen 3
  have b4 := D.out.P.frozen 4
  have hg0 : w.heap.size + 1 + 1 < w2.heap.size := D.out.G.lt
  go_wp2_with fail
  refine bodyPost_ret (v := .tuple #[cnV ⟨s, a, b, c, true⟩, .bool false, .int .i64 0]) ?_ rfl ⟨rfl, ?_⟩
  · simp [results, Try.f12, go_sem, d0, d1, d2, d3, d4, zero]
  · exact kept_five D.out.k D.out.g0 _ _ _ _ _

set_option maxRecDepth 100000 in
set_option maxHeartbeats 2000000 in
theorem racked_fails (x : Cn) (r : Rs) (y : Fr) (n : Int) (hx : Ok x) (hn : nm n) (hy : thr y.a y.b y.c = true) (hf : x.f = false) (hq : fails x y n) (w : World) : Calls Try.prog 12 #[cnV x, akV r y, .int .i64 n] w (Gives (.tuple #[cnV ⟨x.s, x.a, x.b, x.c, true⟩, .bool false, .int .i64 0]) w) := by
  obtain ⟨W, hW, T0⟩ := Th.mk_ 31 w x r y
  have D := Lib.hid T0
  have hg0 : w.heap.size + 1 + 1 < W.heap.size := T0.G.lt
  clear T0
  have k1 := Lib.hid (fun W => rcheck_any x W)
  rw [chk_ok hx] at k1
  have k2 := Lib.hid (fun W => is_any n W)
  rw [decide_eq_true hn] at k2
  have k3 := Lib.hid (fun W => three_any y.a y.b y.c W)
  rw [hy] at k3
  have hyf : OkF y := ⟨(thr_is.1 hy).1, (thr_is.1 hy).2.1, (thr_is.1 hy).2.2⟩
  have k4 := Lib.hid (fun W => rfails_any x r y n hx hyf W)
  rw [decide_eq_true hq] at k4
  obtain ⟨s, a, b, c, f⟩ := x
  obtain ⟨m, ya, yb, yc⟩ := y
  dsimp only at *
  subst hf
  clear hx hn hy hyf hq
  have c0 := D.out.P.cell 0
  have c1 := D.out.P.cell 1
  have c2 := D.out.P.cell 2
  have c3 := D.out.P.cell 3
  have c4 := D.out.P.cell 4
  have a0 := D.out.Q.cell 0
  have a1 := D.out.Q.cell 1
  have a2 := D.out.Q.cell 2
  have a3 := D.out.Q.cell 3
  have a4 := D.out.Q.cell 4
  have a5 := D.out.Q.cell 5
  have d0 := D.out.G.cell 0
  have d1 := D.out.G.cell 1
  have d2 := D.out.G.cell 2
  have d3 := D.out.G.cell 3
  have d4 := D.out.G.cell 4
  have e0 := D.out.G.frozen 0
  have e1 := D.out.G.frozen 1
  have e2 := D.out.G.frozen 2
  have e3 := D.out.G.frozen 3
  have e4 := D.out.G.frozen 4
  have b0 := D.out.P.frozen 0
  have b1 := D.out.P.frozen 1
  have b2 := D.out.P.frozen 2
  have b3 := D.out.P.frozen 3
  have b4 := D.out.P.frozen 4
  go_enter Try.func12, Try.ntmps12
  go_wp2_with fail
  rw [← hW]
  clear hW
  refine (k1.out _).mono ?_
  rintro e w1 ⟨rfl, hk⟩
  have D := Lib.hid (D.out.on hk)
  clear c0 c1 c2 c3 c4 a0 a1 a2 a3 a4 a5 d0 e0 b0 d1 e1 b1 d2 e2 b2 d3 e3 b3 d4 e4 b4
  clear hk
  have c0 := D.out.P.cell 0
  have c1 := D.out.P.cell 1
  have c2 := D.out.P.cell 2
  have c3 := D.out.P.cell 3
  have c4 := D.out.P.cell 4
  have a0 := D.out.Q.cell 0
  have a1 := D.out.Q.cell 1
  have a2 := D.out.Q.cell 2
  have a3 := D.out.Q.cell 3
  have a4 := D.out.Q.cell 4
  have a5 := D.out.Q.cell 5
  have d0 := D.out.G.cell 0
  have d1 := D.out.G.cell 1
  have d2 := D.out.G.cell 2
  have d3 := D.out.G.cell 3
  have d4 := D.out.G.cell 4
  have e0 := D.out.G.frozen 0
  have e1 := D.out.G.frozen 1
  have e2 := D.out.G.frozen 2
  have e3 := D.out.G.frozen 3
  have e4 := D.out.G.frozen 4
  have b0 := D.out.P.frozen 0
  have b1 := D.out.P.frozen 1
  have b2 := D.out.P.frozen 2
  have b3 := D.out.P.frozen 3
  have b4 := D.out.P.frozen 4
  have hg0 : w.heap.size + 1 + 1 < w1.heap.size := D.out.G.lt
  go_wp2_with fail
  refine (k2.out _).mono ?_
  rintro e w' ⟨rfl, rfl⟩
  go_wp2_with fail
  refine (k3.out _).mono ?_
  rintro e w2 ⟨rfl, hk⟩
  have D := Lib.hid (D.out.on hk)
  clear c0 c1 c2 c3 c4 a0 a1 a2 a3 a4 a5 d0 e0 b0 d1 e1 b1 d2 e2 b2 d3 e3 b3 d4 e4 b4
  clear hk
  have c0 := D.out.P.cell 0
  have c1 := D.out.P.cell 1
  have c2 := D.out.P.cell 2
  have c3 := D.out.P.cell 3
  have c4 := D.out.P.cell 4
  have a0 := D.out.Q.cell 0
  have a1 := D.out.Q.cell 1
  have a2 := D.out.Q.cell 2
  have a3 := D.out.Q.cell 3
  have a4 := D.out.Q.cell 4
  have a5 := D.out.Q.cell 5
  have d0 := D.out.G.cell 0
  have d1 := D.out.G.cell 1
  have d2 := D.out.G.cell 2
  have d3 := D.out.G.cell 3
  have d4 := D.out.G.cell 4
  have e0 := D.out.G.frozen 0
  have e1 := D.out.G.frozen 1
  have e2 := D.out.G.frozen 2
  have e3 := D.out.G.frozen 3
  have e4 := D.out.G.frozen 4
  have b0 := D.out.P.frozen 0
  have b1 := D.out.P.frozen 1
  have b2 := D.out.P.frozen 2
  have b3 := D.out.P.frozen 3
  have b4 := D.out.P.frozen 4
  have hg0 : w.heap.size + 1 + 1 < w2.heap.size := D.out.G.lt
  go_wp2_with fail
  refine (k4.out _).mono ?_
  rintro e w3 ⟨rfl, hk⟩
  have D := Lib.hid (D.out.on hk)
  clear c0 c1 c2 c3 c4 a0 a1 a2 a3 a4 a5 d0 e0 b0 d1 e1 b1 d2 e2 b2 d3 e3 b3 d4 e4 b4
  clear hk
  have c0 := D.out.P.cell 0
  have c1 := D.out.P.cell 1
  have c2 := D.out.P.cell 2
  have c3 := D.out.P.cell 3
  have c4 := D.out.P.cell 4
  have a0 := D.out.Q.cell 0
  have a1 := D.out.Q.cell 1
  have a2 := D.out.Q.cell 2
  have a3 := D.out.Q.cell 3
  have a4 := D.out.Q.cell 4
  have a5 := D.out.Q.cell 5
  have d0 := D.out.G.cell 0
  have d1 := D.out.G.cell 1
  have d2 := D.out.G.cell 2
  have d3 := D.out.G.cell 3
  have d4 := D.out.G.cell 4
  have e0 := D.out.G.frozen 0
  have e1 := D.out.G.frozen 1
  have e2 := D.out.G.frozen 2
  have e3 := D.out.G.frozen 3
  have e4 := D.out.G.frozen 4
  have b0 := D.out.P.frozen 0
  have b1 := D.out.P.frozen 1
  have b2 := D.out.P.frozen 2
  have b3 := D.out.P.frozen 3
  have b4 := D.out.P.frozen 4
  have hg0 : w.heap.size + 1 + 1 < w3.heap.size := D.out.G.lt
  go_wp2_with fail
  refine bodyPost_ret (v := .tuple #[cnV ⟨s, a, b, c, true⟩, .bool false, .int .i64 0]) ?_ rfl ⟨rfl, ?_⟩
  · simp [results, Try.f12, go_sem, d0, d1, d2, d3, d4, zero]
  · exact kept_five (D.out.k.setCell (p := ⟨w.heap.size, 4, none⟩) D.out.p0 _) D.out.g0 _ _ _ _ _

set_option maxRecDepth 100000 in
set_option maxHeartbeats 2000000 in
theorem racked_goes (x : Cn) (r : Rs) (y : Fr) (n : Int) (hx : Ok x) (hn : nm n) (hy : thr y.a y.b y.c = true) (hf : x.f = false) (hq : ¬ fails x y n) (hm : y.m = true) (w : World) : Calls Try.prog 12 #[cnV x, akV r y, .int .i64 n] w (Gives (.tuple #[cnV ⟨x.s, y.a, y.b, y.c, false⟩, .bool (decide (x.c < y.c)), .int .i64 0]) w) := by
  obtain ⟨W, hW, T0⟩ := Th.mk_ 31 w x r y
  have D := Lib.hid T0
  have hg0 : w.heap.size + 1 + 1 < W.heap.size := T0.G.lt
  clear T0
  have k1 := Lib.hid (fun W => rcheck_any x W)
  rw [chk_ok hx] at k1
  have k2 := Lib.hid (fun W => is_any n W)
  rw [decide_eq_true hn] at k2
  have k3 := Lib.hid (fun W => three_any y.a y.b y.c W)
  rw [hy] at k3
  have hyf : OkF y := ⟨(thr_is.1 hy).1, (thr_is.1 hy).2.1, (thr_is.1 hy).2.2⟩
  have k4 := Lib.hid (fun W => rfails_any x r y n hx hyf W)
  rw [decide_eq_false hq] at k4
  obtain ⟨s, a, b, c, f⟩ := x
  obtain ⟨m, ya, yb, yc⟩ := y
  dsimp only at *
  subst hf
  subst hm
  clear hx hn hy hyf hq
  obtain ⟨E, hE⟩ : ∃ E, decide (c < yc) = E := ⟨_, rfl⟩
  rw [hE]
  have c0 := D.out.P.cell 0
  have c1 := D.out.P.cell 1
  have c2 := D.out.P.cell 2
  have c3 := D.out.P.cell 3
  have c4 := D.out.P.cell 4
  have a0 := D.out.Q.cell 0
  have a1 := D.out.Q.cell 1
  have a2 := D.out.Q.cell 2
  have a3 := D.out.Q.cell 3
  have a4 := D.out.Q.cell 4
  have a5 := D.out.Q.cell 5
  have d0 := D.out.G.cell 0
  have d1 := D.out.G.cell 1
  have d2 := D.out.G.cell 2
  have d3 := D.out.G.cell 3
  have d4 := D.out.G.cell 4
  have e0 := D.out.G.frozen 0
  have e1 := D.out.G.frozen 1
  have e2 := D.out.G.frozen 2
  have e3 := D.out.G.frozen 3
  have e4 := D.out.G.frozen 4
  have b0 := D.out.P.frozen 0
  have b1 := D.out.P.frozen 1
  have b2 := D.out.P.frozen 2
  have b3 := D.out.P.frozen 3
  have b4 := D.out.P.frozen 4
  go_enter Try.func12, Try.ntmps12
  go_wp2_with fail
  rw [← hW]
  clear hW
  refine (k1.out _).mono ?_
  rintro e w1 ⟨rfl, hk⟩
  have D := Lib.hid (D.out.on hk)
  clear c0 c1 c2 c3 c4 a0 a1 a2 a3 a4 a5 d0 e0 b0 d1 e1 b1 d2 e2 b2 d3 e3 b3 d4 e4 b4
  clear hk
  have c0 := D.out.P.cell 0
  have c1 := D.out.P.cell 1
  have c2 := D.out.P.cell 2
  have c3 := D.out.P.cell 3
  have c4 := D.out.P.cell 4
  have a0 := D.out.Q.cell 0
  have a1 := D.out.Q.cell 1
  have a2 := D.out.Q.cell 2
  have a3 := D.out.Q.cell 3
  have a4 := D.out.Q.cell 4
  have a5 := D.out.Q.cell 5
  have d0 := D.out.G.cell 0
  have d1 := D.out.G.cell 1
  have d2 := D.out.G.cell 2
  have d3 := D.out.G.cell 3
  have d4 := D.out.G.cell 4
  have e0 := D.out.G.frozen 0
  have e1 := D.out.G.frozen 1
  have e2 := D.out.G.frozen 2
  have e3 := D.out.G.frozen 3
  have e4 := D.out.G.frozen 4
  have b0 := D.out.P.frozen 0
  have b1 := D.out.P.frozen 1
  have b2 := D.out.P.frozen 2
  have b3 := D.out.P.frozen 3
  have b4 := D.out.P.frozen 4
  have hg0 : w.heap.size + 1 + 1 < w1.heap.size := D.out.G.lt
  go_wp2_with fail
  refine (k2.out _).mono ?_
  rintro e w' ⟨rfl, rfl⟩
  go_wp2_with fail
  refine (k3.out _).mono ?_
  rintro e w2 ⟨rfl, hk⟩
  have D := Lib.hid (D.out.on hk)
  clear c0 c1 c2 c3 c4 a0 a1 a2 a3 a4 a5 d0 e0 b0 d1 e1 b1 d2 e2 b2 d3 e3 b3 d4 e4 b4
  clear hk
  have c0 := D.out.P.cell 0
  have c1 := D.out.P.cell 1
  have c2 := D.out.P.cell 2
  have c3 := D.out.P.cell 3
  have c4 := D.out.P.cell 4
  have a0 := D.out.Q.cell 0
  have a1 := D.out.Q.cell 1
  have a2 := D.out.Q.cell 2
  have a3 := D.out.Q.cell 3
  have a4 := D.out.Q.cell 4
  have a5 := D.out.Q.cell 5
  have d0 := D.out.G.cell 0
  have d1 := D.out.G.cell 1
  have d2 := D.out.G.cell 2
  have d3 := D.out.G.cell 3
  have d4 := D.out.G.cell 4
  have e0 := D.out.G.frozen 0
  have e1 := D.out.G.frozen 1
  have e2 := D.out.G.frozen 2
  have e3 := D.out.G.frozen 3
  have e4 := D.out.G.frozen 4
  have b0 := D.out.P.frozen 0
  have b1 := D.out.P.frozen 1
  have b2 := D.out.P.frozen 2
  have b3 := D.out.P.frozen 3
  have b4 := D.out.P.frozen 4
  have hg0 : w.heap.size + 1 + 1 < w2.heap.size := D.out.G.lt
  go_wp2_with fail
  refine (k4.out _).mono ?_
  rintro e w3 ⟨rfl, hk⟩
  have D := Lib.hid (D.out.on hk)
  clear c0 c1 c2 c3 c4 a0 a1 a2 a3 a4 a5 d0 e0 b0 d1 e1 b1 d2 e2 b2 d3 e3 b3 d4 e4 b4
  clear hk
  have c0 := D.out.P.cell 0
  have c1 := D.out.P.cell 1
  have c2 := D.out.P.cell 2
  have c3 := D.out.P.cell 3
  have c4 := D.out.P.cell 4
  have a0 := D.out.Q.cell 0
  have a1 := D.out.Q.cell 1
  have a2 := D.out.Q.cell 2
  have a3 := D.out.Q.cell 3
  have a4 := D.out.Q.cell 4
  have a5 := D.out.Q.cell 5
  have d0 := D.out.G.cell 0
  have d1 := D.out.G.cell 1
  have d2 := D.out.G.cell 2
  have d3 := D.out.G.cell 3
  have d4 := D.out.G.cell 4
  have e0 := D.out.G.frozen 0
  have e1 := D.out.G.frozen 1
  have e2 := D.out.G.frozen 2
  have e3 := D.out.G.frozen 3
  have e4 := D.out.G.frozen 4
  have b0 := D.out.P.frozen 0
  have b1 := D.out.P.frozen 1
  have b2 := D.out.P.frozen 2
  have b3 := D.out.P.frozen 3
  have b4 := D.out.P.frozen 4
  have hg0 : w.heap.size + 1 + 1 < w3.heap.size := D.out.G.lt
  go_wp2_with fail
  refine bodyPost_ret (v := .tuple #[cnV ⟨s, ya, yb, yc, false⟩, .bool E, .int .i64 0]) ?_ rfl ⟨rfl, ?_⟩
  · simp [results, Try.f12, go_sem, d0, d1, d2, d3, d4, zero]
  · exact kept_five (((D.out.k.setCell (p := ⟨w.heap.size, 1, none⟩) D.out.p0 _).setCell (p := ⟨w.heap.size, 2, none⟩) D.out.p0 _).setCell (p := ⟨w.heap.size, 3, none⟩) D.out.p0 _) D.out.g0 _ _ _ _ _

set_option maxRecDepth 100000 in
set_option maxHeartbeats 2000000 in
theorem racked_none (x : Cn) (r : Rs) (y : Fr) (n : Int) (hx : Ok x) (hn : nm n) (hy : thr y.a y.b y.c = true) (hf : x.f = false) (hq : ¬ fails x y n) (hm : y.m = false) (w : World) : Calls Try.prog 12 #[cnV x, akV r y, .int .i64 n] w (Gives (.tuple #[cnV ⟨x.s, x.a, x.b, x.c, false⟩, .bool false, .int .i64 0]) w) := by
  obtain ⟨W, hW, T0⟩ := Th.mk_ 31 w x r y
  have D := Lib.hid T0
  have hg0 : w.heap.size + 1 + 1 < W.heap.size := T0.G.lt
  clear T0
  have k1 := Lib.hid (fun W => rcheck_any x W)
  rw [chk_ok hx] at k1
  have k2 := Lib.hid (fun W => is_any n W)
  rw [decide_eq_true hn] at k2
  have k3 := Lib.hid (fun W => three_any y.a y.b y.c W)
  rw [hy] at k3
  have hyf : OkF y := ⟨(thr_is.1 hy).1, (thr_is.1 hy).2.1, (thr_is.1 hy).2.2⟩
  have k4 := Lib.hid (fun W => rfails_any x r y n hx hyf W)
  rw [decide_eq_false hq] at k4
  obtain ⟨s, a, b, c, f⟩ := x
  obtain ⟨m, ya, yb, yc⟩ := y
  dsimp only at *
  subst hf
  subst hm
  clear hx hn hy hyf hq
  have c0 := D.out.P.cell 0
  have c1 := D.out.P.cell 1
  have c2 := D.out.P.cell 2
  have c3 := D.out.P.cell 3
  have c4 := D.out.P.cell 4
  have a0 := D.out.Q.cell 0
  have a1 := D.out.Q.cell 1
  have a2 := D.out.Q.cell 2
  have a3 := D.out.Q.cell 3
  have a4 := D.out.Q.cell 4
  have a5 := D.out.Q.cell 5
  have d0 := D.out.G.cell 0
  have d1 := D.out.G.cell 1
  have d2 := D.out.G.cell 2
  have d3 := D.out.G.cell 3
  have d4 := D.out.G.cell 4
  have e0 := D.out.G.frozen 0
  have e1 := D.out.G.frozen 1
  have e2 := D.out.G.frozen 2
  have e3 := D.out.G.frozen 3
  have e4 := D.out.G.frozen 4
  have b0 := D.out.P.frozen 0
  have b1 := D.out.P.frozen 1
  have b2 := D.out.P.frozen 2
  have b3 := D.out.P.frozen 3
  have b4 := D.out.P.frozen 4
  go_enter Try.func12, Try.ntmps12
  go_wp2_with fail
  rw [← hW]
  clear hW
  refine (k1.out _).mono ?_
  rintro e w1 ⟨rfl, hk⟩
  have D := Lib.hid (D.out.on hk)
  clear c0 c1 c2 c3 c4 a0 a1 a2 a3 a4 a5 d0 e0 b0 d1 e1 b1 d2 e2 b2 d3 e3 b3 d4 e4 b4
  clear hk
  have c0 := D.out.P.cell 0
  have c1 := D.out.P.cell 1
  have c2 := D.out.P.cell 2
  have c3 := D.out.P.cell 3
  have c4 := D.out.P.cell 4
  have a0 := D.out.Q.cell 0
  have a1 := D.out.Q.cell 1
  have a2 := D.out.Q.cell 2
  have a3 := D.out.Q.cell 3
  have a4 := D.out.Q.cell 4
  have a5 := D.out.Q.cell 5
  have d0 := D.out.G.cell 0
  have d1 := D.out.G.cell 1
  have d2 := D.out.G.cell 2
  have d3 := D.out.G.cell 3
  have d4 := D.out.G.cell 4
  have e0 := D.out.G.frozen 0
  have e1 := D.out.G.frozen 1
  have e2 := D.out.G.frozen 2
  have e3 := D.out.G.frozen 3
  have e4 := D.out.G.frozen 4
  have b0 := D.out.P.frozen 0
  have b1 := D.out.P.frozen 1
  have b2 := D.out.P.frozen 2
  have b3 := D.out.P.frozen 3
  have b4 := D.out.P.frozen 4
  have hg0 : w.heap.size + 1 + 1 < w1.heap.size := D.out.G.lt
  go_wp2_with fail
  refine (k2.out _).mono ?_
  rintro e w' ⟨rfl, rfl⟩
  go_wp2_with fail
  refine (k3.out _).mono ?_
  rintro e w2 ⟨rfl, hk⟩
  have D := Lib.hid (D.out.on hk)
  clear c0 c1 c2 c3 c4 a0 a1 a2 a3 a4 a5 d0 e0 b0 d1 e1 b1 d2 e2 b2 d3 e3 b3 d4 e4 b4
  clear hk
  have c0 := D.out.P.cell 0
  have c1 := D.out.P.cell 1
  have c2 := D.out.P.cell 2
  have c3 := D.out.P.cell 3
  have c4 := D.out.P.cell 4
  have a0 := D.out.Q.cell 0
  have a1 := D.out.Q.cell 1
  have a2 := D.out.Q.cell 2
  have a3 := D.out.Q.cell 3
  have a4 := D.out.Q.cell 4
  have a5 := D.out.Q.cell 5
  have d0 := D.out.G.cell 0
  have d1 := D.out.G.cell 1
  have d2 := D.out.G.cell 2
  have d3 := D.out.G.cell 3
  have d4 := D.out.G.cell 4
  have e0 := D.out.G.frozen 0
  have e1 := D.out.G.frozen 1
  have e2 := D.out.G.frozen 2
  have e3 := D.out.G.frozen 3
  have e4 := D.out.G.frozen 4
  have b0 := D.out.P.frozen 0
  have b1 := D.out.P.frozen 1
  have b2 := D.out.P.frozen 2
  have b3 := D.out.P.frozen 3
  have b4 := D.out.P.frozen 4
  have hg0 : w.heap.size + 1 + 1 < w2.heap.size := D.out.G.lt
  go_wp2_with fail
  refine (k4.out _).mono ?_
  rintro e w3 ⟨rfl, hk⟩
  have D := Lib.hid (D.out.on hk)
  clear c0 c1 c2 c3 c4 a0 a1 a2 a3 a4 a5 d0 e0 b0 d1 e1 b1 d2 e2 b2 d3 e3 b3 d4 e4 b4
  clear hk
  have c0 := D.out.P.cell 0
  have c1 := D.out.P.cell 1
  have c2 := D.out.P.cell 2
  have c3 := D.out.P.cell 3
  have c4 := D.out.P.cell 4
  have a0 := D.out.Q.cell 0
  have a1 := D.out.Q.cell 1
  have a2 := D.out.Q.cell 2
  have a3 := D.out.Q.cell 3
  have a4 := D.out.Q.cell 4
  have a5 := D.out.Q.cell 5
  have d0 := D.out.G.cell 0
  have d1 := D.out.G.cell 1
  have d2 := D.out.G.cell 2
  have d3 := D.out.G.cell 3
  have d4 := D.out.G.cell 4
  have e0 := D.out.G.frozen 0
  have e1 := D.out.G.frozen 1
  have e2 := D.out.G.frozen 2
  have e3 := D.out.G.frozen 3
  have e4 := D.out.G.frozen 4
  have b0 := D.out.P.frozen 0
  have b1 := D.out.P.frozen 1
  have b2 := D.out.P.frozen 2
  have b3 := D.out.P.frozen 3
  have b4 := D.out.P.frozen 4
  have hg0 : w.heap.size + 1 + 1 < w3.heap.size := D.out.G.lt
  go_wp2_with fail
  refine bodyPost_ret (v := .tuple #[cnV ⟨s, a, b, c, false⟩, .bool false, .int .i64 0]) ?_ rfl ⟨rfl, ?_⟩
  · simp [results, Try.f12, go_sem, d0, d1, d2, d3, d4, zero]
  · exact kept_five D.out.k D.out.g0 _ _ _ _ _

theorem racked_any (x : Cn) (r : Rs) (y : Fr) (n : Int) (w : World) : Calls Try.prog 12 #[cnV x, akV r y, .int .i64 n] w (Gives (.tuple #[cnV (akW x y n), .bool (akB x y n), .int .i64 (akE x y n)]) w) := by
  by_cases hx : Ok x
  · by_cases hn : nm n
    · by_cases hy : OkF y
      · obtain ⟨e1, e2, e3⟩ := ak_ok hx hn hy
        rw [e1, e2, e3]
        have ht : thr y.a y.b y.c = true := thr_is.2 ⟨hy.a, hy.b, hy.c⟩
        rcases Bool.eq_false_or_eq_true x.f with hf | hf
        · rw [(next_failed hf y n).1, (next_failed hf y n).2]
          have h := racked_failed x r y n hx hn ht hf w
          rw [show (⟨x.s, x.a, x.b, x.c, true⟩ : Cn) = x from Cn.ext' rfl rfl rfl rfl hf.symm] at h
          exact h
        · by_cases hq : fails x y n
          · rw [(next_fails hf hq).1, (next_fails hf hq).2]
            exact racked_fails x r y n hx hn ht hf hq w
          · rcases Bool.eq_false_or_eq_true y.m with hm | hm
            · rw [(next_goes hf hq hm).1, (next_goes hf hq hm).2]
              have h := racked_goes x r y n hx hn ht hf hq hm w
              rw [show ({ x with a := y.a, b := y.b, c := y.c } : Cn) = ⟨x.s, y.a, y.b, y.c, false⟩ from Cn.ext' rfl rfl rfl rfl hf]
              exact h
            · rw [(next_none hf hq hm).1, (next_none hf hq hm).2]
              have h := racked_none x r y n hx hn ht hf hq hm w
              rw [show (⟨x.s, x.a, x.b, x.c, false⟩ : Cn) = x from Cn.ext' rfl rfl rfl rfl hf.symm] at h
              exact h
      · obtain ⟨e1, e2, e3⟩ := ak_rng (y := y) (n := n) hx (fun h => hy h.2)
        rw [e1, e2, e3]
        exact racked_y x r y n hx hn (thr_not.2 (fun h => hy ⟨h.1, h.2.1, h.2.2⟩)) w
    · obtain ⟨e1, e2, e3⟩ := ak_rng (y := y) (n := n) hx (fun h => hn h.1)
      rw [e1, e2, e3]
      exact racked_n x r y n hx hn w
  · obtain ⟨e1, e2, e3⟩ := ak_no (y := y) (n := n) hx
    rw [e1, e2, e3]
    exact racked_bad x r y n hx w
end Go.Proofs.Ytbclpjfjkgehaaa.Ecn
